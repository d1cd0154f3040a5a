/-
  Packed: RankFacts, Rank, Cur.
-/
import Derived.Test.YtakbolkdbpehoaaGreatProg
import Derived.Lib.Hide
import Derived.Outline
import Derived.Deep.QuietTactic
import Derived.BigQuiet
import Derived.Test.YtakbolkdbpehoaaGreatQ1
import Derived.Test.YtakbolkdbpehoaaGreatQ6
import Derived.Test.YtakbolkdbpehoaaGreatQ7
set_option linter.unusedVariables false
namespace Go.Proofs.YtakbolkdbpehoaaGreat
open Go.RowKit

theorem leadV_map {α β : Type} (h : α → β) (f : β → Int) (v : Int) : ∀ L : List α, leadV f v (L.map h) = leadV (fun x => f (h x)) v L
  | [] => rfl
  | y :: L => by
    rw [List.map_cons]
    unfold leadV
    rw [leadV_map h f v L]
def lenS (L : List (Int × List Int)) : Nat := (L.map fun x => x.2.length).sum
theorem insP_sum (v t : Int) : ∀ L, lenS (insP v t L) = lenS L + 1
  | [] => rfl
  | (u, p) :: r => by
    have ih := insP_sum v t r
    unfold lenS at ih ⊢
    unfold insP
    split
    · simp only [List.map_cons, List.sum_cons, ih]; omega
    · split
      · simp only [List.map_cons, List.sum_cons, List.length_append, List.length_cons, List.length_nil]; omega
      · simp only [List.map_cons, List.sum_cons, List.length_cons, List.length_nil]; omega
theorem insP_ne (v t : Int) : ∀ L : List (Int × List Int), (∀ x ∈ L, x.2 ≠ []) → ∀ x ∈ insP v t L, x.2 ≠ []
  | [], _, x, hx => by
    unfold insP at hx
    rw [List.mem_singleton.1 hx]; simp
  | (u, p) :: r, h, x, hx => by
    unfold insP at hx
    have hr : ∀ x ∈ r, x.2 ≠ [] := fun x hx => h x (List.mem_cons_of_mem _ hx)
    split at hx
    · rcases List.mem_cons.1 hx with rfl | hx
      · exact h _ (List.mem_cons_self ..)
      · exact insP_ne v t r hr x hx
    · split at hx
      · rcases List.mem_cons.1 hx with rfl | hx
        · simp
        · exact hr x hx
      · rcases List.mem_cons.1 hx with rfl | hx
        · simp
        · exact h x hx
theorem insP_mem (v t : Int) : ∀ L : List (Int × List Int), ∀ x ∈ insP v t L, ∀ u ∈ x.2, u = t ∨ ∃ y ∈ L, u ∈ y.2
  | [], x, hx, u, hu => by
    unfold insP at hx
    rw [List.mem_singleton.1 hx] at hu
    exact .inl (List.mem_singleton.1 hu)
  | (q, p) :: r, x, hx, u, hu => by
    unfold insP at hx
    split at hx
    · rcases List.mem_cons.1 hx with rfl | hx
      · exact .inr ⟨_, List.mem_cons_self .., hu⟩
      · rcases insP_mem v t r x hx u hu with h | ⟨y, hy, h⟩
        · exact .inl h
        · exact .inr ⟨y, List.mem_cons_of_mem _ hy, h⟩
    · split at hx
      · rcases List.mem_cons.1 hx with rfl | hx
        · rcases List.mem_append.1 hu with h | h
          · exact .inr ⟨_, List.mem_cons_self .., h⟩
          · exact .inl (List.mem_singleton.1 h)
        · exact .inr ⟨x, List.mem_cons_of_mem _ hx, hu⟩
      · rcases List.mem_cons.1 hx with rfl | hx
        · exact .inl (List.mem_singleton.1 hu)
        · exact .inr ⟨x, hx, hu⟩
theorem insP_len (v t : Int) : ∀ L, (insP v t L).length ≤ L.length + 1
  | [] => Nat.le_refl _
  | (u, p) :: r => by
    have ih := insP_len v t r
    unfold insP
    split
    · simp only [List.length_cons]; omega
    · split
      · simp only [List.length_cons]; omega
      · simp only [List.length_cons]; omega
section
variable (V gg : Nat → Int)
theorem splitP_sum : ∀ k, lenS (splitP V gg k) = k
  | 0 => rfl
  | k + 1 => by unfold splitP; rw [insP_sum, splitP_sum k]
theorem splitP_ne : ∀ k, ∀ x ∈ splitP V gg k, x.2 ≠ []
  | 0, x, hx => by cases hx
  | k + 1, x, hx => insP_ne _ _ _ (splitP_ne k) x hx
theorem splitP_mem : ∀ k, ∀ x ∈ splitP V gg k, ∀ u ∈ x.2, ∃ i, i < k ∧ u = gg i
  | 0, x, hx => by cases hx
  | k + 1, x, hx => fun u hu => by
    rcases insP_mem _ _ _ x hx u hu with h | ⟨y, hy, h⟩
    · exact ⟨k, Nat.lt_succ_self _, h⟩
    · obtain ⟨i, hi, e⟩ := splitP_mem k y hy u h
      exact ⟨i, by omega, e⟩
theorem splitP_len : ∀ k, (splitP V gg k).length ≤ k
  | 0 => Nat.le_refl _
  | k + 1 => by unfold splitP; have := insP_len (V (gg k).toNat) (gg k) (splitP V gg k); have := splitP_len k; omega
theorem splitP_congr {V' gg' : Nat → Int} : ∀ k, (∀ i, i < k → gg i = gg' i) → (∀ i, V i = V' i) → splitP V gg k = splitP V' gg' k
  | 0, _, _ => rfl
  | k + 1, h, hV => by
    unfold splitP
    rw [splitP_congr k (fun i hi => h i (by omega)) hV, h k (Nat.lt_succ_self _), hV]
end
theorem part_le {L : List (Int × List Int)} {x : Int × List Int} (h : x ∈ L) : x.2.length ≤ lenS L := by
  induction L with
  | nil => cases h
  | cons y L ih =>
    unfold lenS at ih ⊢
    rw [List.map_cons, List.sum_cons]
    rcases List.mem_cons.1 h with rfl | h
    · omega
    · have := ih h; omega
theorem sum_pos {L : List (Int × List Int)} (hne : ∀ x ∈ L, x.2 ≠ []) (h : L ≠ []) : 0 < lenS L := by
  cases L with
  | nil => exact absurd rfl h
  | cons y L =>
    unfold lenS
    rw [List.map_cons, List.sum_cons]
    have := List.length_pos_iff.2 (hne y (List.mem_cons_self ..))
    omega
theorem part_lt {L : List (Int × List Int)} {x : Int × List Int} (hne : ∀ x ∈ L, x.2 ≠ []) (h : x ∈ L) (hl : 1 < L.length) : x.2.length < lenS L := by
  cases L with
  | nil => cases h
  | cons y L =>
    have hL : L ≠ [] := by intro e; subst e; simp at hl
    have hp := sum_pos (fun x hx => hne x (List.mem_cons_of_mem _ hx)) hL
    have hy := List.length_pos_iff.2 (hne y (List.mem_cons_self ..))
    rcases List.mem_cons.1 h with rfl | h
    · unfold lenS at hp ⊢; rw [List.map_cons, List.sum_cons]; omega
    · have := part_le h
      unfold lenS at this ⊢; rw [List.map_cons, List.sum_cons]; omega
/-- the parts of a group with equal values of a key -/
def partsL (b : BookD) (key : Int) (gg : Nat → Int) (n : Nat) : List (List Int) := (splitP (bookV b key gg n) gg n).map Prod.snd
theorem partsL_le {b : BookD} {key : Int} {gg : Nat → Int} {n : Nat} {p : List Int} (h : p ∈ partsL b key gg n) : p.length ≤ n := by
  obtain ⟨x, hx, rfl⟩ := List.mem_map.1 h
  have := part_le hx
  rw [splitP_sum] at this
  exact this
theorem partsL_lt {b : BookD} {key : Int} {gg : Nat → Int} {n : Nat} {p : List Int} (h : p ∈ partsL b key gg n) (hl : 1 < (partsL b key gg n).length) : p.length < n := by
  obtain ⟨x, hx, rfl⟩ := List.mem_map.1 h
  have := part_lt (splitP_ne _ _ _) hx (by unfold partsL at hl; rwa [List.length_map] at hl)
  rw [splitP_sum] at this
  exact this
theorem partsL_ne {b : BookD} {key : Int} {gg : Nat → Int} {n : Nat} {p : List Int} (h : p ∈ partsL b key gg n) : p ≠ [] := by
  obtain ⟨x, hx, rfl⟩ := List.mem_map.1 h
  exact splitP_ne _ _ _ x hx
theorem partsL_mem {b : BookD} {key : Int} {gg : Nat → Int} {n : Nat} {p : List Int} (h : p ∈ partsL b key gg n) : ∀ u ∈ p, ∃ i, i < n ∧ u = gg i := by
  obtain ⟨x, hx, rfl⟩ := List.mem_map.1 h
  exact splitP_mem _ _ _ x hx
theorem partsL_len {b : BookD} {key : Int} {gg : Nat → Int} {n : Nat} : (partsL b key gg n).length ≤ n := by
  unfold partsL; rw [List.length_map]; exact splitP_len _ _ _
/-- what a ranking from a step on has before it -/
def rankM (nl n s : Nat) : Nat := n * (nl + 1) + (nl - s)
/-- the step from which the parts of a group are ranked -/
def nextS (b : BookD) (m s : Nat) : Nat := if 1 < m ∧ b.again = true ∧ mutualB (b.l s) = true then 0 else s + 1
/-- the ranking of a group by the keys from a step on -/
def rankF (b : BookD) : Nat → List Int → Nat → List (List Int)
  | 0, _, _ => []
  | f + 1, G, s => if G = [] then [] else if G.length = 1 ∨ b.nl ≤ s then [G] else
      (partsL b (b.l s) (getI G) G.length).flatMap fun p => rankF b f p (nextS b (partsL b (b.l s) (getI G) G.length).length s)
theorem rankM_lt {b : BookD} {G p : List Int} {s : Nat} (hs : s < b.nl) (h : p ∈ partsL b (b.l s) (getI G) G.length) :
    rankM b.nl p.length (nextS b (partsL b (b.l s) (getI G) G.length).length s) < rankM b.nl G.length s := by
  unfold rankM nextS
  have h1 := partsL_le h
  split
  · next hh =>
    have h2 := partsL_lt h hh.1
    have h3 : (p.length + 1) * (b.nl + 1) ≤ G.length * (b.nl + 1) := Nat.mul_le_mul_right _ h2
    have h4 : (p.length + 1) * (b.nl + 1) = p.length * (b.nl + 1) + (b.nl + 1) := Nat.succ_mul _ _
    omega
  · have h3 : p.length * (b.nl + 1) ≤ G.length * (b.nl + 1) := Nat.mul_le_mul_right _ h1
    omega
theorem rankF_fuel (b : BookD) : ∀ f f' G s, rankM b.nl G.length s < f → rankM b.nl G.length s < f' → rankF b f G s = rankF b f' G s
  | 0, _, _, _, h, _ => absurd h (Nat.not_lt_zero _)
  | _ + 1, 0, _, _, _, h => absurd h (Nat.not_lt_zero _)
  | f + 1, f' + 1, G, s, h, h' => by
    unfold rankF
    by_cases hG : G = []
    · rw [if_pos hG, if_pos hG]
    · rw [if_neg hG, if_neg hG]
      by_cases hs : G.length = 1 ∨ b.nl ≤ s
      · rw [if_pos hs, if_pos hs]
      · rw [if_neg hs, if_neg hs, List.flatMap_def, List.flatMap_def]
        congr 1
        refine List.map_congr_left fun p hp => ?_
        have := rankM_lt (b := b) (s := s) (by omega) hp
        exact rankF_fuel b f f' p _ (by omega) (by omega)
/-- the ranking of a group -/
def rankP (b : BookD) (G : List Int) (s : Nat) : List (List Int) := rankF b (rankM b.nl G.length s + 1) G s
theorem rankP_nil (b : BookD) (s : Nat) : rankP b [] s = [] := by
  unfold rankP rankF; rw [if_pos rfl]
theorem rankP_one (b : BookD) {G : List Int} {s : Nat} (hG : G ≠ []) (h : G.length = 1 ∨ b.nl ≤ s) : rankP b G s = [G] := by
  unfold rankP rankF; rw [if_neg hG, if_pos h]
theorem rankP_step (b : BookD) {G : List Int} {s : Nat} (hG : G ≠ []) (h1 : G.length ≠ 1) (hs : s < b.nl) :
    rankP b G s = (partsL b (b.l s) (getI G) G.length).flatMap fun p => rankP b p (nextS b (partsL b (b.l s) (getI G) G.length).length s) := by
  unfold rankP
  conv => lhs; unfold rankF
  rw [if_neg hG, if_neg (by omega), List.flatMap_def, List.flatMap_def]
  congr 1
  refine List.map_congr_left fun p hp => ?_
  exact rankF_fuel b _ _ p _ (rankM_lt hs hp) (Nat.lt_succ_self _)
end Go.Proofs.YtakbolkdbpehoaaGreat
set_option linter.unusedVariables false
namespace Go.Proofs.YtakbolkdbpehoaaGreat
open Go.RowKit

theorem rankP_ind (b : BookD) {P : List Int → Nat → List (List Int) → Prop} (h0 : ∀ s, P [] s []) (h1 : ∀ G s, G ≠ [] → (G.length = 1 ∨ b.nl ≤ s) → P G s [G])
    (h2 : ∀ G s, G ≠ [] → G.length ≠ 1 → s < b.nl → (∀ p ∈ partsL b (b.l s) (getI G) G.length, P p (nextS b (partsL b (b.l s) (getI G) G.length).length s) (rankP b p (nextS b (partsL b (b.l s) (getI G) G.length).length s))) → P G s (rankP b G s)) : ∀ G s, P G s (rankP b G s) := by
  have H : ∀ m G s, rankM b.nl G.length s < m → P G s (rankP b G s) := by
    intro m
    induction m with
    | zero => intro G s h; exact absurd h (Nat.not_lt_zero _)
    | succ m ih =>
      intro G s h
      by_cases hG : G = []
      · subst hG; rw [rankP_nil]; exact h0 s
      by_cases hs : G.length = 1 ∨ b.nl ≤ s
      · rw [rankP_one b hG hs]; exact h1 G s hG hs
      · exact h2 G s hG (by omega) (by omega) fun p hp => ih p _ (by have := rankM_lt (b := b) (G := G) (s := s) (by omega) hp; omega)
  exact fun G s => H _ G s (Nat.lt_succ_self _)
theorem parts_sum (b : BookD) (key : Int) (gg : Nat → Int) (n : Nat) : ((partsL b key gg n).map List.length).sum = n := by
  have h := splitP_sum (bookV b key gg n) gg n
  unfold lenS at h
  unfold partsL
  rw [List.map_map]
  exact h
theorem flat_le {f g : List Int → Nat} : ∀ (L : List (List Int)), (∀ p ∈ L, f p ≤ g p) → (L.map f).sum ≤ (L.map g).sum
  | [], _ => Nat.le_refl _
  | p :: L, h => by
    have h1 := flat_le (f := f) (g := g) L fun q hq => h q (List.mem_cons_of_mem _ hq)
    have h2 := h p (List.mem_cons_self ..)
    simp only [List.map_cons, List.sum_cons]
    omega
theorem rankP_len (b : BookD) : ∀ G s, (rankP b G s).length ≤ G.length := by
  refine rankP_ind b (P := fun G _ L => L.length ≤ G.length) (fun s => by simp) (fun G s hG _ => ?_) fun G s hG h1 hs ih => ?_
  · have := List.length_pos_iff.2 hG
    simp; omega
  · show (rankP b G s).length ≤ G.length
    rw [rankP_step b hG h1 hs, List.length_flatMap]
    refine Nat.le_trans (flat_le (g := List.length) _ fun p hp => ih p hp) ?_
    rw [parts_sum]
    exact Nat.le_refl _
theorem take_flat {α β : Type} (f : α → List β) (L : List α) (k : Nat) : ((L.take k).flatMap f).length ≤ (L.flatMap f).length := by
  conv => rhs; rw [← List.take_append_drop k L, List.flatMap_append, List.length_append]
  omega
theorem take_flat_succ {α β : Type} (f : α → List β) (L : List α) (k : Nat) {x : α} (h : L[k]? = some x) : (L.take (k + 1)).flatMap f = (L.take k).flatMap f ++ f x := by
  obtain ⟨hk, rfl⟩ := List.getElem?_eq_some_iff.1 h
  rw [← List.take_append_getElem hk, List.flatMap_append]
  simp
theorem getI_range (G : List Int) : ((List.range G.length).map fun j => Value.int .i64 (getI G j)) = G.map (Value.int .i64) := by
  apply List.ext_getElem?
  intro j
  rw [List.getElem?_map, List.getElem?_map]
  by_cases hj : j < G.length
  · rw [List.getElem?_range hj, List.getElem?_eq_getElem hj]
    simp [getI, hj]
  · rw [List.getElem?_eq_none (by simp; omega), List.getElem?_eq_none (by omega)]
    rfl
theorem LL.rec {w : World} {B : Nat} {v : Value} {T : List (Value × List Int)} (h : LL w B v T) (hn : T.length ≤ 9223372036854775807) :
    ∃ g, RecRow 1 w v T.length g ∧ (∀ i, i < T.length → (g i).length = 1) ∧ (∀ i, i < T.length → ∀ u ∈ g i, u.oneCell' = true) ∧ flatR g T.length = T.map Prod.fst := by
  refine ⟨fun i => [(T.map Prod.fst).getD i undef], RecRow.of_owns h.1 hn (fun i hi j u hu => ?_) (fun _ _ => by simp), fun _ _ => by simp, fun i hi u hu => ?_, ?_⟩
  · cases j with
    | zero =>
      simp only [List.getElem?_cons_zero, Option.some.injEq] at hu
      subst hu
      rw [Nat.mul_one, Nat.add_zero, List.getD_eq_getElem?_getD, List.getElem?_eq_getElem (by simpa using hi)]
      rfl
    | succ j => simp at hu
  · rw [List.mem_singleton.1 hu, List.getD_eq_getElem?_getD, List.getElem?_eq_getElem (by simpa using hi)]
    simp only [List.getElem_map, Option.getD_some]
    exact one_of_slice (h.2.1 _ (List.getElem_mem hi))
  · unfold flatR
    apply List.ext_getElem?
    intro j
    have e : ∀ n, (List.range n).flatMap (fun i => [(T.map Prod.fst).getD i undef]) = (List.range n).map fun i => (T.map Prod.fst).getD i undef := fun n => by
      induction n with
      | zero => rfl
      | succ n ih => rw [List.range_succ, List.flatMap_append, List.map_append, ih]; simp
    rw [e, List.getElem?_map]
    by_cases hj : j < T.length
    · rw [List.getElem?_range hj]
      simp [hj]
    · rw [List.getElem?_eq_none (by simp; omega), List.getElem?_eq_none (by simp; omega)]
      rfl
theorem LL.nil {w : World} : LL (w.alloc (.cells #[] 24)) w.heap.size (.slice (some ⟨w.heap.size, 0, none⟩) 0 0) [] :=
  ⟨World.ownsRow_lit (e := 24) (size := 1) w #[] 0 (Nat.le_refl _) (by decide) rfl, ⟨(fun x hx => by cases hx), (by unfold ApartL; simp)⟩⟩
theorem LL.one {w : World} {B : Nat} {v : Value} {G : List Int} (h : w.ownsRow B 3 1 v G.length (G.map (Value.int .i64))) (hB : B ≤ w.heap.size) : LL (w.alloc (.cells #[v] 24)) B (.slice (some ⟨w.heap.size, 0, none⟩) 1 1) [(v, G)] := by
  refine ⟨owns_mono (World.ownsRow_lit (e := 24) (size := 1) w #[v] 1 (Nat.le_refl _) (by decide) rfl) hB, fun x hx => ?_, ?_⟩
  · rw [List.mem_singleton.1 hx]
    exact h.alloc _
  · refine List.pairwise_cons.2 ⟨fun z hz => ?_, by simp⟩
    rw [List.mem_singleton.1 hz]
    intro k h1 h2
    have := (h.lt k h2).2
    have h3 : w.heap.size = k := by simpa [Value.ownBlock] using h1
    omega
set_option maxRecDepth 100000 in
set_option maxHeartbeats 2000000 in
theorem l07Rank_spec (vf vl vg vfa vta : Value) (b : BookD) (hp : bookP b) : ∀ (m : Nat) (G : List Int) (s : Nat) (gv : Value) (w : World), rankM b.nl G.length s < m → BookRow w vf vl vg vfa vta b → IntRow w gv G.length (getI G) → teamsP b.nf G.length (getI G) → G.length ≤ 1048576 → (s : Int) ≤ 9223372036854775807 →
    Calls Tryz.prog 67 #[.agg #[vf, .int .i64 b.win, .int .i64 b.draw, .int .i64 b.loss, vl, .bool b.again, vg, vfa, vta], gv, .int .i64 s] w (ListsL w (rankP b G s)) := by
  intro m
  induction m with
  | zero => intro G s gv w hm; exact absurd hm (Nat.not_lt_zero _)
  | succ m IH =>
  intro G s gv w hm h hgv ht hn6 hs63
  obtain ⟨i0, hi, hz0, hz1, hz2⟩ := info_parts Tryz.infoI
  obtain ⟨l0, li, lz0, lz1, lz2⟩ := info_parts Tryz.infoL
  obtain ⟨fa, fc, la, lc, ga, gc, qa, qc, ta, tc, rfl, rfl, rfl, rfl, rfl⟩ := h.form
  obtain ⟨xa, xc, rfl, hx64, _⟩ := hgv.form
  have hn8 : b.nl ≤ 8 := by have := hp.2.1.2.2.2.1; omega
  have C2 := Lib.hid (fun key gv n wa h1 h2 h3 h4 => l07Split_spec (.slice fa b.nf fc) (.slice la b.nl lc) (.slice ga b.m gc) (.slice qa b.nfa qc) (.slice ta b.nta tc) b key gv n (getI G) wa hp h1 h2 h3 h4)
  have HP := Lib.hid hp
  have b0 := (Below.refl w.heap.size w).alloc (Nat.le_refl _) (.cells #[.slice fa b.nf fc, .int .i64 b.win, .int .i64 b.draw, .int .i64 b.loss, .slice la b.nl lc, .bool b.again, .slice ga b.m gc, .slice qa b.nfa qc, .slice ta b.nta tc] 29)
  have BX0 := Lib.hid (BoxN.made (Below.refl (w.alloc (.cells #[.slice fa b.nf fc, .int .i64 b.win, .int .i64 b.draw, .int .i64 b.loss, .slice la b.nl lc, .bool b.again, .slice ga b.m gc, .slice qa b.nfa qc, .slice ta b.nta tc] 29)).heap.size (w.alloc (.cells #[.slice fa b.nf fc, .int .i64 b.win, .int .i64 b.draw, .int .i64 b.loss, .slice la b.nl lc, .bool b.again, .slice ga b.m gc, .slice qa b.nfa qc, .slice ta b.nta tc] 29))) (B := w.heap.size) rfl)
  have BR0 := Lib.hid (h.below b0 (Nat.le_refl _))
  have GR0 := Lib.hid (hgv.below b0 (Nat.le_refl _))
  have HB0 := Lib.hid b0
  have es : (w.alloc (.cells #[.slice fa b.nf fc, .int .i64 b.win, .int .i64 b.draw, .int .i64 b.loss, .slice la b.nl lc, .bool b.again, .slice ga b.m gc, .slice qa b.nfa qc, .slice ta b.nta tc] 29)).heap.size = w.heap.size + 1 := by simp
  have ES := Lib.hid es
  have HT := Lib.hid ht
  have HM := Lib.hid hm
  clear h b0 hgv hp ht es hm
  have d0 := BX0.out.2 0 _ rfl
  have d1 := BX0.out.2 1 _ rfl
  have d2 := BX0.out.2 2 _ rfl
  have d3 := BX0.out.2 3 _ rfl
  have d4 := BX0.out.2 4 _ rfl
  have d5 := BX0.out.2 5 _ rfl
  have d6 := BX0.out.2 6 _ rfl
  have d7 := BX0.out.2 7 _ rfl
  have d8 := BX0.out.2 8 _ rfl
  by_cases h0 : G = []
  · subst h0
    simp only [List.length_nil] at GR0 hx64 ⊢
    rw [rankP_nil]
    go_enter Tryz.func67, Tryz.ntmps67
    go_wp2
    go_ret
    have L0 := LL.nil (w := w.alloc (.cells #[.slice fa b.nf fc, .int .i64 b.win, .int .i64 b.draw, .int .i64 b.loss, .slice la b.nl lc, .bool b.again, .slice ga b.m gc, .slice qa b.nfa qc, .slice ta b.nta tc] 29))
    rw [ES.out] at L0
    exact ⟨_, [], rfl, rfl, L0.mono (by omega), HB0.out.alloc (by simp) _⟩
  have hpos := List.length_pos_iff.2 h0
  obtain ⟨n, hn⟩ : ∃ n, G.length = n := ⟨_, rfl⟩
  rw [hn] at GR0 HT HM hx64 hn6 hpos ⊢
  have HN := Lib.hid hn
  have g0 : ((n : Int) == 0) = false := beq_eq_false_iff_ne.2 (by omega)
  have g0' : (n == 0) = false := beq_eq_false_iff_ne.2 (by omega)
  clear hn
  by_cases h1 : n = 1 ∨ b.nl ≤ s
  · rw [rankP_one b h0 (by rw [HN.out]; exact h1)]
    have HG : Hid (((List.range n).map fun j => Value.int .i64 (getI G j)) = G.map (Value.int .i64)) := by show _ = _; rw [← HN.out]; exact getI_range G
    have hways : ((n : Int) == 1) = true ∨ ((n : Int) == 1) = false ∧ decide ((b.nl : Int) ≤ s) = true ∧ decide (b.nl ≤ s) = true := by
      rcases h1 with h1 | h1
      · exact .inl (beq_iff_eq.2 (by omega))
      · by_cases h2 : n = 1
        · exact .inl (beq_iff_eq.2 (by omega))
        · exact .inr ⟨beq_eq_false_iff_ne.2 (by omega), decide_eq_true (by omega), decide_eq_true h1⟩
    clear C2 IH h1 HT HM
    go_enter Tryz.func67, Tryz.ntmps67
    rcases hways with g1 | ⟨g1, g2, g3⟩
    all_goals
      go_wp2_with (at_builtin; refine wpList_cloneI rfl (.tmp 28) (.tmp 29) 24 rfl 3 Tryz.underlying24 hi hz0 hz1 hz2 (by simp [go_sem]) rfl GR0.out hpos (by omega) ?_; intro gg5 c5 w5 o5 r5 b5 ge5 lt5; have O5 := Lib.hid o5; have HB5 := Lib.hid (HB0.out.trans (b5.mono HB0.out.size)); clear o5 r5 b5)

      go_ret
      have hO := O5.out
      rw [HG.out] at hO
      have hO2 : w5.ownsRow w.heap.size 3 1 (.slice (some ⟨gg5, 0, none⟩) n c5) G.length (G.map (Value.int .i64)) := by rw [HN.out]; exact owns_mono hO HB0.out.size
      exact ⟨_, [(_, G)], rfl, rfl, LL.one hO2 HB5.out.size, HB5.out.alloc HB5.out.size _⟩
  have hn1 : n ≠ 1 := fun e => h1 (.inl e)
  have hsl : s < b.nl := by omega
  have g1 : ((n : Int) == 1) = false := beq_eq_false_iff_ne.2 (by omega)
  have g2 : decide ((b.nl : Int) ≤ s) = false := decide_eq_false (by omega)
  have g3 : decide (b.nl ≤ s) = false := decide_eq_false (by omega)
  have hsl' : (s : Int) < b.nl := by omega
  obtain ⟨lb, lof, rfl, hlc, cl⟩ := int_at BR0.out.2.1 hsl
  have HR : Hid (rankP b G s = (partsL b (b.l s) (getI G) n).flatMap fun p => rankP b p (nextS b (partsL b (b.l s) (getI G) n).length s)) := by
    have := rankP_step b h0 (by rw [HN.out]; exact hn1) hsl
    rw [HN.out] at this
    exact this
  have HLT : Hid (∀ p ∈ partsL b (b.l s) (getI G) n, rankM b.nl p.length (nextS b (partsL b (b.l s) (getI G) n).length s) < m) := fun p hp => by
    have := rankM_lt (b := b) (G := G) hsl (by rw [HN.out]; exact hp)
    rw [HN.out] at this
    have := HM.out
    omega
  have hrl := rankP_len b G s
  rw [HN.out] at hrl
  have HRL : Hid ((rankP b G s).length ≤ n) := hrl
  rw [HR.out]
  rw [HR.out] at HRL
  have HNX : Hid (nextS b (partsL b (b.l s) (getI G) n).length s = if 1 < (partsL b (b.l s) (getI G) n).length ∧ b.again = true ∧ mutualB (b.l s) = true then 0 else s + 1) := rfl
  have HPL : Hid (∀ p ∈ partsL b (b.l s) (getI G) n, p.length ≤ n ∧ teamsP b.nf p.length (getI p)) := fun p hp => ⟨partsL_le hp, fun i hi => by
    obtain ⟨j, hj, e⟩ := partsL_mem hp (getI p i) (by simp [getI, hi])
    rw [e]
    exact HT.out j hj⟩
  have CMU : Hid (∀ wa, Calls Tryz.prog 108 #[.int .i64 (b.l s)] wa fun e w' => e = .returned (.bool (mutualB (b.l s))) ∧ Below wa.heap.size wa w') := fun wa => (isMutual_spec (b.l s) wa).mono fun _ _ h => ⟨h.1, by rw [← h.2]; exact Below.refl _ _⟩
  have CSP : Hid (∀ wa, BookRow wa (.slice fa b.nf fc) (.slice (some ⟨lb, lof, none⟩) b.nl lc) (.slice ga b.m gc) (.slice qa b.nfa qc) (.slice ta b.nta tc) b → IntRow wa (.slice xa n xc) n (getI G) → Calls Tryz.prog 54 #[.agg #[.slice fa b.nf fc, .int .i64 b.win, .int .i64 b.draw, .int .i64 b.loss, .slice (some ⟨lb, lof, none⟩) b.nl lc, .bool b.again, .slice ga b.m gc, .slice qa b.nfa qc, .slice ta b.nta tc], .int .i64 (b.l s), .slice xa n xc] wa (ListsL wa (partsL b (b.l s) (getI G) n))) := fun wa h1 h2 => C2.out _ _ _ _ h1 h2 HT.out hn6
  have hpn := partsL_len (b := b) (key := b.l s) (gg := getI G) (n := n)
  clear C2 HT HM HR h1 hrl
  generalize partsL b (b.l s) (getI G) n = PL at *
  generalize mutualB (b.l s) = mu at *
  generalize b.l s = key at *
  generalize nextS b PL.length s = nx at *
  have CR : Hid (∀ z : Int, z = (nx : Int) → ∀ p ∈ PL, ∀ pv wa, BookRow wa (.slice fa b.nf fc) (.slice (some ⟨lb, lof, none⟩) b.nl lc) (.slice ga b.m gc) (.slice qa b.nfa qc) (.slice ta b.nta tc) b → IntRow wa pv p.length (getI p) → Calls Tryz.prog 67 #[.agg #[.slice fa b.nf fc, .int .i64 b.win, .int .i64 b.draw, .int .i64 b.loss, .slice (some ⟨lb, lof, none⟩) b.nl lc, .bool b.again, .slice ga b.m gc, .slice qa b.nfa qc, .slice ta b.nta tc], pv, .int .i64 z] wa (ListsL wa (rankP b p nx))) := by
    intro z hz p hp pv wa h1 h2
    subst hz
    refine IH p nx pv wa (HLT.out p hp) h1 h2 (HPL.out p hp).2 (by have := (HPL.out p hp).1; omega) ?_
    have := HNX.out
    split at this <;> omega
  have HRS := Lib.hid (rankP_len b)
  clear IH HLT HP
  generalize b.again = ag at *
  have hw : ¬ 1 < PL.length ∨ (1 < PL.length ∧ ag = false) ∨ (1 < PL.length ∧ ag = true ∧ mu = false) ∨ (1 < PL.length ∧ ag = true ∧ mu = true) := by
    by_cases h : 1 < PL.length
    · cases ag <;> cases mu <;> simp [h]
    · exact .inl h
  go_enter Tryz.func67, Tryz.ntmps67
  rcases hw with hA | ⟨hA, rfl⟩ | ⟨hA, rfl, rfl⟩ | ⟨hA, rfl, rfl⟩
  · have HZ : Hid ((s : Int) + 1 = nx) := by have := HNX.out; rw [if_neg (fun h => hA h.1)] at this; show _ = _; omega
    clear HNX
    go_wp2_with fail
    refine (CSP.out _ BR0.out GR0.out).mono ?_
    rintro e w2 ⟨v8, T, rfl, hT, hLL, b1⟩
    have BX2 := Lib.hid (BoxN.below BX0.out b1)
    have BR2 := Lib.hid (BR0.out.below b1 (Nat.le_refl _))
    have HB2 := Lib.hid (HB0.out.trans (b1.mono HB0.out.size))
    have HL2 := Lib.hid hLL
    have HPT := Lib.hid hT
    obtain ⟨pa, pc, hvf⟩ := owns_form hLL.1
    subst hvf
    have hTl : T.length = PL.length := by rw [← hT, List.length_map]
    have hTn : T.length ≤ 1048576 := by omega
    have g4 : decide ((1 : Int) < (T.length : Int)) = false := by rw [hTl]; first | exact decide_eq_true (by omega) | exact decide_eq_false (by omega)
    have g5 : decide (1 < T.length) = false := by rw [hTl]; first | exact decide_eq_true (by omega) | exact decide_eq_false (by omega)
    have HTL := Lib.hid hTl
    clear d0 d1 d2 d3 d4 d5 d6 d7 d8 BX0 BR0 GR0 HB0 cl CSP hT hLL b1 hTl
    have d0 := BX2.out.2 0 _ rfl
    have d5 := BX2.out.2 5 _ rfl
    go_wp2
    clear g4 g5 d5
    obtain ⟨D, hD⟩ : ∃ D, w2.heap.size = D := ⟨_, rfl⟩
    have HD := Lib.hid hD
    have hDw : w.heap.size ≤ D := by have := HB2.out.size; omega
    have L0 : Hid (LL (w2.alloc (.cells #[] 24)) D (.slice (some ⟨D, 0, none⟩) 0 0) []) := by have := LL.nil (w := w2); rw [hD] at this; exact this
    have HB3 : Hid (Below D w2 (w2.alloc (.cells #[] 24))) := (Below.refl _ _).alloc (by omega) _
    rw [hD]
    clear hD
    go_loopw [10, 59] (fun ov iv wr => ∃ (k : Nat) (R : List (Value × List Int)), k ≤ T.length ∧ iv = .int .i64 k ∧ Hid (R.map Prod.snd = (PL.take k).flatMap fun p => rankP b p nx) ∧ Hid (LL wr D ov R) ∧ Hid (Below D w2 wr)) (fun _ iv _ => T.length - (intOf iv).toNat)
    case atStart => exact ⟨0, [], Nat.zero_le _, rfl, rfl, L0, HB3⟩
    case round =>
      clear L0 HB3
      obtain ⟨k, R, hk, rfl, hR, HL, HB⟩ := hrel
      have hDr : D ≤ wr.heap.size := by have h7 := HB.out.size; have h8 := HD.out; omega
      by_cases hlt : k < T.length
      · obtain ⟨y, hy⟩ : ∃ y, T[k]? = some y := ⟨_, List.getElem?_eq_getElem hlt⟩
        have hyp : PL[k]? = some y.2 := by rw [← HPT.out, List.getElem?_map, hy]; rfl
        have hyP : y.2 ∈ PL := List.mem_of_getElem? hyp
        have LLr := HL2.out.below HB.out (by have := HD.out; omega)
        have hrow := LLr.2.1 _ (List.mem_of_getElem? hy)
        have hpn2 : y.2.length ≤ n := (HPL.out _ hyP).1
        obtain ⟨pg, pcap, he, hpc, _, cp⟩ := vals_at (x := y.1) (j := k) LLr.1 (by rw [List.getElem?_map, hy]; rfl)
        simp only [Value.slice.injEq, true_and] at he
        obtain ⟨rfl, rfl⟩ := he
        have PR := Lib.hid (IntRow.of_list hrow (by omega))
        obtain ⟨ya, yc, hyf⟩ := owns_form hrow
        have CRk := Lib.hid (CR.out _ HZ.out _ hyP)
        have HSU : Hid ((PL.take (k + 1)).flatMap (fun p => rankP b p nx) = R.map Prod.snd ++ rankP b y.2 nx) := by show _ = _; rw [take_flat_succ _ _ _ hyp, hR.out]
        have HRk : Hid (R.length + (rankP b y.2 nx).length ≤ n) := by
          have e1 := congrArg List.length HSU.out
          rw [List.length_append, List.length_map] at e1
          have e2 := take_flat (fun p => rankP b p nx) PL (k + 1)
          have e3 := HRL.out
          show _ ≤ _
          omega
        have BXr := Lib.hid (BoxN.below BX2.out (HB.out.mono (by have := HD.out; omega)))
        have BRr := Lib.hid (BR2.out.below HB.out (by have := HD.out; omega))
        have hklt : (k : Int) < T.length := by omega
        clear hyp hyP LLr hrow hR hy
        generalize y.2 = p at *
        generalize y.1 = yv at *
        subst hyf
        have d0 := BXr.out.2 0 _ rfl
        have d1 := BXr.out.2 1 _ rfl
        have d2 := BXr.out.2 2 _ rfl
        have d3 := BXr.out.2 3 _ rfl
        have d4 := BXr.out.2 4 _ rfl
        have d5 := BXr.out.2 5 _ rfl
        have d6 := BXr.out.2 6 _ rfl
        have d7 := BXr.out.2 7 _ rfl
        have d8 := BXr.out.2 8 _ rfl
        go_wp2_with fail
        refine (CRk.out _ _ BRr.out PR.out).mono ?_
        rintro e w4 ⟨rv, T2, rfl, hT2, hL2, b4⟩
        have HT2 := Lib.hid hT2
        have hl2 : T2.length = (rankP b p nx).length := by rw [← hT2, List.length_map]
        have hRm : R.length + T2.length ≤ 1048576 := by have := HRk.out; omega
        obtain ⟨gR, hg1, hg2, hg3, hg4⟩ := hL2.rec (by omega)
        have HG1 := Lib.hid hg1
        have HG2 := Lib.hid hg2
        have HG3 := Lib.hid hg3
        have HG4 := Lib.hid hg4
        have HLr := Lib.hid (HL.out.below b4 (Nat.le_refl _))
        have HL4 := Lib.hid hL2
        have HB4 := Lib.hid b4
        have hsz4 : D ≤ w4.heap.size := Nat.le_trans hDr b4.size
        obtain ⟨ra, rc, hrf⟩ := owns_form hL2.1
        subst hrf
        clear d0 d1 d2 d3 d4 d5 d6 d7 d8 hT2 hL2 b4 hg1 hg2 hg3 hg4 hl2 CRk HRk
        go_wp2_with (at_builtin; refine wpList_appendR rfl (.tmp 63) (.tmp 67) 34 rfl D 24 Tryz.underlying34 li lz0 lz1 lz2 rfl (by decide) rfl HLr.out.1 rfl HG1.out HG2.out HG3.out hRm (by omega) hsz4 ?_; intro vv w5 o5 gr5 at5; have O5 := Lib.hid o5; have G5 := Lib.hid gr5; have A5 := Lib.hid at5; clear o5 gr5 at5)
        have O6 : Hid (w5.ownsRow D 24 1 vv (R.length + T2.length) (R.map Prod.fst ++ T2.map Prod.fst)) := by have := O5.out; rw [HG4.out] at this; exact this
        go_roundw
        case rel => exact ⟨k + 1, R ++ T2, by omega, by go_num, Lib.hid (by rw [List.map_append, HT2.out]; exact HSU.out.symm), LL.append HL.out HB4.out HL4.out hDr (Nat.le_refl _) O6.out G5.out A5.out, (HB.out.trans (HB4.out.mono hDr)).grown G5.out (by have := HB4.out.size; have := HB.out.size; omega) (fun q hq => (HLr.out.1.lt q hq).1)⟩
        case measure => simp [intOf]; omega
      · obtain rfl : T.length = k := by omega
        go_wp2
        go_ret
        refine ⟨_, R, rfl, ?_, HL.out.mono hDw, HB2.out.trans (HB.out.mono hDw)⟩
        rw [hR.out, HTL.out, List.take_length]
  · have HZ : Hid ((s : Int) + 1 = nx) := by have := HNX.out; rw [if_neg (fun h => by cases h.2.1)] at this; show _ = _; omega
    clear HNX
    go_wp2_with fail
    refine (CSP.out _ BR0.out GR0.out).mono ?_
    rintro e w2 ⟨v8, T, rfl, hT, hLL, b1⟩
    have BX2 := Lib.hid (BoxN.below BX0.out b1)
    have BR2 := Lib.hid (BR0.out.below b1 (Nat.le_refl _))
    have HB2 := Lib.hid (HB0.out.trans (b1.mono HB0.out.size))
    have HL2 := Lib.hid hLL
    have HPT := Lib.hid hT
    obtain ⟨pa, pc, hvf⟩ := owns_form hLL.1
    subst hvf
    have hTl : T.length = PL.length := by rw [← hT, List.length_map]
    have hTn : T.length ≤ 1048576 := by omega
    have g4 : decide ((1 : Int) < (T.length : Int)) = true := by rw [hTl]; first | exact decide_eq_true (by omega) | exact decide_eq_false (by omega)
    have g5 : decide (1 < T.length) = true := by rw [hTl]; first | exact decide_eq_true (by omega) | exact decide_eq_false (by omega)
    have HTL := Lib.hid hTl
    clear d0 d1 d2 d3 d4 d5 d6 d7 d8 BX0 BR0 GR0 HB0 cl CSP hT hLL b1 hTl
    have d0 := BX2.out.2 0 _ rfl
    have d5 := BX2.out.2 5 _ rfl
    go_wp2
    clear g4 g5 d5
    obtain ⟨D, hD⟩ : ∃ D, w2.heap.size = D := ⟨_, rfl⟩
    have HD := Lib.hid hD
    have hDw : w.heap.size ≤ D := by have := HB2.out.size; omega
    have L0 : Hid (LL (w2.alloc (.cells #[] 24)) D (.slice (some ⟨D, 0, none⟩) 0 0) []) := by have := LL.nil (w := w2); rw [hD] at this; exact this
    have HB3 : Hid (Below D w2 (w2.alloc (.cells #[] 24))) := (Below.refl _ _).alloc (by omega) _
    rw [hD]
    clear hD
    go_loopw [10, 59] (fun ov iv wr => ∃ (k : Nat) (R : List (Value × List Int)), k ≤ T.length ∧ iv = .int .i64 k ∧ Hid (R.map Prod.snd = (PL.take k).flatMap fun p => rankP b p nx) ∧ Hid (LL wr D ov R) ∧ Hid (Below D w2 wr)) (fun _ iv _ => T.length - (intOf iv).toNat)
    case atStart => exact ⟨0, [], Nat.zero_le _, rfl, rfl, L0, HB3⟩
    case round =>
      clear L0 HB3
      obtain ⟨k, R, hk, rfl, hR, HL, HB⟩ := hrel
      have hDr : D ≤ wr.heap.size := by have h7 := HB.out.size; have h8 := HD.out; omega
      by_cases hlt : k < T.length
      · obtain ⟨y, hy⟩ : ∃ y, T[k]? = some y := ⟨_, List.getElem?_eq_getElem hlt⟩
        have hyp : PL[k]? = some y.2 := by rw [← HPT.out, List.getElem?_map, hy]; rfl
        have hyP : y.2 ∈ PL := List.mem_of_getElem? hyp
        have LLr := HL2.out.below HB.out (by have := HD.out; omega)
        have hrow := LLr.2.1 _ (List.mem_of_getElem? hy)
        have hpn2 : y.2.length ≤ n := (HPL.out _ hyP).1
        obtain ⟨pg, pcap, he, hpc, _, cp⟩ := vals_at (x := y.1) (j := k) LLr.1 (by rw [List.getElem?_map, hy]; rfl)
        simp only [Value.slice.injEq, true_and] at he
        obtain ⟨rfl, rfl⟩ := he
        have PR := Lib.hid (IntRow.of_list hrow (by omega))
        obtain ⟨ya, yc, hyf⟩ := owns_form hrow
        have CRk := Lib.hid (CR.out _ HZ.out _ hyP)
        have HSU : Hid ((PL.take (k + 1)).flatMap (fun p => rankP b p nx) = R.map Prod.snd ++ rankP b y.2 nx) := by show _ = _; rw [take_flat_succ _ _ _ hyp, hR.out]
        have HRk : Hid (R.length + (rankP b y.2 nx).length ≤ n) := by
          have e1 := congrArg List.length HSU.out
          rw [List.length_append, List.length_map] at e1
          have e2 := take_flat (fun p => rankP b p nx) PL (k + 1)
          have e3 := HRL.out
          show _ ≤ _
          omega
        have BXr := Lib.hid (BoxN.below BX2.out (HB.out.mono (by have := HD.out; omega)))
        have BRr := Lib.hid (BR2.out.below HB.out (by have := HD.out; omega))
        have hklt : (k : Int) < T.length := by omega
        clear hyp hyP LLr hrow hR hy
        generalize y.2 = p at *
        generalize y.1 = yv at *
        subst hyf
        have d0 := BXr.out.2 0 _ rfl
        have d1 := BXr.out.2 1 _ rfl
        have d2 := BXr.out.2 2 _ rfl
        have d3 := BXr.out.2 3 _ rfl
        have d4 := BXr.out.2 4 _ rfl
        have d5 := BXr.out.2 5 _ rfl
        have d6 := BXr.out.2 6 _ rfl
        have d7 := BXr.out.2 7 _ rfl
        have d8 := BXr.out.2 8 _ rfl
        go_wp2_with fail
        refine (CRk.out _ _ BRr.out PR.out).mono ?_
        rintro e w4 ⟨rv, T2, rfl, hT2, hL2, b4⟩
        have HT2 := Lib.hid hT2
        have hl2 : T2.length = (rankP b p nx).length := by rw [← hT2, List.length_map]
        have hRm : R.length + T2.length ≤ 1048576 := by have := HRk.out; omega
        obtain ⟨gR, hg1, hg2, hg3, hg4⟩ := hL2.rec (by omega)
        have HG1 := Lib.hid hg1
        have HG2 := Lib.hid hg2
        have HG3 := Lib.hid hg3
        have HG4 := Lib.hid hg4
        have HLr := Lib.hid (HL.out.below b4 (Nat.le_refl _))
        have HL4 := Lib.hid hL2
        have HB4 := Lib.hid b4
        have hsz4 : D ≤ w4.heap.size := Nat.le_trans hDr b4.size
        obtain ⟨ra, rc, hrf⟩ := owns_form hL2.1
        subst hrf
        clear d0 d1 d2 d3 d4 d5 d6 d7 d8 hT2 hL2 b4 hg1 hg2 hg3 hg4 hl2 CRk HRk
        go_wp2_with (at_builtin; refine wpList_appendR rfl (.tmp 63) (.tmp 67) 34 rfl D 24 Tryz.underlying34 li lz0 lz1 lz2 rfl (by decide) rfl HLr.out.1 rfl HG1.out HG2.out HG3.out hRm (by omega) hsz4 ?_; intro vv w5 o5 gr5 at5; have O5 := Lib.hid o5; have G5 := Lib.hid gr5; have A5 := Lib.hid at5; clear o5 gr5 at5)
        have O6 : Hid (w5.ownsRow D 24 1 vv (R.length + T2.length) (R.map Prod.fst ++ T2.map Prod.fst)) := by have := O5.out; rw [HG4.out] at this; exact this
        go_roundw
        case rel => exact ⟨k + 1, R ++ T2, by omega, by go_num, Lib.hid (by rw [List.map_append, HT2.out]; exact HSU.out.symm), LL.append HL.out HB4.out HL4.out hDr (Nat.le_refl _) O6.out G5.out A5.out, (HB.out.trans (HB4.out.mono hDr)).grown G5.out (by have := HB4.out.size; have := HB.out.size; omega) (fun q hq => (HLr.out.1.lt q hq).1)⟩
        case measure => simp [intOf]; omega
      · obtain rfl : T.length = k := by omega
        go_wp2
        go_ret
        refine ⟨_, R, rfl, ?_, HL.out.mono hDw, HB2.out.trans (HB.out.mono hDw)⟩
        rw [hR.out, HTL.out, List.take_length]
  · have HZ : Hid ((s : Int) + 1 = nx) := by have := HNX.out; rw [if_neg (fun h => by cases h.2.2)] at this; show _ = _; omega
    clear HNX
    go_wp2_with fail
    refine (CSP.out _ BR0.out GR0.out).mono ?_
    rintro e w1 ⟨v8, T, rfl, hT, hLL, b1⟩
    have BX1 := Lib.hid (BoxN.below BX0.out b1)
    have BR1 := Lib.hid (BR0.out.below b1 (Nat.le_refl _))
    have HB1 := Lib.hid (HB0.out.trans (b1.mono HB0.out.size))
    have HL1 := Lib.hid hLL
    have HPT := Lib.hid hT
    obtain ⟨pa, pc, hvf⟩ := owns_form hLL.1
    subst hvf
    have hTl : T.length = PL.length := by rw [← hT, List.length_map]
    have hTn : T.length ≤ 1048576 := by omega
    have g4 : decide ((1 : Int) < (T.length : Int)) = true := by rw [hTl]; first | exact decide_eq_true (by omega) | exact decide_eq_false (by omega)
    have g5 : decide (1 < T.length) = true := by rw [hTl]; first | exact decide_eq_true (by omega) | exact decide_eq_false (by omega)
    have HTL := Lib.hid hTl
    clear d0 d1 d2 d3 d4 d5 d6 d7 d8 BX0 BR0 GR0 HB0 cl CSP hT hLL b1 hTl
    have d0 := BX1.out.2 0 _ rfl
    have d5 := BX1.out.2 5 _ rfl
    go_wp2_with fail
    refine (CMU.out _).mono ?_
    rintro e w2 ⟨rfl, b2⟩
    have BX2 := Lib.hid (BoxN.below BX1.out b2)
    have BR2 := Lib.hid (BR1.out.below b2 (Nat.le_refl _))
    have HL2 := Lib.hid (HL1.out.below b2 (Nat.le_refl _))
    have HB2 := Lib.hid (HB1.out.trans (b2.mono HB1.out.size))
    clear BX1 BR1 HL1 HB1 b2
    go_wp2
    clear g4 g5 d5
    obtain ⟨D, hD⟩ : ∃ D, w2.heap.size = D := ⟨_, rfl⟩
    have HD := Lib.hid hD
    have hDw : w.heap.size ≤ D := by have := HB2.out.size; omega
    have L0 : Hid (LL (w2.alloc (.cells #[] 24)) D (.slice (some ⟨D, 0, none⟩) 0 0) []) := by have := LL.nil (w := w2); rw [hD] at this; exact this
    have HB3 : Hid (Below D w2 (w2.alloc (.cells #[] 24))) := (Below.refl _ _).alloc (by omega) _
    rw [hD]
    clear hD
    go_loopw [10, 59] (fun ov iv wr => ∃ (k : Nat) (R : List (Value × List Int)), k ≤ T.length ∧ iv = .int .i64 k ∧ Hid (R.map Prod.snd = (PL.take k).flatMap fun p => rankP b p nx) ∧ Hid (LL wr D ov R) ∧ Hid (Below D w2 wr)) (fun _ iv _ => T.length - (intOf iv).toNat)
    case atStart => exact ⟨0, [], Nat.zero_le _, rfl, rfl, L0, HB3⟩
    case round =>
      clear L0 HB3
      obtain ⟨k, R, hk, rfl, hR, HL, HB⟩ := hrel
      have hDr : D ≤ wr.heap.size := by have h7 := HB.out.size; have h8 := HD.out; omega
      by_cases hlt : k < T.length
      · obtain ⟨y, hy⟩ : ∃ y, T[k]? = some y := ⟨_, List.getElem?_eq_getElem hlt⟩
        have hyp : PL[k]? = some y.2 := by rw [← HPT.out, List.getElem?_map, hy]; rfl
        have hyP : y.2 ∈ PL := List.mem_of_getElem? hyp
        have LLr := HL2.out.below HB.out (by have := HD.out; omega)
        have hrow := LLr.2.1 _ (List.mem_of_getElem? hy)
        have hpn2 : y.2.length ≤ n := (HPL.out _ hyP).1
        obtain ⟨pg, pcap, he, hpc, _, cp⟩ := vals_at (x := y.1) (j := k) LLr.1 (by rw [List.getElem?_map, hy]; rfl)
        simp only [Value.slice.injEq, true_and] at he
        obtain ⟨rfl, rfl⟩ := he
        have PR := Lib.hid (IntRow.of_list hrow (by omega))
        obtain ⟨ya, yc, hyf⟩ := owns_form hrow
        have CRk := Lib.hid (CR.out _ HZ.out _ hyP)
        have HSU : Hid ((PL.take (k + 1)).flatMap (fun p => rankP b p nx) = R.map Prod.snd ++ rankP b y.2 nx) := by show _ = _; rw [take_flat_succ _ _ _ hyp, hR.out]
        have HRk : Hid (R.length + (rankP b y.2 nx).length ≤ n) := by
          have e1 := congrArg List.length HSU.out
          rw [List.length_append, List.length_map] at e1
          have e2 := take_flat (fun p => rankP b p nx) PL (k + 1)
          have e3 := HRL.out
          show _ ≤ _
          omega
        have BXr := Lib.hid (BoxN.below BX2.out (HB.out.mono (by have := HD.out; omega)))
        have BRr := Lib.hid (BR2.out.below HB.out (by have := HD.out; omega))
        have hklt : (k : Int) < T.length := by omega
        clear hyp hyP LLr hrow hR hy
        generalize y.2 = p at *
        generalize y.1 = yv at *
        subst hyf
        have d0 := BXr.out.2 0 _ rfl
        have d1 := BXr.out.2 1 _ rfl
        have d2 := BXr.out.2 2 _ rfl
        have d3 := BXr.out.2 3 _ rfl
        have d4 := BXr.out.2 4 _ rfl
        have d5 := BXr.out.2 5 _ rfl
        have d6 := BXr.out.2 6 _ rfl
        have d7 := BXr.out.2 7 _ rfl
        have d8 := BXr.out.2 8 _ rfl
        go_wp2_with fail
        refine (CRk.out _ _ BRr.out PR.out).mono ?_
        rintro e w4 ⟨rv, T2, rfl, hT2, hL2, b4⟩
        have HT2 := Lib.hid hT2
        have hl2 : T2.length = (rankP b p nx).length := by rw [← hT2, List.length_map]
        have hRm : R.length + T2.length ≤ 1048576 := by have := HRk.out; omega
        obtain ⟨gR, hg1, hg2, hg3, hg4⟩ := hL2.rec (by omega)
        have HG1 := Lib.hid hg1
        have HG2 := Lib.hid hg2
        have HG3 := Lib.hid hg3
        have HG4 := Lib.hid hg4
        have HLr := Lib.hid (HL.out.below b4 (Nat.le_refl _))
        have HL4 := Lib.hid hL2
        have HB4 := Lib.hid b4
        have hsz4 : D ≤ w4.heap.size := Nat.le_trans hDr b4.size
        obtain ⟨ra, rc, hrf⟩ := owns_form hL2.1
        subst hrf
        clear d0 d1 d2 d3 d4 d5 d6 d7 d8 hT2 hL2 b4 hg1 hg2 hg3 hg4 hl2 CRk HRk
        go_wp2_with (at_builtin; refine wpList_appendR rfl (.tmp 63) (.tmp 67) 34 rfl D 24 Tryz.underlying34 li lz0 lz1 lz2 rfl (by decide) rfl HLr.out.1 rfl HG1.out HG2.out HG3.out hRm (by omega) hsz4 ?_; intro vv w5 o5 gr5 at5; have O5 := Lib.hid o5; have G5 := Lib.hid gr5; have A5 := Lib.hid at5; clear o5 gr5 at5)
        have O6 : Hid (w5.ownsRow D 24 1 vv (R.length + T2.length) (R.map Prod.fst ++ T2.map Prod.fst)) := by have := O5.out; rw [HG4.out] at this; exact this
        go_roundw
        case rel => exact ⟨k + 1, R ++ T2, by omega, by go_num, Lib.hid (by rw [List.map_append, HT2.out]; exact HSU.out.symm), LL.append HL.out HB4.out HL4.out hDr (Nat.le_refl _) O6.out G5.out A5.out, (HB.out.trans (HB4.out.mono hDr)).grown G5.out (by have := HB4.out.size; have := HB.out.size; omega) (fun q hq => (HLr.out.1.lt q hq).1)⟩
        case measure => simp [intOf]; omega
      · obtain rfl : T.length = k := by omega
        go_wp2
        go_ret
        refine ⟨_, R, rfl, ?_, HL.out.mono hDw, HB2.out.trans (HB.out.mono hDw)⟩
        rw [hR.out, HTL.out, List.take_length]
  · have HZ : Hid ((0 : Int) = nx) := by have := HNX.out; rw [if_pos ⟨hA, by first | rfl | trivial, by first | rfl | trivial⟩] at this; show _ = _; omega
    clear HNX
    go_wp2_with fail
    refine (CSP.out _ BR0.out GR0.out).mono ?_
    rintro e w1 ⟨v8, T, rfl, hT, hLL, b1⟩
    have BX1 := Lib.hid (BoxN.below BX0.out b1)
    have BR1 := Lib.hid (BR0.out.below b1 (Nat.le_refl _))
    have HB1 := Lib.hid (HB0.out.trans (b1.mono HB0.out.size))
    have HL1 := Lib.hid hLL
    have HPT := Lib.hid hT
    obtain ⟨pa, pc, hvf⟩ := owns_form hLL.1
    subst hvf
    have hTl : T.length = PL.length := by rw [← hT, List.length_map]
    have hTn : T.length ≤ 1048576 := by omega
    have g4 : decide ((1 : Int) < (T.length : Int)) = true := by rw [hTl]; first | exact decide_eq_true (by omega) | exact decide_eq_false (by omega)
    have g5 : decide (1 < T.length) = true := by rw [hTl]; first | exact decide_eq_true (by omega) | exact decide_eq_false (by omega)
    have HTL := Lib.hid hTl
    clear d0 d1 d2 d3 d4 d5 d6 d7 d8 BX0 BR0 GR0 HB0 cl CSP hT hLL b1 hTl
    have d0 := BX1.out.2 0 _ rfl
    have d5 := BX1.out.2 5 _ rfl
    go_wp2_with fail
    refine (CMU.out _).mono ?_
    rintro e w2 ⟨rfl, b2⟩
    have BX2 := Lib.hid (BoxN.below BX1.out b2)
    have BR2 := Lib.hid (BR1.out.below b2 (Nat.le_refl _))
    have HL2 := Lib.hid (HL1.out.below b2 (Nat.le_refl _))
    have HB2 := Lib.hid (HB1.out.trans (b2.mono HB1.out.size))
    clear BX1 BR1 HL1 HB1 b2
    go_wp2
    clear g4 g5 d5
    obtain ⟨D, hD⟩ : ∃ D, w2.heap.size = D := ⟨_, rfl⟩
    have HD := Lib.hid hD
    have hDw : w.heap.size ≤ D := by have := HB2.out.size; omega
    have L0 : Hid (LL (w2.alloc (.cells #[] 24)) D (.slice (some ⟨D, 0, none⟩) 0 0) []) := by have := LL.nil (w := w2); rw [hD] at this; exact this
    have HB3 : Hid (Below D w2 (w2.alloc (.cells #[] 24))) := (Below.refl _ _).alloc (by omega) _
    rw [hD]
    clear hD
    go_loopw [10, 59] (fun ov iv wr => ∃ (k : Nat) (R : List (Value × List Int)), k ≤ T.length ∧ iv = .int .i64 k ∧ Hid (R.map Prod.snd = (PL.take k).flatMap fun p => rankP b p nx) ∧ Hid (LL wr D ov R) ∧ Hid (Below D w2 wr)) (fun _ iv _ => T.length - (intOf iv).toNat)
    case atStart => exact ⟨0, [], Nat.zero_le _, rfl, rfl, L0, HB3⟩
    case round =>
      clear L0 HB3
      obtain ⟨k, R, hk, rfl, hR, HL, HB⟩ := hrel
      have hDr : D ≤ wr.heap.size := by have h7 := HB.out.size; have h8 := HD.out; omega
      by_cases hlt : k < T.length
      · obtain ⟨y, hy⟩ : ∃ y, T[k]? = some y := ⟨_, List.getElem?_eq_getElem hlt⟩
        have hyp : PL[k]? = some y.2 := by rw [← HPT.out, List.getElem?_map, hy]; rfl
        have hyP : y.2 ∈ PL := List.mem_of_getElem? hyp
        have LLr := HL2.out.below HB.out (by have := HD.out; omega)
        have hrow := LLr.2.1 _ (List.mem_of_getElem? hy)
        have hpn2 : y.2.length ≤ n := (HPL.out _ hyP).1
        obtain ⟨pg, pcap, he, hpc, _, cp⟩ := vals_at (x := y.1) (j := k) LLr.1 (by rw [List.getElem?_map, hy]; rfl)
        simp only [Value.slice.injEq, true_and] at he
        obtain ⟨rfl, rfl⟩ := he
        have PR := Lib.hid (IntRow.of_list hrow (by omega))
        obtain ⟨ya, yc, hyf⟩ := owns_form hrow
        have CRk := Lib.hid (CR.out _ HZ.out _ hyP)
        have HSU : Hid ((PL.take (k + 1)).flatMap (fun p => rankP b p nx) = R.map Prod.snd ++ rankP b y.2 nx) := by show _ = _; rw [take_flat_succ _ _ _ hyp, hR.out]
        have HRk : Hid (R.length + (rankP b y.2 nx).length ≤ n) := by
          have e1 := congrArg List.length HSU.out
          rw [List.length_append, List.length_map] at e1
          have e2 := take_flat (fun p => rankP b p nx) PL (k + 1)
          have e3 := HRL.out
          show _ ≤ _
          omega
        have BXr := Lib.hid (BoxN.below BX2.out (HB.out.mono (by have := HD.out; omega)))
        have BRr := Lib.hid (BR2.out.below HB.out (by have := HD.out; omega))
        have hklt : (k : Int) < T.length := by omega
        clear hyp hyP LLr hrow hR hy
        generalize y.2 = p at *
        generalize y.1 = yv at *
        subst hyf
        have d0 := BXr.out.2 0 _ rfl
        have d1 := BXr.out.2 1 _ rfl
        have d2 := BXr.out.2 2 _ rfl
        have d3 := BXr.out.2 3 _ rfl
        have d4 := BXr.out.2 4 _ rfl
        have d5 := BXr.out.2 5 _ rfl
        have d6 := BXr.out.2 6 _ rfl
        have d7 := BXr.out.2 7 _ rfl
        have d8 := BXr.out.2 8 _ rfl
        go_wp2_with fail
        refine (CRk.out _ _ BRr.out PR.out).mono ?_
        rintro e w4 ⟨rv, T2, rfl, hT2, hL2, b4⟩
        have HT2 := Lib.hid hT2
        have hl2 : T2.length = (rankP b p nx).length := by rw [← hT2, List.length_map]
        have hRm : R.length + T2.length ≤ 1048576 := by have := HRk.out; omega
        obtain ⟨gR, hg1, hg2, hg3, hg4⟩ := hL2.rec (by omega)
        have HG1 := Lib.hid hg1
        have HG2 := Lib.hid hg2
        have HG3 := Lib.hid hg3
        have HG4 := Lib.hid hg4
        have HLr := Lib.hid (HL.out.below b4 (Nat.le_refl _))
        have HL4 := Lib.hid hL2
        have HB4 := Lib.hid b4
        have hsz4 : D ≤ w4.heap.size := Nat.le_trans hDr b4.size
        obtain ⟨ra, rc, hrf⟩ := owns_form hL2.1
        subst hrf
        clear d0 d1 d2 d3 d4 d5 d6 d7 d8 hT2 hL2 b4 hg1 hg2 hg3 hg4 hl2 CRk HRk
        go_wp2_with (at_builtin; refine wpList_appendR rfl (.tmp 63) (.tmp 67) 34 rfl D 24 Tryz.underlying34 li lz0 lz1 lz2 rfl (by decide) rfl HLr.out.1 rfl HG1.out HG2.out HG3.out hRm (by omega) hsz4 ?_; intro vv w5 o5 gr5 at5; have O5 := Lib.hid o5; have G5 := Lib.hid gr5; have A5 := Lib.hid at5; clear o5 gr5 at5)
        have O6 : Hid (w5.ownsRow D 24 1 vv (R.length + T2.length) (R.map Prod.fst ++ T2.map Prod.fst)) := by have := O5.out; rw [HG4.out] at this; exact this
        go_roundw
        case rel => exact ⟨k + 1, R ++ T2, by omega, by go_num, Lib.hid (by rw [List.map_append, HT2.out]; exact HSU.out.symm), LL.append HL.out HB4.out HL4.out hDr (Nat.le_refl _) O6.out G5.out A5.out, (HB.out.trans (HB4.out.mono hDr)).grown G5.out (by have := HB4.out.size; have := HB.out.size; omega) (fun q hq => (HLr.out.1.lt q hq).1)⟩
        case measure => simp [intOf]; omega
      · obtain rfl : T.length = k := by omega
        go_wp2
        go_ret
        refine ⟨_, R, rfl, ?_, HL.out.mono hDw, HB2.out.trans (HB.out.mono hDw)⟩
        rw [hR.out, HTL.out, List.take_length]
end Go.Proofs.YtakbolkdbpehoaaGreat
set_option linter.unusedVariables false
namespace Go.Proofs.YtakbolkdbpehoaaGreat
open Go.RowKit

/-- what the frame of a proof is told of a slice of integers that came in -/
def IsRow (k : IntKind) (w : World) (a : Option Addr) (len cap : Nat) (zs : List Int) : Prop :=
  (a = none ∧ len = 0 ∧ cap = 0 ∧ zs = []) ∨
  ∃ x, a = some x ∧ len ≤ cap ∧ cap ≤ maxLen ∧ zs.length = cap ∧ (∀ i, i < zs.length → w.cell? (x.add i) = some (.int k (zs.getD i 0))) ∧ ∀ n ∈ zs, (Lit.int k n).wf = true
/-- v is a slice of len bytes that read g in w -/
def ByteRow (w : World) (a : Option Addr) (len : Nat) (g : Nat → Nat) : Prop :=
  0 < len → ∃ b off, a = some ⟨b, off, none⟩ ∧ ∀ i, i < len → w.cell? ⟨b, off + i, none⟩ = some (.int .u8 (g i))
def getN (zs : List Int) (i : Nat) : Nat := (zs.getD i 0).toNat
theorem IsRow.bytes {w : World} {a : Option Addr} {len cap : Nat} {zs : List Int} (h : IsRow .u8 w a len cap zs) : ByteRow w a len (getN zs) ∧ (∀ i, getN zs i ≤ 255) ∧ len ≤ 9223372036854775807 := by
  rcases h with ⟨rfl, rfl, rfl, rfl⟩ | ⟨x, rfl, hl, hm, hz, hc, hw⟩
  · exact ⟨fun h => absurd h (by omega), fun i => by simp [getN], by omega⟩
  · have key : ∀ i, 0 ≤ zs.getD i 0 ∧ zs.getD i 0 ≤ 255 := by
      intro i
      by_cases hi : i < zs.length
      · have := hw zs[i] (List.getElem_mem hi)
        simp [Lit.wf, IntKind.min, IntKind.max, IntKind.signed, IntKind.bits] at this
        simp [List.getD, List.getElem?_eq_getElem hi]; omega
      · simp [List.getD, List.getElem?_eq_none (Nat.le_of_not_lt hi)]
    refine ⟨fun h0 => ?_, fun i => by have := key i; unfold getN; omega, by unfold maxLen at hm; omega⟩
    obtain ⟨b, off, spot⟩ := x
    have hc0 := hc 0 (by omega)
    have hspot : spot = none := by simpa [Addr.add] using World.cell?_spot hc0
    subst hspot
    refine ⟨b, off, rfl, fun i hi => ?_⟩
    have h1 := hc i (by omega)
    have hadd : (⟨b, off, none⟩ : Addr).add i = ⟨b, off + i, none⟩ := by unfold Addr.add; split <;> simp_all
    rw [hadd] at h1
    rw [h1]
    have := key i
    unfold getN
    congr 2
    omega
theorem ByteRow.below {w w' : World} {a : Option Addr} {len B : Nat} {g : Nat → Nat} (h : ByteRow w a len g) (hb : Below B w w') (hB : w.heap.size ≤ B) : ByteRow w' a len g := by
  intro h0
  obtain ⟨b, off, h1, h2⟩ := h h0
  exact ⟨b, off, h1, fun i hi => (hb.cell (p := ⟨b, off + i, none⟩) (Nat.lt_of_lt_of_le (World.block_lt_of_cell? w _ (h2 i hi)) hB)).trans (h2 i hi)⟩

/-- block B is the drawing's cursor over a slice of bytes below block B -/
structure Cur (B : Nat) (a : Option Addr) (len cap : Nat) (g : Nat → Nat) (w : World) : Prop where
  blk : ∃ (i : Nat) (h : Int), w.heap[B]? = some (.cells #[.slice a len cap, .int .i64 i, .int .i64 h] 95 (0, 0)) ∧ i ≤ len
  row : ByteRow w a len g
  low : 0 < len → ∀ b off, a = some ⟨b, off, none⟩ → b < B
  small : ∀ i, g i ≤ 255
  fits : len ≤ 9223372036854775807

theorem set2 {w : World} {B : Nat} {s x y : Value} {T : TypeId} (z : Value) (h : w.heap[B]? = some (.cells #[s, x, y] T (0, 0))) : (w.setCell ⟨B, 2, none⟩ z).heap[B]? = some (.cells #[s, x, z] T (0, 0)) := by
  rw [heap_setCell_same w B 2 _ _ _ h]; rfl
theorem set1 {w : World} {B : Nat} {s x y : Value} {T : TypeId} (z : Value) (h : w.heap[B]? = some (.cells #[s, x, y] T (0, 0))) : (w.setCell ⟨B, 1, none⟩ z).heap[B]? = some (.cells #[s, z, y] T (0, 0)) := by
  rw [heap_setCell_same w B 1 _ _ _ h]; rfl
theorem grown_set (w : World) (B j : Nat) (z : Value) : w.grownBy (w.setCell ⟨B, j, none⟩ z) (some B) :=
  ⟨rfl, rfl, rfl, by simp, fun k _ hk => heap_setCell_other w ⟨B, j, none⟩ k z (fun e => hk (by simp [e]))⟩
theorem grown_trans {a b c : World} {row : Option Nat} (h : a.grownBy b row) (k : b.grownBy c row) : a.grownBy c row :=
  ⟨k.os.trans h.os, k.tape.trans h.tape, k.output.trans h.output, Nat.le_trans h.size k.size, fun i hi hne => (k.block i (Nat.lt_of_lt_of_le hi h.size) hne).trans (h.block i hi hne)⟩
theorem grown_drewN {a b : World} {row : Option Nat} (h : a.grownBy b row) (q : Nat) : a.grownBy (b.drewN q) row := ⟨h.os, h.tape, h.output, h.size, h.block⟩
theorem grown_refl (a : World) (row : Option Nat) : a.grownBy a row := ⟨rfl, rfl, rfl, Nat.le_refl _, fun _ _ _ => rfl⟩
theorem ByteRow.grown {w w' : World} {a : Option Addr} {len B : Nat} {g : Nat → Nat} (h : ByteRow w a len g) (hg : w.grownBy w' (some B)) (hl : 0 < len → ∀ b off, a = some ⟨b, off, none⟩ → b < B) : ByteRow w' a len g := by
  intro h0
  obtain ⟨b, off, h1, h2⟩ := h h0
  refine ⟨b, off, h1, fun i hi => hg.cell (h2 i hi) ?_⟩
  have := hl h0 b off h1
  intro e
  simp at e; omega
theorem Cur.to {B : Nat} {a : Option Addr} {len cap : Nat} {g : Nat → Nat} {w w' : World} (h : Cur B a len cap g w) (hg : w.grownBy w' (some B))
    (hb : ∃ (i : Nat) (h : Int), w'.heap[B]? = some (.cells #[.slice a len cap, .int .i64 i, .int .i64 h] 95 (0, 0)) ∧ i ≤ len) : Cur B a len cap g w' :=
  ⟨hb, h.row.grown hg h.low, h.low, h.small, h.fits⟩

theorem and_mask (z : Int) (m : Nat) (hm : m < 2147483648) : ∃ n : Nat, n ≤ m ∧ bits .and .i64 z (m : Int) = (n : Int) := by
  refine ⟨((BitVec.ofInt 64 z) &&& (BitVec.ofInt 64 (m : Int))).toNat, ?_, ?_⟩
  · rw [BitVec.toNat_and, BitVec.ofInt_natCast, BitVec.toNat_ofNat, Nat.mod_eq_of_lt (by omega)]
    exact Nat.and_le_right
  · have h : ((BitVec.ofInt 64 z) &&& (BitVec.ofInt 64 (m : Int))).toNat ≤ m := by
      rw [BitVec.toNat_and, BitVec.ofInt_natCast, BitVec.toNat_ofNat, Nat.mod_eq_of_lt (by omega)]
      exact Nat.and_le_right
    simp only [bits]
    rw [IntKind.wrap_i64]
    show (((((BitVec.ofInt 64 z) &&& (BitVec.ofInt 64 (m : Int))).toNat : Nat) : Int) + 9223372036854775808) % 18446744073709551616 - 9223372036854775808 = _
    omega
theorem and255 (z : Int) : ∃ n : Nat, n ≤ 255 ∧ bits .and .i64 z 255 = (n : Int) := and_mask z 255 (by decide)

/-- a number below lim is drawn from the cursor in block B; nothing else that was there is written -/
def Drawn (B : Nat) (a : Option Addr) (len cap : Nat) (g : Nat → Nat) (lim : Nat) (w : World) (e : Ending) (w' : World) : Prop :=
  ∃ x : Nat, x < lim ∧ e = .returned (.int .i64 (x : Int)) ∧ Cur B a len cap g w' ∧ w.grownBy w' (some B)
theorem drawn_set {B : Nat} {a : Option Addr} {len cap : Nat} {g : Nat → Nat} {lim : Nat} {w w2 : World} {i : Nat} {h2 : Int} (q y : Nat) (hg : w.grownBy w2 (some B)) (hc : Cur B a len cap g w2)
    (hb : w2.heap[B]? = some (.cells #[.slice a len cap, .int .i64 i, .int .i64 h2] 95 (0, 0))) (hi : i < len) (hy : y < lim) :
    Drawn B a len cap g lim w (.returned (.int .i64 (y : Int))) ((w2.drewN q).setCell ⟨B, 1, none⟩ (.int .i64 ((i : Int) + 1))) := by
  have hG : w2.grownBy ((w2.drewN q).setCell ⟨B, 1, none⟩ (.int .i64 ((i : Int) + 1))) (some B) := grown_trans (grown_drewN (grown_refl w2 (some B)) q) (grown_set (w2.drewN q) B 1 (.int .i64 ((i : Int) + 1)))
  exact ⟨y, hy, rfl, hc.to hG ⟨i + 1, h2, set1 (w := w2.drewN q) (.int .i64 ((i : Int) + 1)) hb, hi⟩, grown_trans hg hG⟩
theorem drawn_plain {B : Nat} {a : Option Addr} {len cap : Nat} {g : Nat → Nat} {lim : Nat} {w w2 : World} {i : Nat} {h2 : Int} (q q2 y : Nat) (hg : w.grownBy w2 (some B)) (hc : Cur B a len cap g w2)
    (hb : w2.heap[B]? = some (.cells #[.slice a len cap, .int .i64 i, .int .i64 h2] 95 (0, 0))) (hi : i ≤ len) (hy : y < lim) :
    Drawn B a len cap g lim w (.returned (.int .i64 (y : Int))) ((w2.drewN q).drewN q2) := by
  have hG : w2.grownBy ((w2.drewN q).drewN q2) (some B) := grown_drewN (grown_drewN (grown_refl w2 (some B)) q) q2
  exact ⟨y, hy, rfl, hc.to hG ⟨i, h2, hb, hi⟩, grown_trans hg hG⟩
theorem l01Byte_any (B : Nat) (a : Option Addr) (len cap : Nat) (g : Nat → Nat) (w : World) (hc : Cur B a len cap g w) :
    Calls Tryz.prog 76 #[.pointer (some ⟨B, 0, none⟩)] w (Drawn B a len cap g 256 w) := by
  obtain ⟨i, h, hB, hi⟩ := hc.blk
  have c2 : w.cell? ⟨B, 2, none⟩ = some (.int .i64 h) := by rw [cell_of_row w B 2 _ _ (0, 0) hB]; rfl
  have f2 : w.frozen? ⟨B, 2, none⟩ = false := frozen_of_row w B 2 _ _ hB
  have hfit := hc.fits
  have HB := Lib.hid hB
  clear hB
  have HC := Lib.hid hc
  clear hc
  go_enter Tryz.func76, Tryz.ntmps76
  go_wp2
  generalize wrap64 (wrap64 (h * 6364136223846793005) + 1442695040888963407) = h2
  have HB2 := Lib.hid (set2 (.int .i64 h2) HB.out)
  have HG2 := Lib.hid (grown_set w B 2 (.int .i64 h2))
  have HC2 := Lib.hid (HC.out.to HG2.out ⟨i, h2, HB2.out, hi⟩)
  generalize w.setCell ⟨B, 2, none⟩ (.int .i64 h2) = w2 at *
  clear c2 f2 HB HC
  have c0 : w2.cell? ⟨B, 0, none⟩ = some (.slice a len cap) := by rw [cell_of_row w2 B 0 _ _ (0, 0) HB2.out]; rfl
  have c1 : w2.cell? ⟨B, 1, none⟩ = some (.int .i64 i) := by rw [cell_of_row w2 B 1 _ _ (0, 0) HB2.out]; rfl
  have c2 : w2.cell? ⟨B, 2, none⟩ = some (.int .i64 h2) := by rw [cell_of_row w2 B 2 _ _ (0, 0) HB2.out]; rfl
  have f1 : w2.frozen? ⟨B, 1, none⟩ = false := frozen_of_row w2 B 1 _ _ HB2.out
  by_cases hlt : i < len
  · obtain ⟨b, off, rfl, hcell⟩ := HC2.out.row (by omega)
    have hcb := hcell i hlt
    have hgi := HC2.out.small i
    have hne : ¬ (b = B) := by have := HC2.out.low (by omega) b off rfl; omega
    clear hcell
    obtain ⟨x, hx, hxe⟩ := and255 (bits BinOp.xor IntKind.i64 (h2 / 8589934592) (h2 / 35184372088832))
    go_quiet (fail)
    go_wp2
    clear hxe
    go_quiet (fail)
    go_wp2
    obtain ⟨y, hy, hye⟩ := and255 ((x : Int) + (g i : Int))
    have hwr : IntKind.i64.wrap ((x : Int) + (g i : Int)) = (x : Int) + (g i : Int) := by rw [IntKind.wrap_i64]; omega
    go_quiet (fail)
    go_wp2
    go_ret
    exact drawn_set _ y HG2.out HC2.out HB2.out hlt (by omega)
  · obtain ⟨x, hx, hxe⟩ := and255 (bits BinOp.xor IntKind.i64 (h2 / 8589934592) (h2 / 35184372088832))
    go_quiet (fail)
    go_wp2
    clear hxe
    go_quiet (fail)
    go_wp2
    go_ret
    exact drawn_plain _ _ x HG2.out HC2.out HB2.out hi (by omega)

theorem l01Below_small (B : Nat) (a : Option Addr) (len cap : Nat) (g : Nat → Nat) (n : Nat) (w : World) (hc : Cur B a len cap g w) (h0 : 0 < n) (hn : n ≤ 256) :
    Calls Tryz.prog 37 #[.pointer (some ⟨B, 0, none⟩), .int .i64 (n : Int)] w (Drawn B a len cap g n w) := by
  have g0 : decide ((n : Int) ≤ 0) = false := decide_eq_false (by omega)
  have g1 : decide ((n : Int) ≤ 256) = true := decide_eq_true (by omega)
  have HC := Lib.hid hc
  clear hc
  go_enter Tryz.func37, Tryz.ntmps37
  go_wp2_with fail
  refine (l01Byte_any B a len cap g _ HC.out).mono ?_
  rintro e w1 ⟨x, hx, rfl, c1, g1⟩
  have Hc1 := Lib.hid c1
  have Hg1 := Lib.hid g1
  clear c1 g1
  go_wp2
  go_ret
  exact ⟨x % n, Nat.mod_lt _ h0, by simp, Hc1.out, Hg1.out⟩
theorem l01Below_big (B : Nat) (a : Option Addr) (len cap : Nat) (g : Nat → Nat) (n : Nat) (w : World) (hc : Cur B a len cap g w) (hn : 256 < n) (hn2 : n ≤ 9223372036854775807) :
    Calls Tryz.prog 37 #[.pointer (some ⟨B, 0, none⟩), .int .i64 (n : Int)] w (Drawn B a len cap g n w) := by
  have g0 : decide ((n : Int) ≤ 0) = false := decide_eq_false (by omega)
  have g1 : decide ((n : Int) ≤ 256) = false := decide_eq_false (by omega)
  have HC := Lib.hid hc
  clear hc
  go_enter Tryz.func37, Tryz.ntmps37
  go_wp2_with fail
  refine (l01Byte_any B a len cap g _ HC.out).mono ?_
  rintro e w1 ⟨x1, hx1, rfl, c1, r1⟩
  have Hc1 := Lib.hid c1
  have Hr1 := Lib.hid r1
  clear c1 r1
  go_wp2_with fail
  refine (l01Byte_any B a len cap g _ Hc1.out).mono ?_
  rintro e w2 ⟨x2, hx2, rfl, c2, r2⟩
  have Hc2 := Lib.hid c2
  have Hr2 := Lib.hid (grown_trans Hr1.out r2)
  clear c2 r2
  go_wp2_with fail
  refine (l01Byte_any B a len cap g _ Hc2.out).mono ?_
  rintro e w3 ⟨x3, hx3, rfl, c3, r3⟩
  have Hc3 := Lib.hid c3
  have Hr3 := Lib.hid (grown_trans Hr2.out r3)
  clear c3 r3
  go_wp2_with fail
  refine (l01Byte_any B a len cap g _ Hc3.out).mono ?_
  rintro e w4 ⟨x4, hx4, rfl, c4, r4⟩
  have Hc4 := Lib.hid c4
  have Hr4 := Lib.hid (grown_trans Hr3.out r4)
  clear c4 r4
  go_wp2
  go_ret
  exact ⟨(x1 * 16777216 + x2 * 65536 + x3 * 256 + x4) % n, Nat.mod_lt _ (by omega), by simp, Hc4.out, Hr4.out⟩
theorem l01Below_any (B : Nat) (a : Option Addr) (len cap : Nat) (g : Nat → Nat) (n : Nat) (w : World) (hc : Cur B a len cap g w) (h0 : 0 < n) (hn2 : n ≤ 9223372036854775807) :
    Calls Tryz.prog 37 #[.pointer (some ⟨B, 0, none⟩), .int .i64 (n : Int)] w (Drawn B a len cap g n w) := by
  by_cases h : n ≤ 256
  · exact l01Below_small B a len cap g n w hc h0 h
  · exact l01Below_big B a len cap g n w hc (by omega) hn2

/-- a new cursor over the bytes of code -/
def CurMade (a : Option Addr) (len cap : Nat) (g : Nat → Nat) (w : World) (e : Ending) (w' : World) : Prop :=
  ∃ B, e = .returned (.pointer (some ⟨B, 0, none⟩)) ∧ w.heap.size ≤ B ∧ Cur B a len cap g w' ∧ Below w.heap.size w w'
theorem cur_made {a : Option Addr} {len cap : Nat} {g : Nat → Nat} {w : World} (h : Int) (hr : ByteRow w a len g) (hg : ∀ i, g i ≤ 255) (hl : len ≤ 1048576) :
    CurMade a len cap g w (.returned (.pointer (some ⟨w.heap.size, 0, none⟩))) (w.alloc (.cells #[.slice a len cap, .int .i64 0, .int .i64 h] 95)) := by
  have hb : Below w.heap.size w (w.alloc (.cells #[.slice a len cap, .int .i64 0, .int .i64 h] 95)) := (Below.refl _ _).alloc (Nat.le_refl _) _
  refine ⟨w.heap.size, rfl, Nat.le_refl _, ⟨⟨0, h, heap_alloc_new w _, Nat.zero_le _⟩, hr.below hb (Nat.le_refl _), fun h0 b off e => ?_, hg, by omega⟩, hb⟩
  obtain ⟨b', off', e', hc⟩ := hr h0
  rw [e'] at e
  simp only [Option.some.injEq, Addr.mk.injEq] at e
  rw [← e.1]
  exact World.block_lt_of_cell? w _ (hc 0 h0)
set_option maxRecDepth 100000 in
theorem l01New_any (a : Option Addr) (len cap : Nat) (g : Nat → Nat) (w : World) (hr : ByteRow w a len g) (hg : ∀ i, g i ≤ 255) (hl : len ≤ 1048576) :
    Calls Tryz.prog 35 #[.slice a len cap] w (CurMade a len cap g w) := by
  have HR := Lib.hid hr
  have HG := Lib.hid hg
  clear hr hg
  go_enter Tryz.func35, Tryz.ntmps35
  go_wp2
  go_loop [3, 4] (fun hv i => ∃ (j : Nat) (h : Int), j ≤ len ∧ i = .int .i64 j ∧ hv = .int .i64 h) (fun _ i => len - (intOf i).toNat)
  case atStart => exact ⟨0, _, Nat.zero_le _, rfl, rfl⟩
  case round =>
    obtain ⟨j, h, hj, rfl, rfl⟩ := hrel
    by_cases hlt : j < len
    · by_cases h4 : j < 4000
      · obtain ⟨b, off, rfl, hcell⟩ := HR.out (by omega)
        have hc := hcell j hlt
        have hgj := HG.out j
        clear hcell
        go_wp2
        go_round
        case rel => exact ⟨j + 1, _, by omega, by go_num, rfl⟩
        case measure => simp [intOf]; omega
      · go_wp2
        go_ret
        exact cur_made h HR.out HG.out hl
    · go_wp2
      go_ret
      exact cur_made h HR.out HG.out hl

/-- l27New: a cursor behind n drawn bytes -/
theorem l27New_any (a : Option Addr) (len cap n : Nat) (g : Nat → Nat) (w : World) (hr : ByteRow w a len g) (hg : ∀ i, g i ≤ 255) (hl : len ≤ 1048576) (hn : n ≤ 1000000) :
    Calls Tryz.prog 47 #[.slice a len cap, .int .i64 (n : Int)] w (CurMade a len cap g w) := by
  have C := Lib.hid (l01New_any a len cap g w hr hg hl)
  clear hr hg hl
  go_enter Tryz.func47, Tryz.ntmps47
  go_wp2_with fail
  refine C.out.mono ?_
  rintro e w1 ⟨B, rfl, hB, hc, hb⟩
  clear C
  have HC := Lib.hid hc
  clear hc
  go_wp2_with fail
  go_loopw [6] (fun i wr => ∃ j : Nat, j ≤ n ∧ i = .int .i64 j ∧ Hid (Cur B a len cap g wr) ∧ Below w.heap.size w wr) (fun i _ => n - (intOf i).toNat)
  case atStart => exact ⟨0, Nat.zero_le _, rfl, HC.out, hb⟩
  case round =>
    obtain ⟨j, hj, rfl, hcr, hbr⟩ := hrel
    clear HC hb
    by_cases hlt : j < n
    · go_wp2_with (go_at_call 76; refine (l01Byte_any B a len cap g _ hcr.out).mono ?_; rintro e w2 ⟨x, hx, rfl, c2, r2⟩; have hk := Lib.hid c2; clear c2)
      go_roundw
      case rel =>
        have hsz := hbr.size
        exact ⟨j + 1, by omega, by go_num, by assumption, hbr.grown (by assumption) hsz (fun k hk => by cases hk; exact hB)⟩
      case measure => simp [intOf]; omega
    · go_wp2
      go_ret
      exact ⟨B, rfl, hB, hcr.out, hbr⟩
def mtL : Nat → ByteArray
  | 0 => ⟨#[97]⟩
  | 1 => ⟨#[98, 99]⟩
  | 2 => ⟨#[32]⟩
  | 3 => ⟨#[44]⟩
  | _ => ⟨#[120, 49]⟩
theorem mtL_size (i : Nat) : (mtL i).size ≤ 2 := by
  match i with
  | 0 => decide
  | 1 => decide
  | 2 => decide
  | 3 => decide
  | n + 4 => show (2 : Nat) ≤ 2; omega
end Go.Proofs.YtakbolkdbpehoaaGreat
