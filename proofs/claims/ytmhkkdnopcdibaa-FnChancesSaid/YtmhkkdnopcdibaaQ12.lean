/-
  Packed: RankFrom, RankPlain, RankSpec2, RsnFacts, StepClone, TeamRec.
-/
import Derived.Test.YtmhkkdnopcdibaaQ2
import Derived.Test.YtmhkkdnopcdibaaQ5
import Derived.Test.YtmhkkdnopcdibaaQ8
import Derived.Test.YtmhkkdnopcdibaaQ10
import Derived.Test.YtmhkkdnopcdibaaQ11
set_option linter.unusedVariables false
namespace Go.Proofs.Ytmhkkdnopcdibaa
open Go.RowKit

def fromP (b : BookD) (n : Nat) (gg : Nat → Int) (z : Int) : Prop := bookP b ∧ teamsP b.nf n gg ∧ 0 ≤ z ∧ ∀ i, i < n → ¬ hasP gg (gg i) i
theorem ListsL.none {w w' : World} (h : Below w.heap.size w w') : ListsL w [] (.returned (.slice none 0 0)) w' :=
  ⟨_, [], rfl, rfl, ⟨⟨rfl, .inl ⟨rfl, rfl⟩⟩, (fun x hx => by cases hx), (by unfold ApartL; simp)⟩, h⟩
def allL (n : Nat) : List Int := valsL (fun i => (i : Int)) n
theorem allL_len (n : Nat) : (allL n).length = n := by unfold allL valsL; simp
theorem allL_get {n i : Nat} (h : i < n) : getI (allL n) i = i := by unfold allL valsL getI; simp [h]
theorem all_from {b : BookD} : fromP b (allL b.nf).length (getI (allL b.nf)) 0 ↔ bookP b := by
  rw [allL_len]
  refine ⟨fun h => h.1, fun h => ⟨h, fun i hi => by rw [allL_get hi]; omega, Int.le_refl _, fun i hi ⟨j, hj, e⟩ => ?_⟩⟩
  rw [allL_get hi, allL_get (by omega)] at e
  omega
def orderL (L : List (List Int)) : List Int := if ∀ p ∈ L, p.length = 1 then L.flatten else []
theorem flat_ones : ∀ (L : List (List Int)), (∀ p ∈ L, p.length = 1) → L.flatten.length = L.length
  | [], _ => rfl
  | p :: L, h => by
    rw [List.flatten_cons, List.length_append, h p (List.mem_cons_self ..), flat_ones L fun q hq => h q (List.mem_cons_of_mem _ hq)]
    simp; omega
theorem LL.kept {w w' : World} {B : Nat} {v : Value} {T : List (Value × List Int)} {row : Option Nat} (h : LL w B v T) (hg : w.grownBy w' row) (h1 : ∀ q, row = some q → Hid (v.ownBlock ≠ some q ∧ ∀ x ∈ T, x.1.ownBlock ≠ some q)) : LL w' B v T := by
  refine ⟨h.1.kept hg ?_, fun x hx => (h.2.1 x hx).kept hg ?_, h.2.2⟩
  · cases hr : row with
    | none => cases hv : v.ownBlock with
      | none => exact .inl rfl
      | some q => exact .inr (by simp)
    | some q => exact .inr fun e => (h1 q hr).out.1 e
  · cases hr : row with
    | none => cases hv : x.1.ownBlock with
      | none => exact .inl rfl
      | some q => exact .inr (by simp)
    | some q => exact .inr fun e => (h1 q hr).out.2 x hx e
theorem IntsL.none {w w' : World} (h : Below w.heap.size w w') : IntsL w [] (.returned (.slice none 0 0)) w' :=
  ⟨_, rfl, ⟨rfl, .inl ⟨rfl, rfl⟩⟩, h⟩
end Go.Proofs.Ytmhkkdnopcdibaa
set_option linter.unusedVariables false
namespace Go.Proofs.Ytmhkkdnopcdibaa
open Go.RowKit

theorem insP_perm (v t : Int) : ∀ L : List (Int × List Int), ((insP v t L).flatMap Prod.snd).Perm (t :: L.flatMap Prod.snd)
  | [] => by simp [insP]
  | (u, p) :: r => by
    unfold insP
    split
    · simp only [List.flatMap_cons]
      exact ((insP_perm v t r).append_left p).trans List.perm_middle
    · split
      · simp only [List.flatMap_cons]
        rw [List.append_assoc]
        exact List.perm_middle
      · simp
theorem splitP_perm (V gg : Nat → Int) : ∀ k, ((splitP V gg k).flatMap Prod.snd).Perm ((List.range k).map gg)
  | 0 => by simp [splitP]
  | k + 1 => by
    unfold splitP
    rw [List.range_succ, List.map_append]
    exact (insP_perm _ _ _).trans (((splitP_perm V gg k).cons _).trans (List.perm_append_singleton _ _).symm)
theorem range_getI (G : List Int) : (List.range G.length).map (getI G) = G := by
  apply List.ext_getElem?
  intro j
  rw [List.getElem?_map]
  by_cases hj : j < G.length
  · rw [List.getElem?_range hj]; simp [getI, hj]
  · rw [List.getElem?_eq_none (by simp; omega), List.getElem?_eq_none (by omega)]; rfl
theorem parts_perm (b : BookD) (key : Int) (G : List Int) : (partsL b key (getI G) G.length).flatten.Perm G := by
  have h := splitP_perm (bookV b key (getI G) G.length) (getI G) G.length
  rw [range_getI] at h
  unfold partsL
  rw [← List.flatMap_def]
  exact h
theorem insP_val {V : Nat → Int} {v t : Int} (ht : V t.toNat = v) : ∀ L : List (Int × List Int), (∀ x ∈ L, ∀ u ∈ x.2, V u.toNat = x.1) → ∀ x ∈ insP v t L, ∀ u ∈ x.2, V u.toNat = x.1
  | [], _, x, hx, u, hu => by
    unfold insP at hx
    rw [List.mem_singleton.1 hx] at hu ⊢
    rw [List.mem_singleton.1 hu]; exact ht
  | (q, p) :: r, h, x, hx, u, hu => by
    have hr : ∀ x ∈ r, ∀ u ∈ x.2, V u.toNat = x.1 := fun x hx => h x (List.mem_cons_of_mem _ hx)
    have h0 := h (q, p) (List.mem_cons_self ..)
    unfold insP at hx
    split at hx
    · rcases List.mem_cons.1 hx with rfl | hx
      · exact h0 u hu
      · exact insP_val ht r hr x hx u hu
    · split at hx
      · next hq =>
        rcases List.mem_cons.1 hx with rfl | hx
        · rcases List.mem_append.1 hu with hu | hu
          · exact h0 u hu
          · rw [List.mem_singleton.1 hu, ht]; exact hq.symm
        · exact hr x hx u hu
      · rcases List.mem_cons.1 hx with rfl | hx
        · rw [List.mem_singleton.1 hu]; exact ht
        · exact h x hx u hu
theorem splitP_val (V gg : Nat → Int) : ∀ k, ∀ x ∈ splitP V gg k, ∀ u ∈ x.2, V u.toNat = x.1
  | 0, x, hx => by cases hx
  | k + 1, x, hx => insP_val rfl _ (splitP_val V gg k) x hx
theorem insP_fst {v t : Int} : ∀ L : List (Int × List Int), ∀ x ∈ insP v t L, x.1 = v ∨ ∃ y ∈ L, y.1 = x.1
  | [], x, hx => by unfold insP at hx; rw [List.mem_singleton.1 hx]; exact .inl rfl
  | (q, p) :: r, x, hx => by
    unfold insP at hx
    split at hx
    · rcases List.mem_cons.1 hx with rfl | hx
      · exact .inr ⟨_, List.mem_cons_self .., rfl⟩
      · rcases insP_fst r x hx with h | ⟨y, hy, h⟩
        · exact .inl h
        · exact .inr ⟨y, List.mem_cons_of_mem _ hy, h⟩
    · split at hx
      · rcases List.mem_cons.1 hx with rfl | hx
        · exact .inr ⟨_, List.mem_cons_self .., rfl⟩
        · exact .inr ⟨x, List.mem_cons_of_mem _ hx, rfl⟩
      · rcases List.mem_cons.1 hx with rfl | hx
        · exact .inl rfl
        · exact .inr ⟨x, hx, rfl⟩
theorem insP_desc {v t : Int} : ∀ L : List (Int × List Int), L.Pairwise (fun a b => b.1 < a.1) → (insP v t L).Pairwise (fun a b => b.1 < a.1)
  | [], _ => by simp [insP]
  | (q, p) :: r, h => by
    have h1 := List.pairwise_cons.1 h
    unfold insP
    split
    · next hv =>
      refine List.pairwise_cons.2 ⟨fun x hx => ?_, insP_desc r h1.2⟩
      rcases insP_fst r x hx with e | ⟨y, hy, e⟩
      · rw [e]; exact hv
      · rw [← e]; exact h1.1 y hy
    · split
      · exact List.pairwise_cons.2 ⟨h1.1, h1.2⟩
      · next hv hq =>
        refine List.pairwise_cons.2 ⟨fun x hx => ?_, h⟩
        rcases List.mem_cons.1 hx with rfl | hx
        · show q < v; omega
        · have := h1.1 x hx
          show x.1 < v
          have h3 : x.1 < q := this
          omega
theorem splitP_desc (V gg : Nat → Int) : ∀ k, (splitP V gg k).Pairwise (fun a b => b.1 < a.1)
  | 0 => List.Pairwise.nil
  | k + 1 => insP_desc _ (splitP_desc V gg k)
theorem flat_flat {α β : Type} (f : α → List (List β)) : ∀ L : List α, (L.flatMap f).flatten = L.flatMap fun x => (f x).flatten
  | [] => rfl
  | x :: L => by rw [List.flatMap_cons, List.flatten_append, List.flatMap_cons, flat_flat f L]
theorem flat_perm {f : List Int → List Int} : ∀ L : List (List Int), (∀ p ∈ L, (f p).Perm p) → (L.flatMap f).Perm L.flatten
  | [], _ => List.Perm.refl _
  | p :: L, h => by
    rw [List.flatMap_cons, List.flatten_cons]
    exact (h p (List.mem_cons_self ..)).append (flat_perm L fun q hq => h q (List.mem_cons_of_mem _ hq))
theorem rank_perm (b : BookD) : ∀ G s, (rankP b G s).flatten.Perm G := by
  refine rankP_ind b (P := fun G _ L => L.flatten.Perm G) (fun s => by simp) (fun G s _ _ => by simp) fun G s hG h1 hs ih => ?_
  show (rankP b G s).flatten.Perm G
  rw [rankP_step b hG h1 hs, flat_flat]
  exact (flat_perm _ fun p hp => ih p hp).trans (parts_perm b _ G)
def seedI (b : BookD) : Prop := ∀ i j, i < b.nf → j < b.nf → ∀ gg n, bookV b 8 gg n i = bookV b 8 gg n j → i = j
theorem same_one {p : List Int} {V : Nat → Int} {v : Int} {n : Nat} (hne : p ≠ []) (hnd : p.Nodup) (hv : ∀ u ∈ p, V u.toNat = v) (hin : ∀ u ∈ p, 0 ≤ u ∧ u < (n : Int)) (hV : ∀ i j, i < n → j < n → V i = V j → i = j) : p.length = 1 := by
  match p, hne, hnd, hv, hin with
  | [], h, _, _, _ => exact absurd rfl h
  | [x], _, _, _, _ => rfl
  | x :: y :: r, _, hnd, hv, hin =>
    have hx := hin x (List.mem_cons_self ..)
    have hy := hin y (List.mem_cons_of_mem _ (List.mem_cons_self ..))
    have e := hV x.toNat y.toNat (by omega) (by omega) ((hv x (List.mem_cons_self ..)).trans (hv y (List.mem_cons_of_mem _ (List.mem_cons_self ..))).symm)
    have : x = y := by omega
    subst this
    simp at hnd
theorem parts_in {b : BookD} {key : Int} {G p : List Int} (hp : p ∈ partsL b key (getI G) G.length) : ∀ u ∈ p, u ∈ G := fun u hu => by
  have h := parts_perm b key G
  exact h.mem_iff.1 (List.mem_flatten.2 ⟨p, hp, hu⟩)
theorem parts_nodup {b : BookD} {key : Int} {G p : List Int} (hG : G.Nodup) (hp : p ∈ partsL b key (getI G) G.length) : p.Nodup := by
  have h := (parts_perm b key G).nodup_iff.2 hG
  exact (List.pairwise_flatten.1 h).1 p hp
theorem rank_ones (b : BookD) (hsd : seedI b) : ∀ G s, G.Nodup → (∀ u ∈ G, 0 ≤ u ∧ u < (b.nf : Int)) → (∃ j, s ≤ j ∧ j < b.nl ∧ b.l j = 8) → ∀ p ∈ rankP b G s, p.length = 1 := by
  refine rankP_ind b (P := fun G s L => G.Nodup → (∀ u ∈ G, 0 ≤ u ∧ u < (b.nf : Int)) → (∃ j, s ≤ j ∧ j < b.nl ∧ b.l j = 8) → ∀ p ∈ L, p.length = 1) (fun s _ _ _ p hp => by cases hp) (fun G s hG h1 _ _ hj p hp => ?_) fun G s hG h1 hs ih hnd hin hj => ?_
  · obtain ⟨j, hj1, hj2, _⟩ := hj
    rw [List.mem_singleton.1 hp]
    rcases h1 with h1 | h1
    · exact h1
    · omega
  · show ∀ p ∈ rankP b G s, p.length = 1
    rw [rankP_step b hG h1 hs]
    intro q hq
    obtain ⟨p, hp, hqp⟩ := List.mem_flatMap.1 hq
    have hpn := parts_nodup hnd hp
    have hpi : ∀ u ∈ p, 0 ≤ u ∧ u < (b.nf : Int) := fun u hu => hin u (parts_in hp u hu)
    by_cases h8 : b.l s = 8
    · have hp1 : p.length = 1 := by
        obtain ⟨x, hx, rfl⟩ := List.mem_map.1 hp
        rw [h8] at hx
        exact same_one (partsL_ne hp) hpn (splitP_val _ _ _ x hx) hpi fun i j hi hj => hsd i j hi hj _ _
      rw [rankP_one b (partsL_ne hp) (.inl hp1)] at hqp
      rw [List.mem_singleton.1 hqp]; exact hp1
    · refine ih p hp hpn hpi ?_ q hqp
      obtain ⟨j, hj1, hj2, hj3⟩ := hj
      refine ⟨j, ?_, hj2, hj3⟩
      unfold nextS
      split
      · exact Nat.zero_le _
      · rcases Nat.lt_or_ge s j with h | h
        · exact h
        · have : s = j := by omega
          subst this
          exact absurd hj3 h8
theorem flat_desc {V : Nat → Int} {f : List Int → List Int} : ∀ L : List (Int × List Int), L.Pairwise (fun a b => b.1 < a.1) → (∀ x ∈ L, ∀ u ∈ f x.2, V u.toNat = x.1) → (L.flatMap fun x => f x.2).Pairwise (fun a b => V b.toNat ≤ V a.toNat)
  | [], _, _ => List.Pairwise.nil
  | x :: L, h, hv => by
    have h1 := List.pairwise_cons.1 h
    rw [List.flatMap_cons]
    refine List.pairwise_append.2 ⟨?_, flat_desc L h1.2 fun y hy => hv y (List.mem_cons_of_mem _ hy), fun a ha c hc => ?_⟩
    · have hx := hv x (List.mem_cons_self ..)
      refine List.Pairwise.imp_of_mem (R := fun _ _ => True) (fun ha hb _ => ?_) (List.pairwise_of_forall fun _ _ => trivial)
      rw [hx _ ha, hx _ hb]
      exact Int.le_refl _
    · obtain ⟨y, hy, hcy⟩ := List.mem_flatMap.1 hc
      rw [hv x (List.mem_cons_self ..) a ha, hv y (List.mem_cons_of_mem _ hy) c hcy]
      exact Int.le_of_lt (h1.1 y hy)
theorem rank_desc (b : BookD) (G : List Int) (h0 : 0 < b.nl) : (rankP b G 0).flatten.Pairwise fun x y => bookV b (b.l 0) (getI G) G.length y.toNat ≤ bookV b (b.l 0) (getI G) G.length x.toNat := by
  by_cases hG : G = []
  · subst hG; rw [rankP_nil]; exact List.Pairwise.nil
  by_cases h1 : G.length = 1
  · rw [rankP_one b hG (.inl h1)]
    obtain ⟨x, rfl⟩ := List.length_eq_one_iff.1 h1
    simp
  · rw [rankP_step b hG h1 h0, flat_flat]
    generalize hn : nextS b (partsL b (b.l 0) (getI G) G.length).length 0 = nx
    unfold partsL
    rw [List.flatMap_map]
    refine flat_desc (f := fun p => (rankP b p nx).flatten) _ (splitP_desc _ _ _) fun x hx u hu => ?_
    exact splitP_val _ _ _ x hx u ((rank_perm b x.2 nx).mem_iff.1 hu)
def rankAt (t : Int) : List (List Int) → Nat → Int
  | [], _ => 0
  | p :: L, n => if t ∈ p then n else rankAt t L (n + p.length)
theorem rankAt_ones {t : Int} : ∀ (L : List (List Int)) (i n : Nat), (∀ p ∈ L, p.length = 1) → L.flatten.Nodup → L.flatten[i]? = some t → rankAt t L n = ((n + i : Nat) : Int)
  | [], i, n, _, _, h => by simp at h
  | p :: L, i, n, h1, hnd, h => by
    obtain ⟨x, rfl⟩ := List.length_eq_one_iff.1 (h1 p (List.mem_cons_self ..))
    unfold rankAt
    rw [List.flatten_cons] at h hnd
    cases i with
    | zero =>
      simp at h
      subst h
      simp
    | succ i =>
      have h2 : L.flatten[i]? = some t := by simpa using h
      have hm := List.mem_of_getElem? h2
      have hx : t ∉ [x] := fun e => by
        rw [List.mem_singleton.1 e] at hm
        simp at hnd
        exact absurd hm (by simpa using hnd.1)
      rw [if_neg hx, rankAt_ones L i _ (fun q hq => h1 q (List.mem_cons_of_mem _ hq)) (by simp at hnd; exact hnd.2) h2]
      show (((n + [x].length + i : Nat)) : Int) = _
      simp
      omega
end Go.Proofs.Ytmhkkdnopcdibaa
set_option linter.unusedVariables false
namespace Go.Proofs.Ytmhkkdnopcdibaa
open Go.RowKit

theorem rank_ne (b : BookD) : ∀ G s, ∀ p ∈ rankP b G s, p ≠ [] := by
  refine rankP_ind b (P := fun _ _ L => ∀ p ∈ L, p ≠ []) (fun s p hp => by cases hp) (fun G s hG _ p hp => ?_) (fun G s hG h1 hs ih p hp => ?_)
  · simp only [List.mem_singleton] at hp; subst hp; exact hG
  · rw [rankP_step b hG h1 hs] at hp
    obtain ⟨q, hq, hpq⟩ := List.mem_flatMap.1 hp
    exact ih q hq p hpq
theorem flat_take {α : Type} (L : List (List α)) (k : Nat) {x : List α} (h : L[k]? = some x) : (L.take (k + 1)).flatten = (L.take k).flatten ++ x := by
  simp [List.take_add_one, h, List.flatten_append]
theorem flat_take_le {α : Type} (L : List (List α)) (k : Nat) : (L.take k).flatten.length ≤ L.flatten.length := by
  have h := congrArg List.length (congrArg List.flatten (List.take_append_drop k L))
  rw [List.flatten_append, List.length_append] at h
  omega
theorem all_flat (b : BookD) : (rankP b (allL b.nf) 0).flatten.length = b.nf := by rw [(rank_perm b (allL b.nf) 0).length_eq, allL_len]

end Go.Proofs.Ytmhkkdnopcdibaa
set_option linter.unusedVariables false
namespace Go.Proofs.Ytmhkkdnopcdibaa
open Go.RowKit

structure RsnD where
  key : Int
  grp : List Int
  first : Int
  other : Int
def rsn0 : RsnD := ⟨0, [], 0, 0⟩
def hitL (x y : Int) (L : List (List Int)) : Option (List Int) := L.find? fun p => decide (x ∈ p ∨ y ∈ p)
theorem hit_at {x y : Int} {L : List (List Int)} {k : Nat} {p : List Int} (hk : L[k]? = some p) (hp : x ∈ p ∨ y ∈ p) (h : ∀ j q, j < k → L[j]? = some q → ¬ (x ∈ q ∨ y ∈ q)) : hitL x y L = some p := by
  obtain ⟨hl, rfl⟩ := List.getElem?_eq_some_iff.1 hk
  unfold hitL
  rw [List.find?_eq_some_iff_getElem]
  refine ⟨decide_eq_true hp, k, hl, rfl, fun j hj => ?_⟩
  have := h j L[j] hj (List.getElem?_eq_getElem (by omega))
  simpa using this
theorem hit_none {x y : Int} {L : List (List Int)} (h : ∀ j q, j < L.length → L[j]? = some q → ¬ (x ∈ q ∨ y ∈ q)) : hitL x y L = none := by
  unfold hitL
  rw [List.find?_eq_none]
  intro q hq
  obtain ⟨j, hj, rfl⟩ := List.getElem_of_mem hq
  simpa using h j _ hj (List.getElem?_eq_getElem hj)
theorem hit_mem {x y : Int} {L : List (List Int)} {p : List Int} (h : hitL x y L = some p) : p ∈ L := List.mem_of_find?_eq_some h
theorem hit_has {x y : Int} {L : List (List Int)} {p : List Int} (h : hitL x y L = some p) : x ∈ p ∨ y ∈ p := by
  have := List.find?_some h
  simpa using this
def findF (b : BookD) (x y : Int) : Nat → List Int → Nat → Option RsnD
  | 0, _, _ => none
  | f + 1, G, s => if b.nl ≤ s then none else
      match hitL x y (partsL b (b.l s) (getI G) G.length) with
      | none => none
      | some p => if x ∈ p ∧ y ∈ p then findF b x y f p (nextS b (partsL b (b.l s) (getI G) G.length).length s)
          else some ⟨b.l s, G, bookV b (b.l s) (getI G) G.length x.toNat, bookV b (b.l s) (getI G) G.length y.toNat⟩
theorem findF_fuel (b : BookD) (x y : Int) : ∀ f f' G s, rankM b.nl G.length s < f → rankM b.nl G.length s < f' → findF b x y f G s = findF b x y f' G s
  | 0, _, _, _, h, _ => absurd h (Nat.not_lt_zero _)
  | _ + 1, 0, _, _, _, h => absurd h (Nat.not_lt_zero _)
  | f + 1, f' + 1, G, s, h, h' => by
    unfold findF
    by_cases hs : b.nl ≤ s
    · rw [if_pos hs, if_pos hs]
    · rw [if_neg hs, if_neg hs]
      cases hp : hitL x y (partsL b (b.l s) (getI G) G.length) with
      | none => rfl
      | some p =>
        have := rankM_lt (b := b) (s := s) (by omega) (hit_mem hp)
        show (if _ then _ else _) = (if _ then _ else _)
        rw [findF_fuel b x y f f' p _ (by omega) (by omega)]
def findP (b : BookD) (x y : Int) (G : List Int) (s : Nat) : Option RsnD := findF b x y (rankM b.nl G.length s + 1) G s
theorem findP_end (b : BookD) (x y : Int) {G : List Int} {s : Nat} (h : b.nl ≤ s) : findP b x y G s = none := by
  unfold findP findF; rw [if_pos h]
theorem findP_none (b : BookD) {x y : Int} {G : List Int} {s : Nat} (h : hitL x y (partsL b (b.l s) (getI G) G.length) = none) : findP b x y G s = none := by
  unfold findP findF; rw [h]; simp
theorem findP_here (b : BookD) {x y : Int} {G p : List Int} {s : Nat} (hs : s < b.nl) (h : hitL x y (partsL b (b.l s) (getI G) G.length) = some p) (hp : ¬ (x ∈ p ∧ y ∈ p)) :
    findP b x y G s = some ⟨b.l s, G, bookV b (b.l s) (getI G) G.length x.toNat, bookV b (b.l s) (getI G) G.length y.toNat⟩ := by
  unfold findP findF; rw [h, if_neg (by omega)]; simp only [hp, if_false]
theorem findP_on (b : BookD) {x y : Int} {G p : List Int} {s : Nat} (hs : s < b.nl) (h : hitL x y (partsL b (b.l s) (getI G) G.length) = some p) (hp : x ∈ p ∧ y ∈ p) :
    findP b x y G s = findP b x y p (nextS b (partsL b (b.l s) (getI G) G.length).length s) := by
  unfold findP
  conv => lhs; unfold findF
  rw [h, if_neg (by omega)]
  simp only [hp, and_self, if_true]
  exact findF_fuel b x y _ _ p _ (rankM_lt hs (hit_mem h)) (Nat.lt_succ_self _)
theorem findP_ind (b : BookD) (x y : Int) {P : List Int → Nat → Option RsnD → Prop} (h0 : ∀ G s, b.nl ≤ s → P G s none) (h1 : ∀ G s, s < b.nl → hitL x y (partsL b (b.l s) (getI G) G.length) = none → P G s none)
    (h2 : ∀ G s p, s < b.nl → hitL x y (partsL b (b.l s) (getI G) G.length) = some p → ¬ (x ∈ p ∧ y ∈ p) → P G s (some ⟨b.l s, G, bookV b (b.l s) (getI G) G.length x.toNat, bookV b (b.l s) (getI G) G.length y.toNat⟩))
    (h3 : ∀ G s p, s < b.nl → hitL x y (partsL b (b.l s) (getI G) G.length) = some p → (x ∈ p ∧ y ∈ p) → P p (nextS b (partsL b (b.l s) (getI G) G.length).length s) (findP b x y p (nextS b (partsL b (b.l s) (getI G) G.length).length s)) → P G s (findP b x y G s)) : ∀ G s, P G s (findP b x y G s) := by
  have H : ∀ m G s, rankM b.nl G.length s < m → P G s (findP b x y G s) := by
    intro m
    induction m with
    | zero => intro G s h; exact absurd h (Nat.not_lt_zero _)
    | succ m ih =>
      intro G s h
      by_cases hs : b.nl ≤ s
      · rw [findP_end b x y hs]; exact h0 G s hs
      cases hp : hitL x y (partsL b (b.l s) (getI G) G.length) with
      | none => rw [findP_none b hp]; exact h1 G s (by omega) hp
      | some p =>
        by_cases hh : x ∈ p ∧ y ∈ p
        · exact h3 G s p (by omega) hp hh (ih p _ (by have := rankM_lt (b := b) (s := s) (by omega) (hit_mem hp); omega))
        · rw [findP_here b (by omega) hp hh]; exact h2 G s p (by omega) hp hh
  exact fun G s => H _ G s (Nat.lt_succ_self _)
theorem findP_len (b : BookD) (x y : Int) : ∀ G s, ∀ r, findP b x y G s = some r → r.grp.length ≤ G.length := by
  refine findP_ind b x y (P := fun G _ o => ∀ r, o = some r → r.grp.length ≤ G.length) (fun _ _ _ _ h => by cases h) (fun _ _ _ _ _ h => by cases h) (fun G s p _ _ _ r h => by cases h; exact Nat.le_refl _) (fun G s p _ hp _ ih r h => ?_)
  rw [findP_on b ‹_› hp ‹_›] at h
  exact Nat.le_trans (ih r h) (partsL_le (hit_mem hp))

def partO (t : Int) (L : List (List Int)) : Option (List Int) := hitL t t L
def stepF (b : BookD) (t : Int) : Nat → List Int → Nat → List Int
  | 0, _, _ => []
  | f + 1, G, s => if G.length < 2 ∨ b.nl ≤ s then [] else
      if (partsL b (b.l s) (getI G) G.length).length = 1 then stepF b t f G (s + 1) else
        b.l s :: match partO t (partsL b (b.l s) (getI G) G.length) with
          | none => []
          | some p => stepF b t f p (nextS b (partsL b (b.l s) (getI G) G.length).length s)
theorem stepM_lt {nl n s : Nat} (hs : s < nl) : rankM nl n (s + 1) < rankM nl n s := by unfold rankM; omega
theorem stepF_fuel (b : BookD) (t : Int) : ∀ f f' G s, rankM b.nl G.length s < f → rankM b.nl G.length s < f' → stepF b t f G s = stepF b t f' G s
  | 0, _, _, _, h, _ => absurd h (Nat.not_lt_zero _)
  | _ + 1, 0, _, _, _, h => absurd h (Nat.not_lt_zero _)
  | f + 1, f' + 1, G, s, h, h' => by
    unfold stepF
    by_cases hs : G.length < 2 ∨ b.nl ≤ s
    · rw [if_pos hs, if_pos hs]
    · rw [if_neg hs, if_neg hs]
      have h8 := stepM_lt (nl := b.nl) (n := G.length) (s := s) (by omega)
      rw [stepF_fuel b t f f' G (s + 1) (by omega) (by omega)]
      cases hp : partO t (partsL b (b.l s) (getI G) G.length) with
      | none => rfl
      | some p =>
        have := rankM_lt (b := b) (s := s) (by omega) (hit_mem hp)
        show (if _ then _ else _ :: stepF b t f p _) = (if _ then _ else _ :: stepF b t f' p _)
        rw [stepF_fuel b t f f' p _ (by omega) (by omega)]
def stepP (b : BookD) (t : Int) (G : List Int) (s : Nat) : List Int := stepF b t (rankM b.nl G.length s + 1) G s
theorem stepP_end (b : BookD) (t : Int) {G : List Int} {s : Nat} (h : G.length < 2 ∨ b.nl ≤ s) : stepP b t G s = [] := by
  unfold stepP stepF; rw [if_pos h]
theorem stepP_one (b : BookD) (t : Int) {G : List Int} {s : Nat} (h1 : ¬ G.length < 2) (hs : s < b.nl) (h : (partsL b (b.l s) (getI G) G.length).length = 1) : stepP b t G s = stepP b t G (s + 1) := by
  unfold stepP
  conv => lhs; unfold stepF
  rw [if_neg (by omega), if_pos h]
  exact stepF_fuel b t _ _ G _ (stepM_lt hs) (Nat.lt_succ_self _)
theorem stepP_none (b : BookD) {t : Int} {G : List Int} {s : Nat} (h1 : ¬ G.length < 2) (hs : s < b.nl) (h : (partsL b (b.l s) (getI G) G.length).length ≠ 1) (hp : partO t (partsL b (b.l s) (getI G) G.length) = none) : stepP b t G s = [b.l s] := by
  unfold stepP stepF
  rw [if_neg (by omega), if_neg h, hp]
theorem stepP_on (b : BookD) {t : Int} {G p : List Int} {s : Nat} (h1 : ¬ G.length < 2) (hs : s < b.nl) (h : (partsL b (b.l s) (getI G) G.length).length ≠ 1) (hp : partO t (partsL b (b.l s) (getI G) G.length) = some p) :
    stepP b t G s = b.l s :: stepP b t p (nextS b (partsL b (b.l s) (getI G) G.length).length s) := by
  unfold stepP
  conv => lhs; unfold stepF
  rw [if_neg (by omega), if_neg h, hp]
  exact congrArg (b.l s :: ·) (stepF_fuel b t _ _ p _ (rankM_lt hs (hit_mem hp)) (Nat.lt_succ_self _))
theorem stepP_len (b : BookD) (t : Int) : ∀ m G s, rankM b.nl G.length s < m → (stepP b t G s).length ≤ rankM b.nl G.length s := by
  intro m
  induction m with
  | zero => intro G s h; exact absurd h (Nat.not_lt_zero _)
  | succ m ih =>
    intro G s h
    by_cases hs : G.length < 2 ∨ b.nl ≤ s
    · rw [stepP_end b t hs]; exact Nat.zero_le _
    by_cases h1 : (partsL b (b.l s) (getI G) G.length).length = 1
    · have h8 := stepM_lt (nl := b.nl) (n := G.length) (s := s) (by omega)
      rw [stepP_one b t (by omega) (by omega) h1]
      have := ih G (s + 1) (by omega)
      omega
    · cases hp : partO t (partsL b (b.l s) (getI G) G.length) with
      | none =>
        rw [stepP_none b (by omega) (by omega) h1 hp]
        have h8 := stepM_lt (nl := b.nl) (n := G.length) (s := s) (by omega)
        simp; omega
      | some p =>
        rw [stepP_on b (by omega) (by omega) h1 hp]
        have h8 := rankM_lt (b := b) (s := s) (by omega) (hit_mem hp)
        have := ih p (nextS b (partsL b (b.l s) (getI G) G.length).length s) (by omega)
        simp; omega
end Go.Proofs.Ytmhkkdnopcdibaa
set_option linter.unusedVariables false
namespace Go.Proofs.Ytmhkkdnopcdibaa
open Go.RowKit

theorem step_cloneI {P : Program} (w : World) {ops : Array Oper} {o : Oper} {a : Act} {K : Act → World → Prop} {Q : Exit → Act → World → Prop} {E : Prop} (hgd : o.guard = none) (s x : Operand) (t : TypeId)
    (ho : o.op = .call { callee := .builtin .append, args := #[s, x], argTypes := #[t, t] })
    (base : Nat) (e : TypeId) (i : TypeInfo) (ht : P.underlying t = some (.slice e)) (hi : P.info? e = some i) (hz : i.zero = some (.int .i64 0)) (hsize : i.size = 1) (hby : i.bytes = 8)
    (D : Nat) (hs : a.eval s = .slice (some ⟨D, 0, none⟩) 0 0) (hown : w.ownsRow base e 1 (.slice (some ⟨D, 0, none⟩) 0 0) 0 [])
    (v : Value) (m : Nat) (g : Nat → Int) (hx : a.eval x = v) (hrow : IntRow w v m g) (h0 : 0 < m) (hm : m ≤ 1048576) (hbase : base ≤ D) (hD : D < w.heap.size)
    (h : ∀ gg cap w', w'.ownsRow base e 1 (.slice (some ⟨gg, 0, none⟩) m cap) m ((List.range m).map fun j => Value.int .i64 (g j)) → w.grownBy w' (some D) → K (a.put o.dst (.slice (some ⟨gg, 0, none⟩) m cap)) w') :
    if Region.wanted o (yielded ops a.tmps) = true then Oper.wp P o a w K Q else E := by
  rcases hrow with ⟨_, _, _, h1⟩ | ⟨b, off, c, rfl, _, _, hc, _⟩
  · omega
  refine step_append_lies w hgd s x t ho base e i (.int .i64 0) 1 8 ht hi hz hsize hby rfl (by decide) (.slice (some ⟨D, 0, none⟩) 0 0) 0 [] hs hown ⟨b, off, none⟩ m c ((List.range m).map fun j => Value.int .i64 (g j)) hx (by simp) ?_
    (by intro u hu; simp only [List.mem_map] at hu; obtain ⟨_, _, rfl⟩ := hu; rfl) h0 (by unfold maxLen; omega) (by omega) (by omega) _ rfl ?_
  · intro j u hu
    simp only [List.getElem?_map] at hu
    by_cases hj : j < m
    · rw [List.getElem?_range hj] at hu
      simp only [Option.map_some, Option.some.injEq] at hu
      subst hu
      have hadd : (⟨b, off, none⟩ : Addr).add j = ⟨b, off + j, none⟩ := by unfold Addr.add; split <;> simp_all
      rw [hadd]
      exact hc j hj
    · rw [List.getElem?_eq_none (by simp; omega)] at hu; cases hu
  · intro gg cap w' ho' hg' hat hlt
    simp only [Nat.zero_add, List.nil_append] at ho' ⊢
    exact h gg cap w' ho' hg'
end Go.Proofs.Ytmhkkdnopcdibaa
set_option linter.unusedVariables false
namespace Go.Proofs.Ytmhkkdnopcdibaa
open Go.RowKit

theorem TeamRow.rec {w : World} {v : Value} {n : Nat} {g : Nat → TeamD} (h : TeamRow w v n g) : RecRow 3 w v n fun i => (g i).cells := by
  rcases h with ⟨a, c, rfl, rfl⟩ | ⟨b, off, c, rfl, h0, h1, hc, h2⟩
  · exact .inl ⟨_, _, rfl, rfl⟩
  · refine .inr ⟨b, off, c, rfl, h0, h1, fun i hi => ⟨World.block_lt_of_cell? w _ (hc i hi).1, fun j u hu => ?_⟩, h2⟩
    have hj : j < 3 := by have := (List.getElem?_eq_some_iff.1 hu).1; simpa [TeamD.cells] using this
    have : j = 0 ∨ j = 1 ∨ j = 2 := by omega
    rcases this with rfl | rfl | rfl <;> (simp [TeamD.cells] at hu; subst hu)
    · exact (hc i hi).1
    · exact (hc i hi).2.1
    · exact (hc i hi).2.2
theorem RecRow.teams {w : World} {v : Value} {n : Nat} {g : Nat → TeamD} (h : RecRow 3 w v n fun i => (g i).cells) : TeamRow w v n g := by
  rcases h with ⟨a, c, rfl, rfl⟩ | ⟨b, off, c, rfl, h0, h1, hc, h2⟩
  · exact .inl ⟨_, _, rfl, rfl⟩
  · exact .inr ⟨b, off, c, rfl, h0, h1, fun i hi => ⟨(hc i hi).2 0 _ rfl, (hc i hi).2 1 _ rfl, (hc i hi).2 2 _ rfl⟩, h2⟩
end Go.Proofs.Ytmhkkdnopcdibaa
