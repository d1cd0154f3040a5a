/-
  Packed: Rank, RankFrom, RankPlain, RankSpec2, RsnFacts, StepClone, TeamRec, TypeNote, Records, Records2, Records3, Records4, Records5, NotesList, Canon, Apply, RulesImpl.
-/
import Derived.Deep.RegionHeld3
import Derived.Test.YtmhkkdnopcdibaaQ1
import Derived.Test.YtmhkkdnopcdibaaQ3
import Derived.Test.YtmhkkdnopcdibaaQ5
import Derived.Test.YtmhkkdnopcdibaaQ6
set_option linter.unusedVariables false
namespace Go.Proofs.Ytmhkkdnopcdibaa
open Go.RowKit

theorem rankP_ind (b : BookD) {P : List Int → Nat → List (List Int) → Prop} (h0 : ∀ s, P [] s []) (h1 : ∀ G s, G ≠ [] → (G.length = 1 ∨ b.nl ≤ s) → P G s [G])
    (h2 : ∀ G s, G ≠ [] → G.length ≠ 1 → s < b.nl → (∀ p ∈ partsL b (b.l s) (getI G) G.length, P p (nextS b (partsL b (b.l s) (getI G) G.length).length s) (rankP b p (nextS b (partsL b (b.l s) (getI G) G.length).length s))) → P G s (rankP b G s)) : ∀ G s, P G s (rankP b G s) := by
  have H : ∀ m G s, rankM b.nl G.length s < m → P G s (rankP b G s) := by
    intro m
    induction m with
    | zero => intro G s h; exact absurd h (Nat.not_lt_zero _)
    | succ m ih =>
      intro G s h
      by_cases hG : G = []
      · subst hG; rw [rankP_nil]; exact h0 s
      by_cases hs : G.length = 1 ∨ b.nl ≤ s
      · rw [rankP_one b hG hs]; exact h1 G s hG hs
      · exact h2 G s hG (by omega) (by omega) fun p hp => ih p _ (by have := rankM_lt (b := b) (G := G) (s := s) (by omega) hp; omega)
  exact fun G s => H _ G s (Nat.lt_succ_self _)
theorem parts_sum (b : BookD) (key : Int) (gg : Nat → Int) (n : Nat) : ((partsL b key gg n).map List.length).sum = n := by
  have h := splitP_sum (bookV b key gg n) gg n
  unfold lenS at h
  unfold partsL
  rw [List.map_map]
  exact h
theorem flat_le {f g : List Int → Nat} : ∀ (L : List (List Int)), (∀ p ∈ L, f p ≤ g p) → (L.map f).sum ≤ (L.map g).sum
  | [], _ => Nat.le_refl _
  | p :: L, h => by
    have h1 := flat_le (f := f) (g := g) L fun q hq => h q (List.mem_cons_of_mem _ hq)
    have h2 := h p (List.mem_cons_self ..)
    simp only [List.map_cons, List.sum_cons]
    omega
theorem rankP_len (b : BookD) : ∀ G s, (rankP b G s).length ≤ G.length := by
  refine rankP_ind b (P := fun G _ L => L.length ≤ G.length) (fun s => by simp) (fun G s hG _ => ?_) fun G s hG h1 hs ih => ?_
  · have := List.length_pos_iff.2 hG
    simp; omega
  · show (rankP b G s).length ≤ G.length
    rw [rankP_step b hG h1 hs, List.length_flatMap]
    refine Nat.le_trans (flat_le (g := List.length) _ fun p hp => ih p hp) ?_
    rw [parts_sum]
    exact Nat.le_refl _
theorem take_flat {α β : Type} (f : α → List β) (L : List α) (k : Nat) : ((L.take k).flatMap f).length ≤ (L.flatMap f).length := by
  conv => rhs; rw [← List.take_append_drop k L, List.flatMap_append, List.length_append]
  omega
theorem take_flat_succ {α β : Type} (f : α → List β) (L : List α) (k : Nat) {x : α} (h : L[k]? = some x) : (L.take (k + 1)).flatMap f = (L.take k).flatMap f ++ f x := by
  obtain ⟨hk, rfl⟩ := List.getElem?_eq_some_iff.1 h
  rw [← List.take_append_getElem hk, List.flatMap_append]
  simp
theorem getI_range (G : List Int) : ((List.range G.length).map fun j => Value.int .i64 (getI G j)) = G.map (Value.int .i64) := by
  apply List.ext_getElem?
  intro j
  rw [List.getElem?_map, List.getElem?_map]
  by_cases hj : j < G.length
  · rw [List.getElem?_range hj, List.getElem?_eq_getElem hj]
    simp [getI, hj]
  · rw [List.getElem?_eq_none (by simp; omega), List.getElem?_eq_none (by omega)]
    rfl
theorem LL.rec {w : World} {B : Nat} {v : Value} {T : List (Value × List Int)} (h : LL w B v T) (hn : T.length ≤ 9223372036854775807) :
    ∃ g, RecRow 1 w v T.length g ∧ (∀ i, i < T.length → (g i).length = 1) ∧ (∀ i, i < T.length → ∀ u ∈ g i, u.oneCell' = true) ∧ flatR g T.length = T.map Prod.fst := by
  refine ⟨fun i => [(T.map Prod.fst).getD i undef], RecRow.of_owns h.1 hn (fun i hi j u hu => ?_) (fun _ _ => by simp), fun _ _ => by simp, fun i hi u hu => ?_, ?_⟩
  · cases j with
    | zero =>
      simp only [List.getElem?_cons_zero, Option.some.injEq] at hu
      subst hu
      rw [Nat.mul_one, Nat.add_zero, List.getD_eq_getElem?_getD, List.getElem?_eq_getElem (by simpa using hi)]
      rfl
    | succ j => simp at hu
  · rw [List.mem_singleton.1 hu, List.getD_eq_getElem?_getD, List.getElem?_eq_getElem (by simpa using hi)]
    simp only [List.getElem_map, Option.getD_some]
    exact one_of_slice (h.2.1 _ (List.getElem_mem hi))
  · unfold flatR
    apply List.ext_getElem?
    intro j
    have e : ∀ n, (List.range n).flatMap (fun i => [(T.map Prod.fst).getD i undef]) = (List.range n).map fun i => (T.map Prod.fst).getD i undef := fun n => by
      induction n with
      | zero => rfl
      | succ n ih => rw [List.range_succ, List.flatMap_append, List.map_append, ih]; simp
    rw [e, List.getElem?_map]
    by_cases hj : j < T.length
    · rw [List.getElem?_range hj]
      simp [hj]
    · rw [List.getElem?_eq_none (by simp; omega), List.getElem?_eq_none (by simp; omega)]
      rfl
theorem LL.nil {w : World} : LL (w.alloc (.cells #[] 31)) w.heap.size (.slice (some ⟨w.heap.size, 0, none⟩) 0 0) [] :=
  ⟨World.ownsRow_lit (e := 31) (size := 1) w #[] 0 (Nat.le_refl _) (by decide) rfl, ⟨(fun x hx => by cases hx), (by unfold ApartL; simp)⟩⟩
theorem LL.one {w : World} {B : Nat} {v : Value} {G : List Int} (h : w.ownsRow B 3 1 v G.length (G.map (Value.int .i64))) (hB : B ≤ w.heap.size) : LL (w.alloc (.cells #[v] 31)) B (.slice (some ⟨w.heap.size, 0, none⟩) 1 1) [(v, G)] := by
  refine ⟨owns_mono (World.ownsRow_lit (e := 31) (size := 1) w #[v] 1 (Nat.le_refl _) (by decide) rfl) hB, fun x hx => ?_, ?_⟩
  · rw [List.mem_singleton.1 hx]
    exact h.alloc _
  · refine List.pairwise_cons.2 ⟨fun z hz => ?_, by simp⟩
    rw [List.mem_singleton.1 hz]
    intro k h1 h2
    have := (h.lt k h2).2
    have h3 : w.heap.size = k := by simpa [Value.ownBlock] using h1
    omega
end Go.Proofs.Ytmhkkdnopcdibaa
set_option linter.unusedVariables false
namespace Go.Proofs.Ytmhkkdnopcdibaa
open Go.RowKit

def fromP (b : BookD) (n : Nat) (gg : Nat → Int) (z : Int) : Prop := bookP b ∧ teamsP b.nf n gg ∧ 0 ≤ z ∧ ∀ i, i < n → ¬ hasP gg (gg i) i
theorem ListsL.none {w w' : World} (h : Below w.heap.size w w') : ListsL w [] (.returned (.slice none 0 0)) w' :=
  ⟨_, [], rfl, rfl, ⟨⟨rfl, .inl ⟨rfl, rfl⟩⟩, (fun x hx => by cases hx), (by unfold ApartL; simp)⟩, h⟩
def allL (n : Nat) : List Int := valsL (fun i => (i : Int)) n
theorem allL_len (n : Nat) : (allL n).length = n := by unfold allL valsL; simp
theorem allL_get {n i : Nat} (h : i < n) : getI (allL n) i = i := by unfold allL valsL getI; simp [h]
theorem all_from {b : BookD} : fromP b (allL b.nf).length (getI (allL b.nf)) 0 ↔ bookP b := by
  rw [allL_len]
  refine ⟨fun h => h.1, fun h => ⟨h, fun i hi => by rw [allL_get hi]; omega, Int.le_refl _, fun i hi ⟨j, hj, e⟩ => ?_⟩⟩
  rw [allL_get hi, allL_get (by omega)] at e
  omega
def orderL (L : List (List Int)) : List Int := if ∀ p ∈ L, p.length = 1 then L.flatten else []
theorem flat_ones : ∀ (L : List (List Int)), (∀ p ∈ L, p.length = 1) → L.flatten.length = L.length
  | [], _ => rfl
  | p :: L, h => by
    rw [List.flatten_cons, List.length_append, h p (List.mem_cons_self ..), flat_ones L fun q hq => h q (List.mem_cons_of_mem _ hq)]
    simp; omega
theorem LL.kept {w w' : World} {B : Nat} {v : Value} {T : List (Value × List Int)} {row : Option Nat} (h : LL w B v T) (hg : w.grownBy w' row) (h1 : ∀ q, row = some q → Hid (v.ownBlock ≠ some q ∧ ∀ x ∈ T, x.1.ownBlock ≠ some q)) : LL w' B v T := by
  refine ⟨h.1.kept hg ?_, fun x hx => (h.2.1 x hx).kept hg ?_, h.2.2⟩
  · cases hr : row with
    | none => cases hv : v.ownBlock with
      | none => exact .inl rfl
      | some q => exact .inr (by simp)
    | some q => exact .inr fun e => (h1 q hr).out.1 e
  · cases hr : row with
    | none => cases hv : x.1.ownBlock with
      | none => exact .inl rfl
      | some q => exact .inr (by simp)
    | some q => exact .inr fun e => (h1 q hr).out.2 x hx e
theorem IntsL.none {w w' : World} (h : Below w.heap.size w w') : IntsL w [] (.returned (.slice none 0 0)) w' :=
  ⟨_, rfl, ⟨rfl, .inl ⟨rfl, rfl⟩⟩, h⟩
end Go.Proofs.Ytmhkkdnopcdibaa
set_option linter.unusedVariables false
namespace Go.Proofs.Ytmhkkdnopcdibaa
open Go.RowKit

theorem insP_perm (v t : Int) : ∀ L : List (Int × List Int), ((insP v t L).flatMap Prod.snd).Perm (t :: L.flatMap Prod.snd)
  | [] => by simp [insP]
  | (u, p) :: r => by
    unfold insP
    split
    · simp only [List.flatMap_cons]
      exact ((insP_perm v t r).append_left p).trans List.perm_middle
    · split
      · simp only [List.flatMap_cons]
        rw [List.append_assoc]
        exact List.perm_middle
      · simp
theorem splitP_perm (V gg : Nat → Int) : ∀ k, ((splitP V gg k).flatMap Prod.snd).Perm ((List.range k).map gg)
  | 0 => by simp [splitP]
  | k + 1 => by
    unfold splitP
    rw [List.range_succ, List.map_append]
    exact (insP_perm _ _ _).trans (((splitP_perm V gg k).cons _).trans (List.perm_append_singleton _ _).symm)
theorem range_getI (G : List Int) : (List.range G.length).map (getI G) = G := by
  apply List.ext_getElem?
  intro j
  rw [List.getElem?_map]
  by_cases hj : j < G.length
  · rw [List.getElem?_range hj]; simp [getI, hj]
  · rw [List.getElem?_eq_none (by simp; omega), List.getElem?_eq_none (by omega)]; rfl
theorem parts_perm (b : BookD) (key : Int) (G : List Int) : (partsL b key (getI G) G.length).flatten.Perm G := by
  have h := splitP_perm (bookV b key (getI G) G.length) (getI G) G.length
  rw [range_getI] at h
  unfold partsL
  rw [← List.flatMap_def]
  exact h
theorem insP_val {V : Nat → Int} {v t : Int} (ht : V t.toNat = v) : ∀ L : List (Int × List Int), (∀ x ∈ L, ∀ u ∈ x.2, V u.toNat = x.1) → ∀ x ∈ insP v t L, ∀ u ∈ x.2, V u.toNat = x.1
  | [], _, x, hx, u, hu => by
    unfold insP at hx
    rw [List.mem_singleton.1 hx] at hu ⊢
    rw [List.mem_singleton.1 hu]; exact ht
  | (q, p) :: r, h, x, hx, u, hu => by
    have hr : ∀ x ∈ r, ∀ u ∈ x.2, V u.toNat = x.1 := fun x hx => h x (List.mem_cons_of_mem _ hx)
    have h0 := h (q, p) (List.mem_cons_self ..)
    unfold insP at hx
    split at hx
    · rcases List.mem_cons.1 hx with rfl | hx
      · exact h0 u hu
      · exact insP_val ht r hr x hx u hu
    · split at hx
      · next hq =>
        rcases List.mem_cons.1 hx with rfl | hx
        · rcases List.mem_append.1 hu with hu | hu
          · exact h0 u hu
          · rw [List.mem_singleton.1 hu, ht]; exact hq.symm
        · exact hr x hx u hu
      · rcases List.mem_cons.1 hx with rfl | hx
        · rw [List.mem_singleton.1 hu]; exact ht
        · exact h x hx u hu
theorem splitP_val (V gg : Nat → Int) : ∀ k, ∀ x ∈ splitP V gg k, ∀ u ∈ x.2, V u.toNat = x.1
  | 0, x, hx => by cases hx
  | k + 1, x, hx => insP_val rfl _ (splitP_val V gg k) x hx
theorem insP_fst {v t : Int} : ∀ L : List (Int × List Int), ∀ x ∈ insP v t L, x.1 = v ∨ ∃ y ∈ L, y.1 = x.1
  | [], x, hx => by unfold insP at hx; rw [List.mem_singleton.1 hx]; exact .inl rfl
  | (q, p) :: r, x, hx => by
    unfold insP at hx
    split at hx
    · rcases List.mem_cons.1 hx with rfl | hx
      · exact .inr ⟨_, List.mem_cons_self .., rfl⟩
      · rcases insP_fst r x hx with h | ⟨y, hy, h⟩
        · exact .inl h
        · exact .inr ⟨y, List.mem_cons_of_mem _ hy, h⟩
    · split at hx
      · rcases List.mem_cons.1 hx with rfl | hx
        · exact .inr ⟨_, List.mem_cons_self .., rfl⟩
        · exact .inr ⟨x, List.mem_cons_of_mem _ hx, rfl⟩
      · rcases List.mem_cons.1 hx with rfl | hx
        · exact .inl rfl
        · exact .inr ⟨x, hx, rfl⟩
theorem insP_desc {v t : Int} : ∀ L : List (Int × List Int), L.Pairwise (fun a b => b.1 < a.1) → (insP v t L).Pairwise (fun a b => b.1 < a.1)
  | [], _ => by simp [insP]
  | (q, p) :: r, h => by
    have h1 := List.pairwise_cons.1 h
    unfold insP
    split
    · next hv =>
      refine List.pairwise_cons.2 ⟨fun x hx => ?_, insP_desc r h1.2⟩
      rcases insP_fst r x hx with e | ⟨y, hy, e⟩
      · rw [e]; exact hv
      · rw [← e]; exact h1.1 y hy
    · split
      · exact List.pairwise_cons.2 ⟨h1.1, h1.2⟩
      · next hv hq =>
        refine List.pairwise_cons.2 ⟨fun x hx => ?_, h⟩
        rcases List.mem_cons.1 hx with rfl | hx
        · show q < v; omega
        · have := h1.1 x hx
          show x.1 < v
          have h3 : x.1 < q := this
          omega
theorem splitP_desc (V gg : Nat → Int) : ∀ k, (splitP V gg k).Pairwise (fun a b => b.1 < a.1)
  | 0 => List.Pairwise.nil
  | k + 1 => insP_desc _ (splitP_desc V gg k)
theorem flat_flat {α β : Type} (f : α → List (List β)) : ∀ L : List α, (L.flatMap f).flatten = L.flatMap fun x => (f x).flatten
  | [] => rfl
  | x :: L => by rw [List.flatMap_cons, List.flatten_append, List.flatMap_cons, flat_flat f L]
theorem flat_perm {f : List Int → List Int} : ∀ L : List (List Int), (∀ p ∈ L, (f p).Perm p) → (L.flatMap f).Perm L.flatten
  | [], _ => List.Perm.refl _
  | p :: L, h => by
    rw [List.flatMap_cons, List.flatten_cons]
    exact (h p (List.mem_cons_self ..)).append (flat_perm L fun q hq => h q (List.mem_cons_of_mem _ hq))
theorem rank_perm (b : BookD) : ∀ G s, (rankP b G s).flatten.Perm G := by
  refine rankP_ind b (P := fun G _ L => L.flatten.Perm G) (fun s => by simp) (fun G s _ _ => by simp) fun G s hG h1 hs ih => ?_
  show (rankP b G s).flatten.Perm G
  rw [rankP_step b hG h1 hs, flat_flat]
  exact (flat_perm _ fun p hp => ih p hp).trans (parts_perm b _ G)
def seedI (b : BookD) : Prop := ∀ i j, i < b.nf → j < b.nf → ∀ gg n, bookV b 8 gg n i = bookV b 8 gg n j → i = j
theorem same_one {p : List Int} {V : Nat → Int} {v : Int} {n : Nat} (hne : p ≠ []) (hnd : p.Nodup) (hv : ∀ u ∈ p, V u.toNat = v) (hin : ∀ u ∈ p, 0 ≤ u ∧ u < (n : Int)) (hV : ∀ i j, i < n → j < n → V i = V j → i = j) : p.length = 1 := by
  match p, hne, hnd, hv, hin with
  | [], h, _, _, _ => exact absurd rfl h
  | [x], _, _, _, _ => rfl
  | x :: y :: r, _, hnd, hv, hin =>
    have hx := hin x (List.mem_cons_self ..)
    have hy := hin y (List.mem_cons_of_mem _ (List.mem_cons_self ..))
    have e := hV x.toNat y.toNat (by omega) (by omega) ((hv x (List.mem_cons_self ..)).trans (hv y (List.mem_cons_of_mem _ (List.mem_cons_self ..))).symm)
    have : x = y := by omega
    subst this
    simp at hnd
theorem parts_in {b : BookD} {key : Int} {G p : List Int} (hp : p ∈ partsL b key (getI G) G.length) : ∀ u ∈ p, u ∈ G := fun u hu => by
  have h := parts_perm b key G
  exact h.mem_iff.1 (List.mem_flatten.2 ⟨p, hp, hu⟩)
theorem parts_nodup {b : BookD} {key : Int} {G p : List Int} (hG : G.Nodup) (hp : p ∈ partsL b key (getI G) G.length) : p.Nodup := by
  have h := (parts_perm b key G).nodup_iff.2 hG
  exact (List.pairwise_flatten.1 h).1 p hp
theorem rank_ones (b : BookD) (hsd : seedI b) : ∀ G s, G.Nodup → (∀ u ∈ G, 0 ≤ u ∧ u < (b.nf : Int)) → (∃ j, s ≤ j ∧ j < b.nl ∧ b.l j = 8) → ∀ p ∈ rankP b G s, p.length = 1 := by
  refine rankP_ind b (P := fun G s L => G.Nodup → (∀ u ∈ G, 0 ≤ u ∧ u < (b.nf : Int)) → (∃ j, s ≤ j ∧ j < b.nl ∧ b.l j = 8) → ∀ p ∈ L, p.length = 1) (fun s _ _ _ p hp => by cases hp) (fun G s hG h1 _ _ hj p hp => ?_) fun G s hG h1 hs ih hnd hin hj => ?_
  · obtain ⟨j, hj1, hj2, _⟩ := hj
    rw [List.mem_singleton.1 hp]
    rcases h1 with h1 | h1
    · exact h1
    · omega
  · show ∀ p ∈ rankP b G s, p.length = 1
    rw [rankP_step b hG h1 hs]
    intro q hq
    obtain ⟨p, hp, hqp⟩ := List.mem_flatMap.1 hq
    have hpn := parts_nodup hnd hp
    have hpi : ∀ u ∈ p, 0 ≤ u ∧ u < (b.nf : Int) := fun u hu => hin u (parts_in hp u hu)
    by_cases h8 : b.l s = 8
    · have hp1 : p.length = 1 := by
        obtain ⟨x, hx, rfl⟩ := List.mem_map.1 hp
        rw [h8] at hx
        exact same_one (partsL_ne hp) hpn (splitP_val _ _ _ x hx) hpi fun i j hi hj => hsd i j hi hj _ _
      rw [rankP_one b (partsL_ne hp) (.inl hp1)] at hqp
      rw [List.mem_singleton.1 hqp]; exact hp1
    · refine ih p hp hpn hpi ?_ q hqp
      obtain ⟨j, hj1, hj2, hj3⟩ := hj
      refine ⟨j, ?_, hj2, hj3⟩
      unfold nextS
      split
      · exact Nat.zero_le _
      · rcases Nat.lt_or_ge s j with h | h
        · exact h
        · have : s = j := by omega
          subst this
          exact absurd hj3 h8
theorem flat_desc {V : Nat → Int} {f : List Int → List Int} : ∀ L : List (Int × List Int), L.Pairwise (fun a b => b.1 < a.1) → (∀ x ∈ L, ∀ u ∈ f x.2, V u.toNat = x.1) → (L.flatMap fun x => f x.2).Pairwise (fun a b => V b.toNat ≤ V a.toNat)
  | [], _, _ => List.Pairwise.nil
  | x :: L, h, hv => by
    have h1 := List.pairwise_cons.1 h
    rw [List.flatMap_cons]
    refine List.pairwise_append.2 ⟨?_, flat_desc L h1.2 fun y hy => hv y (List.mem_cons_of_mem _ hy), fun a ha c hc => ?_⟩
    · have hx := hv x (List.mem_cons_self ..)
      refine List.Pairwise.imp_of_mem (R := fun _ _ => True) (fun ha hb _ => ?_) (List.pairwise_of_forall fun _ _ => trivial)
      rw [hx _ ha, hx _ hb]
      exact Int.le_refl _
    · obtain ⟨y, hy, hcy⟩ := List.mem_flatMap.1 hc
      rw [hv x (List.mem_cons_self ..) a ha, hv y (List.mem_cons_of_mem _ hy) c hcy]
      exact Int.le_of_lt (h1.1 y hy)
theorem rank_desc (b : BookD) (G : List Int) (h0 : 0 < b.nl) : (rankP b G 0).flatten.Pairwise fun x y => bookV b (b.l 0) (getI G) G.length y.toNat ≤ bookV b (b.l 0) (getI G) G.length x.toNat := by
  by_cases hG : G = []
  · subst hG; rw [rankP_nil]; exact List.Pairwise.nil
  by_cases h1 : G.length = 1
  · rw [rankP_one b hG (.inl h1)]
    obtain ⟨x, rfl⟩ := List.length_eq_one_iff.1 h1
    simp
  · rw [rankP_step b hG h1 h0, flat_flat]
    generalize hn : nextS b (partsL b (b.l 0) (getI G) G.length).length 0 = nx
    unfold partsL
    rw [List.flatMap_map]
    refine flat_desc (f := fun p => (rankP b p nx).flatten) _ (splitP_desc _ _ _) fun x hx u hu => ?_
    exact splitP_val _ _ _ x hx u ((rank_perm b x.2 nx).mem_iff.1 hu)
def rankAt (t : Int) : List (List Int) → Nat → Int
  | [], _ => 0
  | p :: L, n => if t ∈ p then n else rankAt t L (n + p.length)
theorem rankAt_ones {t : Int} : ∀ (L : List (List Int)) (i n : Nat), (∀ p ∈ L, p.length = 1) → L.flatten.Nodup → L.flatten[i]? = some t → rankAt t L n = ((n + i : Nat) : Int)
  | [], i, n, _, _, h => by simp at h
  | p :: L, i, n, h1, hnd, h => by
    obtain ⟨x, rfl⟩ := List.length_eq_one_iff.1 (h1 p (List.mem_cons_self ..))
    unfold rankAt
    rw [List.flatten_cons] at h hnd
    cases i with
    | zero =>
      simp at h
      subst h
      simp
    | succ i =>
      have h2 : L.flatten[i]? = some t := by simpa using h
      have hm := List.mem_of_getElem? h2
      have hx : t ∉ [x] := fun e => by
        rw [List.mem_singleton.1 e] at hm
        simp at hnd
        exact absurd hm (by simpa using hnd.1)
      rw [if_neg hx, rankAt_ones L i _ (fun q hq => h1 q (List.mem_cons_of_mem _ hq)) (by simp at hnd; exact hnd.2) h2]
      show (((n + [x].length + i : Nat)) : Int) = _
      simp
      omega
end Go.Proofs.Ytmhkkdnopcdibaa
set_option linter.unusedVariables false
namespace Go.Proofs.Ytmhkkdnopcdibaa
open Go.RowKit

theorem rank_ne (b : BookD) : ∀ G s, ∀ p ∈ rankP b G s, p ≠ [] := by
  refine rankP_ind b (P := fun _ _ L => ∀ p ∈ L, p ≠ []) (fun s p hp => by cases hp) (fun G s hG _ p hp => ?_) (fun G s hG h1 hs ih p hp => ?_)
  · simp only [List.mem_singleton] at hp; subst hp; exact hG
  · rw [rankP_step b hG h1 hs] at hp
    obtain ⟨q, hq, hpq⟩ := List.mem_flatMap.1 hp
    exact ih q hq p hpq
theorem flat_take {α : Type} (L : List (List α)) (k : Nat) {x : List α} (h : L[k]? = some x) : (L.take (k + 1)).flatten = (L.take k).flatten ++ x := by
  simp [List.take_add_one, h, List.flatten_append]
theorem flat_take_le {α : Type} (L : List (List α)) (k : Nat) : (L.take k).flatten.length ≤ L.flatten.length := by
  have h := congrArg List.length (congrArg List.flatten (List.take_append_drop k L))
  rw [List.flatten_append, List.length_append] at h
  omega
theorem all_flat (b : BookD) : (rankP b (allL b.nf) 0).flatten.length = b.nf := by rw [(rank_perm b (allL b.nf) 0).length_eq, allL_len]

end Go.Proofs.Ytmhkkdnopcdibaa
set_option linter.unusedVariables false
namespace Go.Proofs.Ytmhkkdnopcdibaa
open Go.RowKit

structure RsnD where
  key : Int
  grp : List Int
  first : Int
  other : Int
def rsn0 : RsnD := ⟨0, [], 0, 0⟩
def hitL (x y : Int) (L : List (List Int)) : Option (List Int) := L.find? fun p => decide (x ∈ p ∨ y ∈ p)
theorem hit_at {x y : Int} {L : List (List Int)} {k : Nat} {p : List Int} (hk : L[k]? = some p) (hp : x ∈ p ∨ y ∈ p) (h : ∀ j q, j < k → L[j]? = some q → ¬ (x ∈ q ∨ y ∈ q)) : hitL x y L = some p := by
  obtain ⟨hl, rfl⟩ := List.getElem?_eq_some_iff.1 hk
  unfold hitL
  rw [List.find?_eq_some_iff_getElem]
  refine ⟨decide_eq_true hp, k, hl, rfl, fun j hj => ?_⟩
  have := h j L[j] hj (List.getElem?_eq_getElem (by omega))
  simpa using this
theorem hit_none {x y : Int} {L : List (List Int)} (h : ∀ j q, j < L.length → L[j]? = some q → ¬ (x ∈ q ∨ y ∈ q)) : hitL x y L = none := by
  unfold hitL
  rw [List.find?_eq_none]
  intro q hq
  obtain ⟨j, hj, rfl⟩ := List.getElem_of_mem hq
  simpa using h j _ hj (List.getElem?_eq_getElem hj)
theorem hit_mem {x y : Int} {L : List (List Int)} {p : List Int} (h : hitL x y L = some p) : p ∈ L := List.mem_of_find?_eq_some h
theorem hit_has {x y : Int} {L : List (List Int)} {p : List Int} (h : hitL x y L = some p) : x ∈ p ∨ y ∈ p := by
  have := List.find?_some h
  simpa using this
def findF (b : BookD) (x y : Int) : Nat → List Int → Nat → Option RsnD
  | 0, _, _ => none
  | f + 1, G, s => if b.nl ≤ s then none else
      match hitL x y (partsL b (b.l s) (getI G) G.length) with
      | none => none
      | some p => if x ∈ p ∧ y ∈ p then findF b x y f p (nextS b (partsL b (b.l s) (getI G) G.length).length s)
          else some ⟨b.l s, G, bookV b (b.l s) (getI G) G.length x.toNat, bookV b (b.l s) (getI G) G.length y.toNat⟩
theorem findF_fuel (b : BookD) (x y : Int) : ∀ f f' G s, rankM b.nl G.length s < f → rankM b.nl G.length s < f' → findF b x y f G s = findF b x y f' G s
  | 0, _, _, _, h, _ => absurd h (Nat.not_lt_zero _)
  | _ + 1, 0, _, _, _, h => absurd h (Nat.not_lt_zero _)
  | f + 1, f' + 1, G, s, h, h' => by
    unfold findF
    by_cases hs : b.nl ≤ s
    · rw [if_pos hs, if_pos hs]
    · rw [if_neg hs, if_neg hs]
      cases hp : hitL x y (partsL b (b.l s) (getI G) G.length) with
      | none => rfl
      | some p =>
        have := rankM_lt (b := b) (s := s) (by omega) (hit_mem hp)
        show (if _ then _ else _) = (if _ then _ else _)
        rw [findF_fuel b x y f f' p _ (by omega) (by omega)]
def findP (b : BookD) (x y : Int) (G : List Int) (s : Nat) : Option RsnD := findF b x y (rankM b.nl G.length s + 1) G s
theorem findP_end (b : BookD) (x y : Int) {G : List Int} {s : Nat} (h : b.nl ≤ s) : findP b x y G s = none := by
  unfold findP findF; rw [if_pos h]
theorem findP_none (b : BookD) {x y : Int} {G : List Int} {s : Nat} (h : hitL x y (partsL b (b.l s) (getI G) G.length) = none) : findP b x y G s = none := by
  unfold findP findF; rw [h]; simp
theorem findP_here (b : BookD) {x y : Int} {G p : List Int} {s : Nat} (hs : s < b.nl) (h : hitL x y (partsL b (b.l s) (getI G) G.length) = some p) (hp : ¬ (x ∈ p ∧ y ∈ p)) :
    findP b x y G s = some ⟨b.l s, G, bookV b (b.l s) (getI G) G.length x.toNat, bookV b (b.l s) (getI G) G.length y.toNat⟩ := by
  unfold findP findF; rw [h, if_neg (by omega)]; simp only [hp, if_false]
theorem findP_on (b : BookD) {x y : Int} {G p : List Int} {s : Nat} (hs : s < b.nl) (h : hitL x y (partsL b (b.l s) (getI G) G.length) = some p) (hp : x ∈ p ∧ y ∈ p) :
    findP b x y G s = findP b x y p (nextS b (partsL b (b.l s) (getI G) G.length).length s) := by
  unfold findP
  conv => lhs; unfold findF
  rw [h, if_neg (by omega)]
  simp only [hp, and_self, if_true]
  exact findF_fuel b x y _ _ p _ (rankM_lt hs (hit_mem h)) (Nat.lt_succ_self _)
theorem findP_ind (b : BookD) (x y : Int) {P : List Int → Nat → Option RsnD → Prop} (h0 : ∀ G s, b.nl ≤ s → P G s none) (h1 : ∀ G s, s < b.nl → hitL x y (partsL b (b.l s) (getI G) G.length) = none → P G s none)
    (h2 : ∀ G s p, s < b.nl → hitL x y (partsL b (b.l s) (getI G) G.length) = some p → ¬ (x ∈ p ∧ y ∈ p) → P G s (some ⟨b.l s, G, bookV b (b.l s) (getI G) G.length x.toNat, bookV b (b.l s) (getI G) G.length y.toNat⟩))
    (h3 : ∀ G s p, s < b.nl → hitL x y (partsL b (b.l s) (getI G) G.length) = some p → (x ∈ p ∧ y ∈ p) → P p (nextS b (partsL b (b.l s) (getI G) G.length).length s) (findP b x y p (nextS b (partsL b (b.l s) (getI G) G.length).length s)) → P G s (findP b x y G s)) : ∀ G s, P G s (findP b x y G s) := by
  have H : ∀ m G s, rankM b.nl G.length s < m → P G s (findP b x y G s) := by
    intro m
    induction m with
    | zero => intro G s h; exact absurd h (Nat.not_lt_zero _)
    | succ m ih =>
      intro G s h
      by_cases hs : b.nl ≤ s
      · rw [findP_end b x y hs]; exact h0 G s hs
      cases hp : hitL x y (partsL b (b.l s) (getI G) G.length) with
      | none => rw [findP_none b hp]; exact h1 G s (by omega) hp
      | some p =>
        by_cases hh : x ∈ p ∧ y ∈ p
        · exact h3 G s p (by omega) hp hh (ih p _ (by have := rankM_lt (b := b) (s := s) (by omega) (hit_mem hp); omega))
        · rw [findP_here b (by omega) hp hh]; exact h2 G s p (by omega) hp hh
  exact fun G s => H _ G s (Nat.lt_succ_self _)
theorem findP_len (b : BookD) (x y : Int) : ∀ G s, ∀ r, findP b x y G s = some r → r.grp.length ≤ G.length := by
  refine findP_ind b x y (P := fun G _ o => ∀ r, o = some r → r.grp.length ≤ G.length) (fun _ _ _ _ h => by cases h) (fun _ _ _ _ _ h => by cases h) (fun G s p _ _ _ r h => by cases h; exact Nat.le_refl _) (fun G s p _ hp _ ih r h => ?_)
  rw [findP_on b ‹_› hp ‹_›] at h
  exact Nat.le_trans (ih r h) (partsL_le (hit_mem hp))

def partO (t : Int) (L : List (List Int)) : Option (List Int) := hitL t t L
def stepF (b : BookD) (t : Int) : Nat → List Int → Nat → List Int
  | 0, _, _ => []
  | f + 1, G, s => if G.length < 2 ∨ b.nl ≤ s then [] else
      if (partsL b (b.l s) (getI G) G.length).length = 1 then stepF b t f G (s + 1) else
        b.l s :: match partO t (partsL b (b.l s) (getI G) G.length) with
          | none => []
          | some p => stepF b t f p (nextS b (partsL b (b.l s) (getI G) G.length).length s)
theorem stepM_lt {nl n s : Nat} (hs : s < nl) : rankM nl n (s + 1) < rankM nl n s := by unfold rankM; omega
theorem stepF_fuel (b : BookD) (t : Int) : ∀ f f' G s, rankM b.nl G.length s < f → rankM b.nl G.length s < f' → stepF b t f G s = stepF b t f' G s
  | 0, _, _, _, h, _ => absurd h (Nat.not_lt_zero _)
  | _ + 1, 0, _, _, _, h => absurd h (Nat.not_lt_zero _)
  | f + 1, f' + 1, G, s, h, h' => by
    unfold stepF
    by_cases hs : G.length < 2 ∨ b.nl ≤ s
    · rw [if_pos hs, if_pos hs]
    · rw [if_neg hs, if_neg hs]
      have h8 := stepM_lt (nl := b.nl) (n := G.length) (s := s) (by omega)
      rw [stepF_fuel b t f f' G (s + 1) (by omega) (by omega)]
      cases hp : partO t (partsL b (b.l s) (getI G) G.length) with
      | none => rfl
      | some p =>
        have := rankM_lt (b := b) (s := s) (by omega) (hit_mem hp)
        show (if _ then _ else _ :: stepF b t f p _) = (if _ then _ else _ :: stepF b t f' p _)
        rw [stepF_fuel b t f f' p _ (by omega) (by omega)]
def stepP (b : BookD) (t : Int) (G : List Int) (s : Nat) : List Int := stepF b t (rankM b.nl G.length s + 1) G s
theorem stepP_end (b : BookD) (t : Int) {G : List Int} {s : Nat} (h : G.length < 2 ∨ b.nl ≤ s) : stepP b t G s = [] := by
  unfold stepP stepF; rw [if_pos h]
theorem stepP_one (b : BookD) (t : Int) {G : List Int} {s : Nat} (h1 : ¬ G.length < 2) (hs : s < b.nl) (h : (partsL b (b.l s) (getI G) G.length).length = 1) : stepP b t G s = stepP b t G (s + 1) := by
  unfold stepP
  conv => lhs; unfold stepF
  rw [if_neg (by omega), if_pos h]
  exact stepF_fuel b t _ _ G _ (stepM_lt hs) (Nat.lt_succ_self _)
theorem stepP_none (b : BookD) {t : Int} {G : List Int} {s : Nat} (h1 : ¬ G.length < 2) (hs : s < b.nl) (h : (partsL b (b.l s) (getI G) G.length).length ≠ 1) (hp : partO t (partsL b (b.l s) (getI G) G.length) = none) : stepP b t G s = [b.l s] := by
  unfold stepP stepF
  rw [if_neg (by omega), if_neg h, hp]
theorem stepP_on (b : BookD) {t : Int} {G p : List Int} {s : Nat} (h1 : ¬ G.length < 2) (hs : s < b.nl) (h : (partsL b (b.l s) (getI G) G.length).length ≠ 1) (hp : partO t (partsL b (b.l s) (getI G) G.length) = some p) :
    stepP b t G s = b.l s :: stepP b t p (nextS b (partsL b (b.l s) (getI G) G.length).length s) := by
  unfold stepP
  conv => lhs; unfold stepF
  rw [if_neg (by omega), if_neg h, hp]
  exact congrArg (b.l s :: ·) (stepF_fuel b t _ _ p _ (rankM_lt hs (hit_mem hp)) (Nat.lt_succ_self _))
theorem stepP_len (b : BookD) (t : Int) : ∀ m G s, rankM b.nl G.length s < m → (stepP b t G s).length ≤ rankM b.nl G.length s := by
  intro m
  induction m with
  | zero => intro G s h; exact absurd h (Nat.not_lt_zero _)
  | succ m ih =>
    intro G s h
    by_cases hs : G.length < 2 ∨ b.nl ≤ s
    · rw [stepP_end b t hs]; exact Nat.zero_le _
    by_cases h1 : (partsL b (b.l s) (getI G) G.length).length = 1
    · have h8 := stepM_lt (nl := b.nl) (n := G.length) (s := s) (by omega)
      rw [stepP_one b t (by omega) (by omega) h1]
      have := ih G (s + 1) (by omega)
      omega
    · cases hp : partO t (partsL b (b.l s) (getI G) G.length) with
      | none =>
        rw [stepP_none b (by omega) (by omega) h1 hp]
        have h8 := stepM_lt (nl := b.nl) (n := G.length) (s := s) (by omega)
        simp; omega
      | some p =>
        rw [stepP_on b (by omega) (by omega) h1 hp]
        have h8 := rankM_lt (b := b) (s := s) (by omega) (hit_mem hp)
        have := ih p (nextS b (partsL b (b.l s) (getI G) G.length).length s) (by omega)
        simp; omega
end Go.Proofs.Ytmhkkdnopcdibaa
set_option linter.unusedVariables false
namespace Go.Proofs.Ytmhkkdnopcdibaa
open Go.RowKit

theorem step_cloneI {P : Program} (w : World) {ops : Array Oper} {o : Oper} {a : Act} {K : Act → World → Prop} {Q : Exit → Act → World → Prop} {E : Prop} (hgd : o.guard = none) (s x : Operand) (t : TypeId)
    (ho : o.op = .call { callee := .builtin .append, args := #[s, x], argTypes := #[t, t] })
    (base : Nat) (e : TypeId) (i : TypeInfo) (ht : P.underlying t = some (.slice e)) (hi : P.info? e = some i) (hz : i.zero = some (.int .i64 0)) (hsize : i.size = 1) (hby : i.bytes = 8)
    (D : Nat) (hs : a.eval s = .slice (some ⟨D, 0, none⟩) 0 0) (hown : w.ownsRow base e 1 (.slice (some ⟨D, 0, none⟩) 0 0) 0 [])
    (v : Value) (m : Nat) (g : Nat → Int) (hx : a.eval x = v) (hrow : IntRow w v m g) (h0 : 0 < m) (hm : m ≤ 1048576) (hbase : base ≤ D) (hD : D < w.heap.size)
    (h : ∀ gg cap w', w'.ownsRow base e 1 (.slice (some ⟨gg, 0, none⟩) m cap) m ((List.range m).map fun j => Value.int .i64 (g j)) → w.grownBy w' (some D) → K (a.put o.dst (.slice (some ⟨gg, 0, none⟩) m cap)) w') :
    if Region.wanted o (yielded ops a.tmps) = true then Oper.wp P o a w K Q else E := by
  rcases hrow with ⟨_, _, _, h1⟩ | ⟨b, off, c, rfl, _, _, hc, _⟩
  · omega
  refine step_append_lies w hgd s x t ho base e i (.int .i64 0) 1 8 ht hi hz hsize hby rfl (by decide) (.slice (some ⟨D, 0, none⟩) 0 0) 0 [] hs hown ⟨b, off, none⟩ m c ((List.range m).map fun j => Value.int .i64 (g j)) hx (by simp) ?_
    (by intro u hu; simp only [List.mem_map] at hu; obtain ⟨_, _, rfl⟩ := hu; rfl) h0 (by unfold maxLen; omega) (by omega) (by omega) _ rfl ?_
  · intro j u hu
    simp only [List.getElem?_map] at hu
    by_cases hj : j < m
    · rw [List.getElem?_range hj] at hu
      simp only [Option.map_some, Option.some.injEq] at hu
      subst hu
      have hadd : (⟨b, off, none⟩ : Addr).add j = ⟨b, off + j, none⟩ := by unfold Addr.add; split <;> simp_all
      rw [hadd]
      exact hc j hj
    · rw [List.getElem?_eq_none (by simp; omega)] at hu; cases hu
  · intro gg cap w' ho' hg' hat hlt
    simp only [Nat.zero_add, List.nil_append] at ho' ⊢
    exact h gg cap w' ho' hg'
end Go.Proofs.Ytmhkkdnopcdibaa
set_option linter.unusedVariables false
namespace Go.Proofs.Ytmhkkdnopcdibaa
open Go.RowKit

theorem TeamRow.rec {w : World} {v : Value} {n : Nat} {g : Nat → TeamD} (h : TeamRow w v n g) : RecRow 3 w v n fun i => (g i).cells := by
  rcases h with ⟨a, c, rfl, rfl⟩ | ⟨b, off, c, rfl, h0, h1, hc, h2⟩
  · exact .inl ⟨_, _, rfl, rfl⟩
  · refine .inr ⟨b, off, c, rfl, h0, h1, fun i hi => ⟨World.block_lt_of_cell? w _ (hc i hi).1, fun j u hu => ?_⟩, h2⟩
    have hj : j < 3 := by have := (List.getElem?_eq_some_iff.1 hu).1; simpa [TeamD.cells] using this
    have : j = 0 ∨ j = 1 ∨ j = 2 := by omega
    rcases this with rfl | rfl | rfl <;> (simp [TeamD.cells] at hu; subst hu)
    · exact (hc i hi).1
    · exact (hc i hi).2.1
    · exact (hc i hi).2.2
theorem RecRow.teams {w : World} {v : Value} {n : Nat} {g : Nat → TeamD} (h : RecRow 3 w v n fun i => (g i).cells) : TeamRow w v n g := by
  rcases h with ⟨a, c, rfl, rfl⟩ | ⟨b, off, c, rfl, h0, h1, hc, h2⟩
  · exact .inl ⟨_, _, rfl, rfl⟩
  · exact .inr ⟨b, off, c, rfl, h0, h1, fun i hi => ⟨(hc i hi).2 0 _ rfl, (hc i hi).2 1 _ rfl, (hc i hi).2 2 _ rfl⟩, h2⟩
end Go.Proofs.Ytmhkkdnopcdibaa
set_option linter.unusedVariables false
namespace Go.Proofs.Ytmhkkdnopcdibaa
open Go.RowKit

structure NoteD where
  serial : Int
  game : Int
  res : GameD
instance : Inhabited NoteD := ⟨⟨0, 0, ⟨0, 0, 0, 0, 0⟩⟩⟩
def NoteD.cells (t : NoteD) : List Value := [.int .i64 t.serial, .int .i64 t.game, .int .i64 t.res.home, .int .i64 t.res.away, .int .i64 t.res.hg, .int .i64 t.res.ag, .int .i64 t.res.st]
def NoteD.val (t : NoteD) : Value := .agg #[.int .i64 t.serial, .int .i64 t.game, .int .i64 t.res.home, .int .i64 t.res.away, .int .i64 t.res.hg, .int .i64 t.res.ag, .int .i64 t.res.st]
def NoteD.fit (t : NoteD) : Prop := IntFit t.serial ∧ IntFit t.game ∧ IntFit t.res.home ∧ IntFit t.res.away ∧ IntFit t.res.hg ∧ IntFit t.res.ag ∧ IntFit t.res.st
theorem NoteD.len (t : NoteD) : t.cells.length = 7 := rfl
def NoteRow (w : World) (v : Value) (n : Nat) (g : Nat → NoteD) : Prop := RecRow 7 w v n fun i => (g i).cells
theorem NoteRow.below {w w' : World} {B : Nat} {v : Value} {n : Nat} {g : Nat → NoteD} (h : NoteRow w v n g) (hb : Below B w w') (hB : w.heap.size ≤ B) : NoteRow w' v n g := RecRow.below h hb hB
theorem NoteRow.touch {lo hi lo' hi' : Nat} {w w' : World} {v : Value} {n : Nat} {g : Nat → NoteD} (h : NoteRow w v n g) (t : Touch lo hi w w') (hv : 0 < n → InW lo' hi' v) (ho : hi' ≤ lo ∨ hi ≤ lo') : NoteRow w' v n g := RecRow.touch h t hv ho
theorem NoteRow.form {w : World} {v : Value} {n : Nat} {g : Nat → NoteD} (h : NoteRow w v n g) : ∃ a cap, v = .slice a n cap ∧ n ≤ 9223372036854775807 ∧ (0 < n → ∃ b off, a = some ⟨b, off, none⟩ ∧ n ≤ cap ∧ ∀ i, i < n → CellsAt w b (off + i * 7) (g i).cells) := RecRow.form h
theorem InW.noteRow {hi : Nat} {v : Value} {w : World} {n : Nat} {g : Nat → NoteD} (h : NoteRow w v n g) (h0 : 0 < n) (hs : w.heap.size ≤ hi) : InW 0 hi v := RecRow.inw h h0 hs
theorem NoteRow.of_owns {w : World} {base : Nat} {e : TypeId} {v : Value} {n : Nat} {xs : List Value} {g : Nat → NoteD} (h : w.ownsRow base e 7 v n xs) (hn : n ≤ 9223372036854775807) (hg : RecCells 7 n xs fun i => (g i).cells) : NoteRow w v n g := RecRow.of_owns h hn hg fun _ _ => Nat.le_refl _
def noteMk (k : Int) (i : Nat) : NoteD := ⟨k + 7 * (i : Int), k + 7 * (i : Int) + 1, ⟨k + 7 * (i : Int) + 1 + 1, k + 7 * (i : Int) + 1 + 1 + 1, k + 7 * (i : Int) + 1 + 1 + 1 + 1, k + 7 * (i : Int) + 1 + 1 + 1 + 1 + 1, k + 7 * (i : Int) + 1 + 1 + 1 + 1 + 1 + 1⟩⟩
theorem tgrownNote {a b c : World} {row : Option Nat} (h : a.grownBy b row) (k : b.grownBy c row) : a.grownBy c row :=
  ⟨k.os.trans h.os, k.tape.trans h.tape, k.output.trans h.output, Nat.le_trans h.size k.size, fun i hi hne => (k.block i (Nat.lt_of_lt_of_le hi h.size) hne).trans (h.block i hi hne)⟩
section
open Go.ChangeShapes Go.WideShapes
variable {H : Type} {enc : TypeId × Value → H} {P : Program} {w : World} {base : Nat} {spare : Nat → Bool} {held : Bool}
theorem open_notes {t e : TypeId} {f0 f1 f2 : Field} {v : Value} (ht : P.underlying t = some (.slice e)) (he : P.underlying e = some (.struct #[f0, f1, f2]))
    (ce : P.cellsOf e = 7) (o0 : f0.offset = 0) (c0 : P.cellsOf f0.type = 1) (u0 : P.underlying f0.type = some (.int .i64)) (o1 : f1.offset = 1) (c1 : P.cellsOf f1.type = 1) (u1 : P.underlying f1.type = some (.int .i64)) (o2 : f2.offset = 2) (c2 : P.cellsOf f2.type = 5) {s0 s1 s2 s3 s4 : Field} (u2 : P.underlying f2.type = some (.struct #[s0, s1, s2, s3, s4])) (so0 : s0.offset = 0) (sc0 : P.cellsOf s0.type = 1) (su0 : P.underlying s0.type = some (.int .i64)) (so1 : s1.offset = 1) (sc1 : P.cellsOf s1.type = 1) (su1 : P.underlying s1.type = some (.int .i64)) (so2 : s2.offset = 2) (sc2 : P.cellsOf s2.type = 1) (su2 : P.underlying s2.type = some (.int .i64)) (so3 : s3.offset = 3) (sc3 : P.cellsOf s3.type = 1) (su3 : P.underlying s3.type = some (.int .i64)) (so4 : s4.offset = 4) (sc4 : P.cellsOf s4.type = 1) (su4 : P.underlying s4.type = some (.int .i64))
    (h : ∃ (fuel : Nat) (x : DataW H × List MemPlace), DataW.trod enc P w base spare held fuel t [v] = some x) : ∃ (n : Nat) (g : Nat → NoteD), NoteRow w v n g ∧ (∀ i, (g i).fit) ∧ n ≤ 9223372036854775807 := by
  obtain ⟨fuel, x, h⟩ := h
  have hz : (default : NoteD).fit := by simp [NoteD.fit, IntFit, default]
  rcases Go.Deep.open_slice ht h with ⟨h0, _⟩ | ⟨a, len, cap, m, q, D, Pl, h0, hb, hl, hm, hmm, rfl, hx⟩
  · simp only [List.cons.injEq, and_true] at h0
    subst h0
    exact ⟨0, fun _ => default, .inl ⟨_, _, rfl, rfl⟩, fun _ => hz, by omega⟩
  simp only [List.cons.injEq, and_true] at h0
  subst h0
  have hlm : len ≤ m := by rw [hmm]; split <;> omega
  have each : ∀ i, i < len → ∃ q : NoteD, (∀ j u, q.cells[j]? = some u → w.cell? ((a.add (i * 7)).add j) = some u) ∧ q.fit := by
    intro i hi
    obtain ⟨cs', h1, h2⟩ := hx i (by omega)
    rw [ce] at h1
    obtain ⟨_, hlen, hcell⟩ := World.cells?_some h1
    obtain ⟨xs, kk, hk, hxy, _, hxl, hf⟩ := DataW.trod_struct he h2
    match xs, hxl, cs', hlen with
    | [y0, y1, y2], _, [v0, v1, v2, v3, v4, v5, v6], _ =>
      have g0 := hf 0 f0 rfl
      simp [o0, c0] at g0
      obtain ⟨z0, e0, _, k0⟩ := DataW.trod_int u0 g0
      simp only [List.cons.injEq, and_true] at e0
      subst e0
      have g1 := hf 1 f1 rfl
      simp [o1, c1] at g1
      obtain ⟨z1, e1, _, k1⟩ := DataW.trod_int u1 g1
      simp only [List.cons.injEq, and_true] at e1
      subst e1
      have g2 := hf 2 f2 rfl
      simp [o2, c2] at g2
      obtain ⟨ys, k2', hk', hxy', _, hyl, hf'⟩ := DataW.trod_struct u2 g2
      match ys, hyl with
      | [w0, w1, w2, w3, w4], _ =>
      have h0 := hf' 0 s0 rfl
      simp [so0, sc0] at h0
      obtain ⟨z2, e2', _, k2⟩ := DataW.trod_int su0 h0
      simp only [List.cons.injEq, and_true] at e2'
      subst e2'
      have h1 := hf' 1 s1 rfl
      simp [so1, sc1] at h1
      obtain ⟨z3, e3', _, k3⟩ := DataW.trod_int su1 h1
      simp only [List.cons.injEq, and_true] at e3'
      subst e3'
      have h2 := hf' 2 s2 rfl
      simp [so2, sc2] at h2
      obtain ⟨z4, e4', _, k4⟩ := DataW.trod_int su2 h2
      simp only [List.cons.injEq, and_true] at e4'
      subst e4'
      have h3 := hf' 3 s3 rfl
      simp [so3, sc3] at h3
      obtain ⟨z5, e5', _, k5⟩ := DataW.trod_int su3 h3
      simp only [List.cons.injEq, and_true] at e5'
      subst e5'
      have h4 := hf' 4 s4 rfl
      simp [so4, sc4] at h4
      obtain ⟨z6, e6', _, k6⟩ := DataW.trod_int su4 h4
      simp only [List.cons.injEq, and_true] at e6'
      subst e6'
      refine ⟨⟨z0, z1, ⟨z2, z3, z4, z5, z6⟩⟩, fun j u hu => ?_, ⟨intFit_of k0, intFit_of k1, intFit_of k2, intFit_of k3, intFit_of k4, intFit_of k5, intFit_of k6⟩⟩
      have hj : j < 7 := (List.getElem?_eq_some_iff.1 hu).1
      rw [hcell j hj]
      exact hu
  obtain ⟨g, hg⟩ := Go.Deep.choose_lt each
  have hfit : ∀ i, (if i < len then g i else default : NoteD).fit := fun i => by
    by_cases hi : i < len
    · simpa [hi] using (hg i hi).2
    · simpa [hi] using hz
  unfold maxLen at hm
  refine ⟨len, fun i => if i < len then g i else default, ?_, hfit, by omega⟩
  by_cases h0 : len = 0
  · subst h0; exact .inl ⟨_, _, rfl, rfl⟩
  · have hc0 := (hg 0 (by omega)).1 0 _ rfl
    obtain ⟨b, off, spot⟩ := a
    have hspot : spot = none := by simpa [Addr.add] using World.cell?_spot hc0
    subst hspot
    have hadd : ∀ j, (⟨b, off, none⟩ : Addr).add j = ⟨b, off + j, none⟩ := fun j => by unfold Addr.add; split <;> simp_all
    have hadd2 : ∀ o j, (⟨b, o, none⟩ : Addr).add j = ⟨b, o + j, none⟩ := fun o j => by unfold Addr.add; split <;> simp_all
    simp only [hadd, hadd2] at hc0
    refine .inr ⟨b, off, cap, rfl, by omega, by omega, fun i hi => ⟨World.block_lt_of_cell? w _ hc0, fun j u hu => ?_⟩, hl⟩
    have := (hg i hi).1
    simp only [hadd, hadd2] at this
    simp only [hi, if_true] at hu
    exact this j u hu
end
section
open Go.ChangeShapes Go.WideShapes
variable {H : Type} {enc : TypeId × Value → H} {P : Program} {w : World} {base : Nat} {spare : Nat → Bool} {held : Bool}
theorem open_note {r : Reach} {b0 : Nat} {e : TypeId} {f0 f1 f2 : Field} {v : Value} {d : DataW H} {pl : List MemPlace} (he : P.underlying e = some (.struct #[f0, f1, f2]))
    (ce : P.cellsOf e = 7) (o0 : f0.offset = 0) (c0 : P.cellsOf f0.type = 1) (u0 : P.underlying f0.type = some (.int .i64)) (o1 : f1.offset = 1) (c1 : P.cellsOf f1.type = 1) (u1 : P.underlying f1.type = some (.int .i64)) (o2 : f2.offset = 2) (c2 : P.cellsOf f2.type = 5) {s0 s1 s2 s3 s4 : Field} (u2 : P.underlying f2.type = some (.struct #[s0, s1, s2, s3, s4])) (so0 : s0.offset = 0) (sc0 : P.cellsOf s0.type = 1) (su0 : P.underlying s0.type = some (.int .i64)) (so1 : s1.offset = 1) (sc1 : P.cellsOf s1.type = 1) (su1 : P.underlying s1.type = some (.int .i64)) (so2 : s2.offset = 2) (sc2 : P.cellsOf s2.type = 1) (su2 : P.underlying s2.type = some (.int .i64)) (so3 : s3.offset = 3) (sc3 : P.cellsOf s3.type = 1) (su3 : P.underlying s3.type = some (.int .i64)) (so4 : s4.offset = 4) (sc4 : P.cellsOf s4.type = 1) (su4 : P.underlying s4.type = some (.int .i64))
    (hv : Value.okWide P w r b0 e v) (h : DataW.Trod enc P w base spare held e v d pl) : ∃ q : NoteD, v = q.val ∧ q.fit := by
  obtain ⟨cs, rfl, hsz⟩ := okWide_struct he hv
  obtain ⟨l⟩ := cs
  obtain ⟨fuel, h⟩ := h
  obtain ⟨xs, kk, hk, hxy, _, hxl, hf⟩ := DataW.trod_struct he h
  match xs, hxl, l, hsz.trans ce with
  | [y0, y1, y2], _, [v0, v1, v2, v3, v4, v5, v6], _ =>
      have g0 := hf 0 f0 rfl
      simp [Value.cells, o0, c0] at g0
      obtain ⟨z0, e0, _, k0⟩ := DataW.trod_int u0 g0
      simp only [List.cons.injEq, and_true] at e0
      subst e0
      have g1 := hf 1 f1 rfl
      simp [Value.cells, o1, c1] at g1
      obtain ⟨z1, e1, _, k1⟩ := DataW.trod_int u1 g1
      simp only [List.cons.injEq, and_true] at e1
      subst e1
      have g2 := hf 2 f2 rfl
      simp [Value.cells, o2, c2] at g2
      obtain ⟨ys, k2', hk', hxy', _, hyl, hf'⟩ := DataW.trod_struct u2 g2
      match ys, hyl with
      | [w0, w1, w2, w3, w4], _ =>
      have h0 := hf' 0 s0 rfl
      simp [so0, sc0] at h0
      obtain ⟨z2, e2', _, k2⟩ := DataW.trod_int su0 h0
      simp only [List.cons.injEq, and_true] at e2'
      subst e2'
      have h1 := hf' 1 s1 rfl
      simp [so1, sc1] at h1
      obtain ⟨z3, e3', _, k3⟩ := DataW.trod_int su1 h1
      simp only [List.cons.injEq, and_true] at e3'
      subst e3'
      have h2 := hf' 2 s2 rfl
      simp [so2, sc2] at h2
      obtain ⟨z4, e4', _, k4⟩ := DataW.trod_int su2 h2
      simp only [List.cons.injEq, and_true] at e4'
      subst e4'
      have h3 := hf' 3 s3 rfl
      simp [so3, sc3] at h3
      obtain ⟨z5, e5', _, k5⟩ := DataW.trod_int su3 h3
      simp only [List.cons.injEq, and_true] at e5'
      subst e5'
      have h4 := hf' 4 s4 rfl
      simp [so4, sc4] at h4
      obtain ⟨z6, e6', _, k6⟩ := DataW.trod_int su4 h4
      simp only [List.cons.injEq, and_true] at e6'
      subst e6'
      exact ⟨⟨z0, z1, ⟨z2, z3, z4, z5, z6⟩⟩, rfl, ⟨intFit_of k0, intFit_of k1, intFit_of k2, intFit_of k3, intFit_of k4, intFit_of k5, intFit_of k6⟩⟩
end
end Go.Proofs.Ytmhkkdnopcdibaa
set_option linter.unusedVariables false
namespace Go.Proofs.Ytmhkkdnopcdibaa
open Go.RowKit

theorem note_cells {w : World} {b o : Nat} {x : NoteD} (h : CellsAt w b o x.cells) : w.cell? ⟨b, o, none⟩ = some (.int .i64 x.serial) ∧ w.cell? ⟨b, o + 1, none⟩ = some (.int .i64 x.game) ∧ w.cell? ⟨b, o + 2, none⟩ = some (.int .i64 x.res.home) ∧
    w.cell? ⟨b, o + 3, none⟩ = some (.int .i64 x.res.away) ∧ w.cell? ⟨b, o + 4, none⟩ = some (.int .i64 x.res.hg) ∧ w.cell? ⟨b, o + 5, none⟩ = some (.int .i64 x.res.ag) ∧ w.cell? ⟨b, o + 6, none⟩ = some (.int .i64 x.res.st) :=
  ⟨h.2 0 _ rfl, h.2 1 _ rfl, h.2 2 _ rfl, h.2 3 _ rfl, h.2 4 _ rfl, h.2 5 _ rfl, h.2 6 _ rfl⟩
def serialN (g : Nat → NoteD) (gm : Int) : Nat → Int
  | 0 => 0
  | k + 1 => if (g k).game = gm ∧ serialN g gm k < (g k).serial then (g k).serial else serialN g gm k
end Go.Proofs.Ytmhkkdnopcdibaa
set_option linter.unusedVariables false
namespace Go.Proofs.Ytmhkkdnopcdibaa
open Go.RowKit

def noteP (n : Int) (m : Nat) (g : Nat → GameD) (x : NoteD) : Prop :=
  (1 ≤ x.serial ∧ x.serial ≤ 100000) ∧ (0 ≤ x.game ∧ x.game ≤ (m : Int) - 1) ∧ gameP n x.res ∧ x.res.st ≠ 0 ∧ x.res.home = (g x.game.toNat).home ∧ x.res.away = (g x.game.toNat).away
end Go.Proofs.Ytmhkkdnopcdibaa
set_option linter.unusedVariables false
namespace Go.Proofs.Ytmhkkdnopcdibaa
open Go.RowKit

theorem note_ne {x y : NoteD} (h : x ≠ y) : (x.serial == y.serial) = false ∨ (x.game == y.game) = false ∨ (x.res.home == y.res.home) = false ∨ (x.res.away == y.res.away) = false ∨ (x.res.hg == y.res.hg) = false ∨ (x.res.ag == y.res.ag) = false ∨ (x.res.st == y.res.st) = false := by
  obtain ⟨a1, a2, ⟨a3, a4, a5, a6, a7⟩⟩ := x
  obtain ⟨b1, b2, ⟨b3, b4, b5, b6, b7⟩⟩ := y
  simp only [beq_eq_false_iff_ne, ne_eq, NoteD.mk.injEq, GameD.mk.injEq] at h ⊢
  omega
end Go.Proofs.Ytmhkkdnopcdibaa
set_option linter.unusedVariables false
namespace Go.Proofs.Ytmhkkdnopcdibaa
open Go.RowKit

def notesP (n : Int) (m : Nat) (g : Nat → GameD) (k : Nat) (ns : Nat → NoteD) : Prop :=
  seasonP n m g ∧ k ≤ 80 ∧ ∀ i, i < k → noteP n m g (ns i) ∧ ∀ j, j < i → (ns j).serial = (ns i).serial → ns j = ns i
end Go.Proofs.Ytmhkkdnopcdibaa
set_option linter.unusedVariables false
namespace Go.Proofs.Ytmhkkdnopcdibaa
open Go.RowKit

def getN' (L : List NoteD) (i : Nat) : NoteD := L.getD i default
theorem flat_len (L : List NoteD) : (L.flatMap NoteD.cells).length = L.length * 7 := by
  induction L with
  | nil => rfl
  | cons x L ih => simp only [List.flatMap_cons, List.length_append, ih, List.length_cons, NoteD.len]; omega
theorem notes_cells (L : List NoteD) : RecCells 7 L.length (L.flatMap NoteD.cells) fun i => (getN' L i).cells := by
  induction L with
  | nil => exact RecCells.nil
  | cons x L ih =>
    intro i hi j u hu
    rw [List.flatMap_cons]
    have hj : j < 7 := by have := (List.getElem?_eq_some_iff.1 hu).1; simpa [NoteD.len] using this
    cases i with
    | zero =>
      rw [List.getElem?_append_left (by rw [NoteD.len]; omega)]
      simpa [getN'] using hu
    | succ i =>
      rw [List.getElem?_append_right (by rw [NoteD.len]; omega), NoteD.len, show (i + 1) * 7 + j - 7 = i * 7 + j by omega]
      simp only [List.length_cons] at hi
      exact ih i (by omega) j u (by simpa [getN'] using hu)
def upL (g : Nat → NoteD) (s : Int) : Nat → List NoteD
  | 0 => []
  | k + 1 => if (g k).serial ≤ s then upL g s k ++ [g k] else upL g s k
def seenL (g : Nat → NoteD) (gm : Int) : Nat → List Int
  | 0 => []
  | k + 1 => if (g k).game = gm ∧ ¬ (g k).serial ∈ seenL g gm k then seenL g gm k ++ [(g k).serial] else seenL g gm k
def corrN (g : Nat → NoteD) (gm : Int) (n : Nat) : Int := if 0 < ((seenL g gm n).length : Int) - 1 then ((seenL g gm n).length : Int) - 1 else 0
end Go.Proofs.Ytmhkkdnopcdibaa
set_option linter.unusedVariables false
namespace Go.Proofs.Ytmhkkdnopcdibaa
open Go.RowKit

def leadN (s : Int) : List NoteD → Nat
  | [] => 0
  | y :: L => if y.serial < s then leadN s L + 1 else 0
def insN (L : List NoteD) (x : NoteD) : List NoteD :=
  if leadN x.serial L < L.length ∧ (getN' L (leadN x.serial L)).serial = x.serial then L else L.take (leadN x.serial L) ++ x :: L.drop (leadN x.serial L)
def canonL (g : Nat → NoteD) : Nat → List NoteD
  | 0 => []
  | k + 1 => insN (canonL g k) (g k)
theorem lead_le (s : Int) (L : List NoteD) : leadN s L ≤ L.length := by
  induction L with
  | nil => exact Nat.le_refl _
  | cons y L ih => unfold leadN; split <;> simp <;> omega
theorem lead_lt (s : Int) (L : List NoteD) : ∀ i, i < leadN s L → (getN' L i).serial < s := by
  induction L with
  | nil => intro i hi; exact absurd hi (by simp [leadN])
  | cons y L ih =>
    intro i hi
    unfold leadN at hi
    split at hi
    · next h =>
      cases i with
      | zero => exact h
      | succ i => exact ih i (by omega)
    · omega
theorem lead_ge (s : Int) (L : List NoteD) : leadN s L < L.length → ¬ (getN' L (leadN s L)).serial < s := by
  induction L with
  | nil => intro h; exact absurd h (by simp)
  | cons y L ih =>
    intro h
    unfold leadN at h ⊢
    split at h
    · next hy => rw [if_pos hy]; exact ih (by simpa using h)
    · next hy => rw [if_neg hy]; exact hy
theorem ins_len (L : List NoteD) (x : NoteD) : (insN L x).length ≤ L.length + 1 := by
  unfold insN
  split
  · omega
  · have := lead_le x.serial L; simp; omega
def gapL (L : List NoteD) (j : Nat) (u : NoteD) : List NoteD := L.take j ++ u :: L.drop j
theorem gap_len (L : List NoteD) (j : Nat) (u : NoteD) (h : j ≤ L.length) : (gapL L j u).length = L.length + 1 := by
  unfold gapL; simp; omega
theorem gap_get (L : List NoteD) (j : Nat) (u : NoteD) (i : Nat) (h : i < j) (hj : j ≤ L.length) : getN' (gapL L j u) i = getN' L i := by
  unfold gapL getN'
  simp only [List.getD_eq_getElem?_getD]
  rw [List.getElem?_append_left (by simp; omega), List.getElem?_take_of_lt h]
theorem gap_set (L : List NoteD) (j : Nat) (u x : NoteD) (hj : j ≤ L.length) : (gapL L j u).set j x = gapL L j x := by
  unfold gapL
  rw [List.set_append_right _ _ (by simp; omega)]
  simp [Nat.min_eq_left hj]
theorem gap_step (L : List NoteD) (j : Nat) (hj : j < L.length) : gapL L (j + 1) (getN' L j) = gapL L j (getN' L j) := by
  unfold gapL
  have h1 : getN' L j = L[j] := by simp [getN', List.getD_eq_getElem?_getD, List.getElem?_eq_getElem hj]
  have h2 : L.take (j + 1) = L.take j ++ [L[j]] := (List.take_append_getElem hj).symm
  rw [h1, h2, List.drop_eq_getElem_cons hj]
  simp only [List.append_assoc, List.cons_append, List.nil_append]
theorem gap_end (L : List NoteD) (u : NoteD) : gapL L L.length u = L ++ [u] := by
  unfold gapL; simp
theorem flat_set (x : NoteD) : ∀ (M : List NoteD) (j : Nat), j < M.length → setsFrom (M.flatMap NoteD.cells) (j * 7) x.cells = (M.set j x).flatMap NoteD.cells := by
  intro M j hj
  apply List.ext_getElem?
  intro t
  have hlen := flat_len M
  have hlen2 := flat_len (M.set j x)
  rw [List.length_set] at hlen2
  by_cases ht : t < M.length * 7
  · have h1 := notes_cells M (t / 7) (by omega) (t % 7)
    have h2 := notes_cells (M.set j x) (t / 7) (by rw [List.length_set]; omega) (t % 7)
    have ht7 : t / 7 * 7 + t % 7 = t := by omega
    rw [ht7] at h1 h2
    by_cases hjt : t / 7 = j
    · have hx : (getN' (M.set j x) (t / 7)) = x := by simp [getN', List.getD_eq_getElem?_getD, hjt, hj]
      have hm : t % 7 < x.cells.length := by rw [NoteD.len]; omega
      obtain ⟨u, hu⟩ : ∃ u, x.cells[t % 7]? = some u := ⟨_, List.getElem?_eq_getElem hm⟩
      rw [h2 u (by simp only [hx]; exact hu), show t = j * 7 + t % 7 by omega]
      exact setsFrom_in x.cells _ _ _ u (by rw [NoteD.len]; omega) hu
    · have hx : (getN' (M.set j x) (t / 7)) = getN' M (t / 7) := by
        simp only [getN', List.getD_eq_getElem?_getD]
        rw [List.getElem?_set_ne (by omega)]
      have hm : t % 7 < (getN' M (t / 7)).cells.length := by rw [NoteD.len]; omega
      obtain ⟨u, hu⟩ : ∃ u, (getN' M (t / 7)).cells[t % 7]? = some u := ⟨_, List.getElem?_eq_getElem hm⟩
      rw [h2 u (by simp only [hx]; exact hu), setsFrom_out _ _ _ _ (by rw [NoteD.len]; omega)]
      exact h1 u hu
  · rw [List.getElem?_eq_none (by rw [setsFrom_len]; omega), List.getElem?_eq_none (by omega)]
theorem canon_len (g : Nat → NoteD) : ∀ n, (canonL g n).length ≤ n := by
  intro n
  induction n with
  | zero => simp [canonL]
  | succ n ih => have := ins_len (canonL g n) (g n); show (insN _ _).length ≤ _; omega
theorem up_len (g : Nat → NoteD) (s : Int) : ∀ n, (upL g s n).length ≤ n := by
  intro n
  induction n with
  | zero => simp [upL]
  | succ n ih =>
    unfold upL
    split
    · simp only [List.length_append, List.length_cons, List.length_nil]; omega
    · omega
end Go.Proofs.Ytmhkkdnopcdibaa
set_option linter.unusedVariables false
namespace Go.Proofs.Ytmhkkdnopcdibaa
open Go.RowKit

theorem box_set {w : World} {D gg s : Nat} {cs : List Value} {u : Value} (h : BoxN w D cs) (hne : gg ≠ D) : BoxN (w.setCell ⟨gg, s, none⟩ u) D cs := by
  by_cases hlt : gg < D
  · exact h.touch (Touch.setCell (lo := 0) (hi := D) (Touch.refl _ _ _) ⟨gg, s, none⟩ u (Nat.zero_le _) hlt) (Or.inr (Nat.le_refl _))
  · exact h.touch (Touch.setCell (lo := D + 1) (hi := gg + 1) (Touch.refl _ _ _) ⟨gg, s, none⟩ u (show D + 1 ≤ gg by omega) (Nat.lt_succ_self _)) (Or.inl (Nat.lt_succ_self _))
end Go.Proofs.Ytmhkkdnopcdibaa
set_option linter.unusedVariables false
namespace Go.Proofs.Ytmhkkdnopcdibaa
open Go.RowKit

def applyN (g : Nat → GameD) (C : List NoteD) : Nat → Nat → GameD
  | 0 => g
  | j + 1 => fun i => if i = (getN' C j).game.toNat then (getN' C j).res else applyN g C j i
theorem ins_mem (L : List NoteD) (x y : NoteD) (h : y ∈ insN L x) : y ∈ L ∨ y = x := by
  unfold insN at h
  split at h
  · exact .inl h
  · rcases List.mem_append.1 h with h | h
    · exact .inl (List.mem_of_mem_take h)
    · rcases List.mem_cons.1 h with h | h
      · exact .inr h
      · exact .inl (List.mem_of_mem_drop h)
theorem canon_mem (g : Nat → NoteD) (y : NoteD) : ∀ n, y ∈ canonL g n → ∃ i, i < n ∧ g i = y := by
  intro n
  induction n with
  | zero => intro h; simp [canonL] at h
  | succ n ih =>
    intro h
    rcases ins_mem _ _ _ (show y ∈ insN (canonL g n) (g n) from h) with h | h
    · obtain ⟨i, hi, he⟩ := ih h; exact ⟨i, by omega, he⟩
    · exact ⟨n, by omega, h.symm⟩
theorem getN_mem (L : List NoteD) (j : Nat) (h : j < L.length) : getN' L j ∈ L := by
  unfold getN'
  rw [List.getD_eq_getElem?_getD, List.getElem?_eq_getElem h]
  exact List.getElem_mem h
theorem GameD.ones (x : GameD) : ∀ u ∈ x.cells, u.oneCell' = true := by
  intro u hu; simp [GameD.cells] at hu; rcases hu with rfl | rfl | rfl | rfl | rfl <;> rfl
end Go.Proofs.Ytmhkkdnopcdibaa
set_option linter.unusedVariables false
namespace Go.Proofs.Ytmhkkdnopcdibaa
open Go.RowKit

def SeenN (K : Nat) (w : World) (B : Nat) (S : Nat → Bool) : Prop := B < w.heap.size ∧ ∀ j, j < K → w.cell? ⟨B, j, none⟩ = some (.bool (S j)) ∧ w.frozen? ⟨B, j, none⟩ = false
theorem SeenN.made (K : Nat) (w : World) (cs : Array Value) (t : TypeId) (h : ∀ j, j < K → cs[j]? = some (.bool false)) : SeenN K (w.alloc (.cells cs t)) w.heap.size (fun _ => false) := by
  refine ⟨by simp, fun j hj => ⟨?_, ?_⟩⟩
  · rw [cell_of_row _ w.heap.size j _ t (0, 0) (heap_alloc_new w _)]
    exact h j hj
  · exact frozen_of_row _ w.heap.size j _ t (heap_alloc_new w _)
theorem SeenN.set {K : Nat} {w : World} {B : Nat} {S : Nat → Bool} (h : SeenN K w B S) (m : Nat) (hm : m < K) : SeenN K (w.setCell ⟨B, m, none⟩ (.bool true)) B (fun j => S j || decide (j = m)) := by
  refine ⟨by simpa [World.setCell] using h.1, fun j hj => ⟨?_, (World.frozen?_setCell _ _ _ _).trans (h.2 j hj).2⟩⟩
  by_cases hjm : j = m
  · subst hjm
    rw [World.cell?_setCell_same' _ _ _ (by rw [(h.2 j hj).1]; rfl)]
    simp
  · rw [World.cell?_setCell_other _ _ _ _ (by intro e; simp only [Addr.mk.injEq] at e; omega), (h.2 j hj).1]
    simp [hjm]
theorem pigeon (m : Nat) : ∀ (k : Nat) (g : Nat → Int), (∀ i, i < k → 1 ≤ g i ∧ g i ≤ m) → (∀ i j, i < j → j < k → g i ≠ g j) → k ≤ m := by
  induction m with
  | zero => intro k g h _; by_cases h0 : k = 0; · omega
            · have := h 0 (by omega); omega
  | succ m ih =>
    intro k g h hd
    by_cases hx : ∃ i, i < k ∧ g i = m + 1
    · obtain ⟨i0, hi0, he⟩ := hx
      have hk1 := ih (k - 1) (fun i => if i = i0 then g (k - 1) else g i) (fun i hi => by
          by_cases e : i = i0
          · simp only [e, if_true]
            have h1 := h (k - 1) (by omega)
            have h2 := hd i0 (k - 1) (by omega) (by omega)
            omega
          · simp only [e, if_false]
            have h1 := h i (by omega)
            have h2 : g i ≠ g i0 := by
              by_cases hlt : i < i0
              · exact hd i i0 hlt hi0
              · exact fun hh => hd i0 i (by omega) (by omega) hh.symm
            omega)
        (fun i j hij hj => by
          by_cases e : i = i0
          · by_cases e2 : j = i0
            · omega
            · simp only [e, e2, if_true, if_false]
              exact fun hh => hd j (k - 1) (by omega) (by omega) hh.symm
          · by_cases e2 : j = i0
            · simp only [e, e2, if_true, if_false]
              exact hd i (k - 1) (by omega) (by omega)
            · simp only [e, e2, if_false]
              exact hd i j hij (by omega))
      omega
    · have := ih k g (fun i hi => by
        have h1 := h i hi
        have h2 : g i ≠ m + 1 := fun he => hx ⟨i, hi, he⟩
        omega) hd
      omega
theorem pigeon8 {k : Nat} {g : Nat → Int} (h : ∀ i, i < k → (1 ≤ g i ∧ g i ≤ 8) ∧ ¬ hasP g (g i) i) : k ≤ 8 :=
  pigeon 8 k g (fun i hi => by have := (h i hi).1; omega) (fun i j hij hj he => (h j hj).2 ⟨i, hij, he⟩)
theorem knm_ne (m : Nat) (h1 : 1 ≤ m) (h8 : m ≤ 8) : (knm m).toList.isEmpty = false ∧ (knm m).toList ≠ [] := by
  have : m = 1 ∨ m = 2 ∨ m = 3 ∨ m = 4 ∨ m = 5 ∨ m = 6 ∨ m = 7 ∨ m = 8 := by omega
  rcases this with rfl | rfl | rfl | rfl | rfl | rfl | rfl | rfl <;> exact ⟨by decide +kernel, by decide +kernel⟩
end Go.Proofs.Ytmhkkdnopcdibaa
