/-
  Packed: Groups, RsnFacts, SepFacts, RankFrom, AllL, SepImpl, SortDesc.
-/
import Derived.Test.YteciobkjfmddcaaGreatLaysD
import Derived.Sort.OwnSortedInts
import Derived.Lib.SortBridge
import Derived.Test.YteciobkjfmddcaaGreatQ11
import Derived.Test.YteciobkjfmddcaaGreatQ13
import Derived.Test.YteciobkjfmddcaaGreatQ14
set_option linter.unusedVariables false
namespace Go.Proofs.YteciobkjfmddcaaGreat
open Go.RowKit Go.Maps

def findI (T : List (Int × Value × List Int)) (s : Int) : Option Value := (T.find? fun x => x.1 == s).map fun x => x.2.1
def findT (T : List (Int × Value × List Int)) : Lit → Option Value
  | .int .i64 s => findI T s
  | _ => none
theorem findI_iff {s : Int} {u : Value} : ∀ {T : List (Int × Value × List Int)}, T.Pairwise (fun a b => b.1 < a.1) → (findI T s = some u ↔ ∃ x ∈ T, x.1 = s ∧ x.2.1 = u)
  | [], _ => by simp [findI]
  | y :: T, h => by
    have ih := findI_iff (s := s) (u := u) (List.pairwise_cons.1 h).2
    have hlt := (List.pairwise_cons.1 h).1
    unfold findI at ih ⊢
    by_cases e : y.1 = s
    · rw [List.find?_cons_of_pos (by simpa using e)]
      simp only [Option.map_some, Option.some.injEq]
      constructor
      · intro h2; exact ⟨y, List.mem_cons_self .., e, h2⟩
      · rintro ⟨x, hx, h1, h2⟩
        rcases List.mem_cons.1 hx with rfl | hx
        · exact h2
        · have := hlt x hx; omega
    · rw [List.find?_cons_of_neg (by simpa using e), ih]
      constructor
      · rintro ⟨x, hx, h1, h2⟩; exact ⟨x, List.mem_cons_of_mem _ hx, h1, h2⟩
      · rintro ⟨x, hx, h1, h2⟩
        rcases List.mem_cons.1 hx with rfl | hx
        · exact absurd h1 e
        · exact ⟨x, hx, h1, h2⟩
theorem findT_key {T : List (Int × Value × List Int)} {kl : Lit} {v : Value} (h : findT T kl = some v) : ∃ s, kl = .int .i64 s := by
  unfold findT at h
  split at h
  · exact ⟨_, rfl⟩
  · cases h
theorem opt_ext {α : Type} {a b : Option α} (h : ∀ u, a = some u ↔ b = some u) : a = b := by
  cases a with
  | some x => exact ((h x).1 rfl).symm
  | none => cases b with
    | none => rfl
    | some y => exact absurd ((h y).2 rfl) (by simp)
theorem datT_desc {T : List (Int × Value × List Int)} {V gg : Nat → Int} {k : Nat} (h : datT T = splitP V gg k) : T.Pairwise (fun a b => b.1 < a.1) := by
  have h1 := splitP_desc V gg k
  rw [← h] at h1
  unfold datT at h1
  rwa [List.pairwise_map] at h1
structure StepT (w : World) (B n : Nat) (T : List (Int × Value × List Int)) (v t : Int) (iv : Value) (p : List Int) (T' : Value → List (Int × Value × List Int)) : Prop where
  look : (findT T (.int .i64 v)).getD (.slice none 0 0) = iv
  own : w.ownsRow B 3 1 iv p.length (p.map (Value.int .i64))
  dat : ∀ s, datT (T' s) = insP v t (datT T)
  self : ∀ s, findT (T' s) (.int .i64 v) = some s
  other : ∀ s z, z ≠ .int .i64 v → findT (T' s) z = findT T z
  mem : ∀ s x, x ∈ T' s → x = (v, s, p ++ [t]) ∨ (x ∈ T ∧ x.1 ≠ v)
  apart : ∀ s, (∀ x ∈ T, x.1 ≠ v → ApartV s x.2.1) → ApartL ((T' s).map fun x => x.2.1)
  parted : ∀ x ∈ T, x.1 ≠ v → ApartV iv x.2.1
  len : p.length ≤ n
theorem StepT.ex {w : World} {B : Nat} {T : List (Int × Value × List Int)} {V gg : Nat → Int} {k : Nat} (hd : datT T = splitP V gg k) (hO : OwnT w B 3 T) (hA : ApartL (T.map fun x => x.2.1)) (v t : Int) :
    ∃ iv p T', StepT w B k T v t iv p T' := by
  have hdesc := datT_desc hd
  obtain ⟨j, hj⟩ : ∃ j, leadV Prod.fst v T = j := ⟨_, rfl⟩
  have hjd : leadV Prod.fst v (datT T) = j := by rw [datT_lead, hj]
  have hjl : j ≤ T.length := by rw [← hj]; exact leadV_le _
  have hlow : ∀ i x, j ≤ i → T[i]? = some x → x.1 ≤ v := fun i x hi hx => by
    have h1 : j < T.length := by have := (List.getElem?_eq_some_iff.1 hx).1; omega
    have h2 := leadV_ge (f := Prod.fst) (v := v) T (T[j]'h1) (by rw [hj]; exact List.getElem?_eq_getElem h1)
    by_cases e : i = j
    · subst e
      rw [List.getElem?_eq_getElem h1] at hx
      cases hx; omega
    · have := List.pairwise_iff_getElem.1 hdesc j i h1 (List.getElem?_eq_some_iff.1 hx).1 (by omega)
      have e2 := (List.getElem?_eq_some_iff.1 hx).2
      rw [e2] at this
      omega
  have hhigh : ∀ i x, i < j → T[i]? = some x → v < x.1 := fun i x hi hx => leadV_lt (f := Prod.fst) T i x (by rw [hj]; exact hi) hx
  have hap : ∀ (i i' : Nat) (x y : Int × Value × List Int), i ≠ i' → T[i]? = some x → T[i']? = some y → ApartV x.2.1 y.2.1 := fun i i' x y hne hx hy =>
    pairwise_at (fun a b h => h.symm) _ i i' x.2.1 y.2.1 hA (by rw [List.getElem?_map, hx]; rfl) (by rw [List.getElem?_map, hy]; rfl) hne
  by_cases hex : ∃ iv p, T[j]? = some (v, iv, p)
  · obtain ⟨iv, p, hx⟩ := hex
    have hjlt : j < T.length := (List.getElem?_eq_some_iff.1 hx).1
    have hne : ∀ i x, i ≠ j → T[i]? = some x → x.1 ≠ v := fun i x hi hxi e => by
      by_cases hlt : i < j
      · have := hhigh i x hlt hxi; omega
      · have := List.pairwise_iff_getElem.1 hdesc j i hjlt (List.getElem?_eq_some_iff.1 hxi).1 (by omega)
        rw [(List.getElem?_eq_some_iff.1 hxi).2, (List.getElem?_eq_some_iff.1 hx).2] at this
        simp only at this
        omega
    have hdat : ∀ s, datT (T.set j (v, s, p ++ [t])) = insP v t (datT T) := fun s => by
      rw [datT_set, insP_old v t (datT T) p (by rw [hjd]; exact datT_get hx), hjd]
    have hdesc' : ∀ s, (T.set j (v, s, p ++ [t])).Pairwise (fun a b => b.1 < a.1) := fun s => by
      have h1 := insP_desc (v := v) (t := t) (datT T) (by rw [hd]; exact splitP_desc V gg k)
      rw [← hdat s] at h1
      unfold datT at h1
      rwa [List.pairwise_map] at h1
    have hmem : ∀ s x, x ∈ T.set j (v, s, p ++ [t]) → x = (v, s, p ++ [t]) ∨ (x ∈ T ∧ x.1 ≠ v) := fun s x hxm => by
      obtain ⟨i, hi⟩ := List.mem_iff_getElem?.1 hxm
      by_cases e : i = j
      · subst e
        rw [List.getElem?_set_self hjlt] at hi
        exact .inl (Option.some.inj hi).symm
      · rw [List.getElem?_set_ne (Ne.symm e)] at hi
        exact .inr ⟨List.mem_iff_getElem?.2 ⟨i, hi⟩, hne i x e hi⟩
    have hmem' : ∀ s x, x ∈ T → x.1 ≠ v → x ∈ T.set j (v, s, p ++ [t]) := fun s x hxm hv => by
      obtain ⟨i, hi⟩ := List.mem_iff_getElem?.1 hxm
      have e : i ≠ j := fun e => by subst e; rw [hx] at hi; cases hi; exact hv rfl
      exact List.mem_iff_getElem?.2 ⟨i, by rw [List.getElem?_set_ne (Ne.symm e)]; exact hi⟩
    refine ⟨iv, p, fun s => T.set j (v, s, p ++ [t]), ?_, ?_, hdat, ?_, ?_, hmem, ?_, ?_, split_lens (V := V) (gg := gg) k (v, p) (by rw [← hd]; exact List.mem_iff_getElem?.2 ⟨j, datT_get hx⟩)⟩
    · have h1 : findI T v = some iv := (findI_iff hdesc).2 ⟨_, List.mem_iff_getElem?.2 ⟨j, hx⟩, rfl, rfl⟩
      show (findI T v).getD _ = iv
      rw [h1]; rfl
    · exact hO _ (List.mem_iff_getElem?.2 ⟨j, hx⟩)
    · intro s
      exact (findI_iff (hdesc' s)).2 ⟨(v, s, p ++ [t]), List.mem_iff_getElem?.2 ⟨j, List.getElem?_set_self hjlt⟩, rfl, rfl⟩
    · intro s z hz
      cases hz2 : z with
      | int kd s2 =>
        cases kd
        case i64 =>
          subst hz2
          have hsv : s2 ≠ v := fun e => hz (by rw [e])
          show findI _ s2 = findI _ s2
          refine opt_ext fun u => ?_
          rw [findI_iff (hdesc' s), findI_iff hdesc]
          constructor
          · rintro ⟨x, hxm, h1, h2⟩
            rcases hmem s x hxm with rfl | ⟨h3, _⟩
            · exact absurd h1.symm hsv
            · exact ⟨x, h3, h1, h2⟩
          · rintro ⟨x, hxm, h1, h2⟩
            exact ⟨x, hmem' s x hxm (by rw [h1]; exact hsv), h1, h2⟩
        all_goals rfl
      | _ => rfl
    · intro s hs
      rw [List.map_set]
      refine pairwise_set (fun a b h => h.symm) _ j s hA fun i y hi hy => ?_
      rw [List.getElem?_map] at hy
      obtain ⟨x, hx1, rfl⟩ := Option.map_eq_some_iff.1 hy
      exact hs x (List.mem_iff_getElem?.2 ⟨i, hx1⟩) (hne i x hi hx1)
    · intro x hxm hv
      obtain ⟨i, hi⟩ := List.mem_iff_getElem?.1 hxm
      exact hap j i _ x (fun e => by subst e; rw [hx] at hi; cases hi; exact hv rfl) hx hi
  · have hne : ∀ x ∈ T, x.1 ≠ v := fun x hxm e => by
      obtain ⟨i, hi⟩ := List.mem_iff_getElem?.1 hxm
      by_cases hlt : i < j
      · have := hhigh i x hlt hi; omega
      · by_cases e2 : i = j
        · subst e2; exact hex ⟨x.2.1, x.2.2, by rw [hi, ← e]⟩
        · have h1 : j < T.length := by have := (List.getElem?_eq_some_iff.1 hi).1; omega
          have h2 := hlow j _ (Nat.le_refl _) (List.getElem?_eq_getElem h1)
          have h3 := List.pairwise_iff_getElem.1 hdesc j i h1 (List.getElem?_eq_some_iff.1 hi).1 (by omega)
          rw [(List.getElem?_eq_some_iff.1 hi).2] at h3
          omega
    have hdat : ∀ s, datT (gapA T j (v, s, [t])) = insP v t (datT T) := fun s => by
      rw [datT_gap, insP_new v t (datT T) (by
        rw [hjd]; intro x hx e
        obtain ⟨iv, h1⟩ := datT_some (x := x) hx
        exact hex ⟨iv, x.2, by rw [h1, e]⟩), hjd]
    have hdesc' : ∀ s, (gapA T j (v, s, [t])).Pairwise (fun a b => b.1 < a.1) := fun s => by
      have h1 := insP_desc (v := v) (t := t) (datT T) (by rw [hd]; exact splitP_desc V gg k)
      rw [← hdat s] at h1
      unfold datT at h1
      rwa [List.pairwise_map] at h1
    have hin : ∀ s x, x ∈ T → x ∈ gapA T j (v, s, [t]) := fun s x hxm => by
      unfold gapA
      rw [List.mem_append, List.mem_cons]
      rw [← List.take_append_drop j T, List.mem_append] at hxm
      rcases hxm with h | h
      · exact .inl h
      · exact .inr (.inr h)
    have hself : ∀ s, (v, s, [t]) ∈ gapA T j (v, s, [t]) := fun s => by unfold gapA; simp
    refine ⟨.slice none 0 0, [], fun s => gapA T j (v, s, [t]), ?_, World.ownsRow_nil _ _ _ _, hdat, ?_, ?_, ?_, ?_, ?_, Nat.zero_le _⟩
    · have h1 : findI T v = none := by
        cases hf : findI T v with
        | none => rfl
        | some u =>
          obtain ⟨x, hx, h1, _⟩ := (findI_iff hdesc).1 hf
          exact absurd h1 (hne x hx)
      show (findI T v).getD _ = _
      rw [h1]; rfl
    · intro s
      exact (findI_iff (hdesc' s)).2 ⟨_, hself s, rfl, rfl⟩
    · intro s z hz
      cases hz2 : z with
      | int kd s2 =>
        cases kd
        case i64 =>
          subst hz2
          have hsv : s2 ≠ v := fun e => hz (by rw [e])
          show findI _ s2 = findI _ s2
          refine opt_ext fun u => ?_
          rw [findI_iff (hdesc' s), findI_iff hdesc]
          constructor
          · rintro ⟨x, hxm, h1, h2⟩
            rcases gapA_mem hxm with rfl | h3
            · exact absurd h1.symm hsv
            · exact ⟨x, h3, h1, h2⟩
          · rintro ⟨x, hxm, h1, h2⟩
            exact ⟨x, hin s x hxm, h1, h2⟩
        all_goals rfl
      | _ => rfl
    · intro s x hxm
      rcases gapA_mem hxm with h | h
      · exact .inl h
      · exact .inr ⟨h, hne x h⟩
    · intro s hs
      rw [gapA_map]
      refine gapA_pairwise hA (fun y hy => ?_) (fun y hy => ?_)
      · obtain ⟨x, hx, rfl⟩ := List.mem_map.1 hy
        exact (hs x hx (hne x hx)).symm
      · obtain ⟨x, hx, rfl⟩ := List.mem_map.1 hy
        exact hs x hx (hne x hx)
    · intro x hx hv k hk
      simp [Value.ownBlock] at hk
def GroupSt (w : World) (B m k : Nat) (T : List (Int × Value × List Int)) : Prop := OwnT w B 3 T ∧ ApartL (T.map fun x => x.2.1) ∧ ValMap Tryz.prog w 3 m k (findT T) ∧ m < B
theorem GroupSt.below {w w' : World} {B m k : Nat} {T : List (Int × Value × List Int)} (h : GroupSt w B m k T) (hb : Below w.heap.size w w') : GroupSt w' B m k T :=
  ⟨h.1.below hb (Nat.le_refl _), h.2.1, h.2.2.1.below hb (Nat.le_refl _), h.2.2.2⟩
theorem GroupSt.made (w : World) (k : Nat) : GroupSt (w.alloc (.map #[] 0)) (w.heap.size + 1) w.heap.size k [] :=
  ⟨fun x hx => (by cases hx), List.Pairwise.nil, by
    refine ((ValMap.made w Tryz.prog 3).mono (Nat.zero_le k)).congr fun s => ?_
    unfold findT; split <;> rfl, Nat.lt_succ_self _⟩
theorem GroupSt.kept {w w' : World} {B m k : Nat} {T : List (Int × Value × List Int)} {iv : Value} {n : Nat} {xs : List Value} (h : GroupSt w B m k T) (ho : w.ownsRow B 3 1 iv n xs) (hg : w.grownBy w' iv.ownBlock) : ValMap Tryz.prog w' 3 m k (findT T) :=
  h.2.2.1.grown hg (fun e => by have := (ho.lt m e.symm).1; have := h.2.2.2; omega)
theorem GroupSt.step {w w5 w6 : World} {B m k g c : Nat} {T : List (Int × Value × List Int)} {v t : Int} {iv : Value} {p : List Int} {T' : Value → List (Int × Value × List Int)} (h : GroupSt w B m k T) (hs : StepT w B k T v t iv p T')
    (hg5 : w.grownBy w5 iv.ownBlock) (ho5 : w5.ownsRow B 3 1 (.slice (some ⟨g, 0, none⟩) (p.length + 1) c) (p.length + 1) (p.map (Value.int .i64) ++ [.int .i64 t])) (hat : iv.ownBlock = some g ∨ w.heap.size ≤ g)
    (hg6 : w5.grownBy w6 (some m)) (hm6 : ValMap Tryz.prog w6 3 m (k + 1) (findT (T' (.slice (some ⟨g, 0, none⟩) (p.length + 1) c)))) : GroupSt w6 B m (k + 1) (T' (.slice (some ⟨g, 0, none⟩) (p.length + 1) c)) := by
  have hgB : B ≤ g := (ho5.lt g rfl).1
  have hmg : some m ≠ some g := by have := h.2.2.2; intro e; cases e; omega
  refine ⟨fun x hx => ?_, hs.apart _ fun x hx hne => ?_, hm6, h.2.2.2⟩
  · rcases hs.mem _ x hx with rfl | ⟨hxT, hne⟩
    · have := ho5.kept hg6 (.inr (by simpa [Value.ownBlock] using hmg.symm))
      simpa using this
    · have h1 := h.1 x hxT
      have h2 := kept_apart h1 (hs.parted x hxT hne) hg5
      refine h2.kept hg6 ?_
      cases hk : x.2.1.ownBlock with
      | none => exact .inl rfl
      | some q => exact .inr (by have := (h1.lt q hk).1; have := h.2.2.2; intro e; cases e; omega)
  · intro q hq e2
    have hq' : g = q := by simpa [Value.ownBlock] using hq
    subst hq'
    exact fresh_ne (h.1 x hx) (hs.parted x hx hne) hat e2
theorem desc_unique : ∀ (L L' : List Int), L.Pairwise (fun a b => b < a) → L'.Pairwise (fun a b => b < a) → (∀ s, s ∈ L ↔ s ∈ L') → L = L'
  | [], [], _, _, _ => rfl
  | [], y :: L', _, _, h => absurd ((h y).2 (List.mem_cons_self ..)) (by simp)
  | x :: L, [], _, _, h => absurd ((h x).1 (List.mem_cons_self ..)) (by simp)
  | x :: L, y :: L', h1, h2, h => by
    have a1 := List.pairwise_cons.1 h1
    have a2 := List.pairwise_cons.1 h2
    have e : x = y := by
      rcases List.mem_cons.1 ((h x).1 (List.mem_cons_self ..)) with e | e
      · exact e
      · rcases List.mem_cons.1 ((h y).2 (List.mem_cons_self ..)) with e' | e'
        · exact e'.symm
        · have := a2.1 x e; have := a1.1 y e'; omega
    subst e
    rw [desc_unique L L' a1.2 a2.2 fun s => ?_]
    constructor
    · intro hs
      rcases List.mem_cons.1 ((h s).1 (List.mem_cons_of_mem _ hs)) with e | e
      · have := a1.1 s hs; omega
      · exact e
    · intro hs
      rcases List.mem_cons.1 ((h s).2 (List.mem_cons_of_mem _ hs)) with e | e
      · have := a2.1 s hs; omega
      · exact e
end Go.Proofs.YteciobkjfmddcaaGreat
set_option linter.unusedVariables false
namespace Go.Proofs.YteciobkjfmddcaaGreat
open Go.RowKit

structure RsnD where
  key : Int
  grp : List Int
  first : Int
  other : Int
def rsn0 : RsnD := ⟨0, [], 0, 0⟩
def hitL (x y : Int) (L : List (List Int)) : Option (List Int) := L.find? fun p => decide (x ∈ p ∨ y ∈ p)
theorem hit_at {x y : Int} {L : List (List Int)} {k : Nat} {p : List Int} (hk : L[k]? = some p) (hp : x ∈ p ∨ y ∈ p) (h : ∀ j q, j < k → L[j]? = some q → ¬ (x ∈ q ∨ y ∈ q)) : hitL x y L = some p := by
  obtain ⟨hl, rfl⟩ := List.getElem?_eq_some_iff.1 hk
  unfold hitL
  rw [List.find?_eq_some_iff_getElem]
  refine ⟨decide_eq_true hp, k, hl, rfl, fun j hj => ?_⟩
  have := h j L[j] hj (List.getElem?_eq_getElem (by omega))
  simpa using this
theorem hit_none {x y : Int} {L : List (List Int)} (h : ∀ j q, j < L.length → L[j]? = some q → ¬ (x ∈ q ∨ y ∈ q)) : hitL x y L = none := by
  unfold hitL
  rw [List.find?_eq_none]
  intro q hq
  obtain ⟨j, hj, rfl⟩ := List.getElem_of_mem hq
  simpa using h j _ hj (List.getElem?_eq_getElem hj)
theorem hit_mem {x y : Int} {L : List (List Int)} {p : List Int} (h : hitL x y L = some p) : p ∈ L := List.mem_of_find?_eq_some h
theorem hit_has {x y : Int} {L : List (List Int)} {p : List Int} (h : hitL x y L = some p) : x ∈ p ∨ y ∈ p := by
  have := List.find?_some h
  simpa using this
def findF (b : BookD) (x y : Int) : Nat → List Int → Nat → Option RsnD
  | 0, _, _ => none
  | f + 1, G, s => if b.nl ≤ s then none else
      match hitL x y (partsL b (b.l s) (getI G) G.length) with
      | none => none
      | some p => if x ∈ p ∧ y ∈ p then findF b x y f p (nextS b (partsL b (b.l s) (getI G) G.length).length s)
          else some ⟨b.l s, G, bookV b (b.l s) (getI G) G.length x.toNat, bookV b (b.l s) (getI G) G.length y.toNat⟩
theorem findF_fuel (b : BookD) (x y : Int) : ∀ f f' G s, rankM b.nl G.length s < f → rankM b.nl G.length s < f' → findF b x y f G s = findF b x y f' G s
  | 0, _, _, _, h, _ => absurd h (Nat.not_lt_zero _)
  | _ + 1, 0, _, _, _, h => absurd h (Nat.not_lt_zero _)
  | f + 1, f' + 1, G, s, h, h' => by
    unfold findF
    by_cases hs : b.nl ≤ s
    · rw [if_pos hs, if_pos hs]
    · rw [if_neg hs, if_neg hs]
      cases hp : hitL x y (partsL b (b.l s) (getI G) G.length) with
      | none => rfl
      | some p =>
        have := rankM_lt (b := b) (s := s) (by omega) (hit_mem hp)
        show (if _ then _ else _) = (if _ then _ else _)
        rw [findF_fuel b x y f f' p _ (by omega) (by omega)]
def findP (b : BookD) (x y : Int) (G : List Int) (s : Nat) : Option RsnD := findF b x y (rankM b.nl G.length s + 1) G s
theorem findP_end (b : BookD) (x y : Int) {G : List Int} {s : Nat} (h : b.nl ≤ s) : findP b x y G s = none := by
  unfold findP findF; rw [if_pos h]
theorem findP_none (b : BookD) {x y : Int} {G : List Int} {s : Nat} (h : hitL x y (partsL b (b.l s) (getI G) G.length) = none) : findP b x y G s = none := by
  unfold findP findF; rw [h]; simp
theorem findP_here (b : BookD) {x y : Int} {G p : List Int} {s : Nat} (hs : s < b.nl) (h : hitL x y (partsL b (b.l s) (getI G) G.length) = some p) (hp : ¬ (x ∈ p ∧ y ∈ p)) :
    findP b x y G s = some ⟨b.l s, G, bookV b (b.l s) (getI G) G.length x.toNat, bookV b (b.l s) (getI G) G.length y.toNat⟩ := by
  unfold findP findF; rw [h, if_neg (by omega)]; simp only [hp, if_false]
theorem findP_on (b : BookD) {x y : Int} {G p : List Int} {s : Nat} (hs : s < b.nl) (h : hitL x y (partsL b (b.l s) (getI G) G.length) = some p) (hp : x ∈ p ∧ y ∈ p) :
    findP b x y G s = findP b x y p (nextS b (partsL b (b.l s) (getI G) G.length).length s) := by
  unfold findP
  conv => lhs; unfold findF
  rw [h, if_neg (by omega)]
  simp only [hp, and_self, if_true]
  exact findF_fuel b x y _ _ p _ (rankM_lt hs (hit_mem h)) (Nat.lt_succ_self _)
theorem findP_ind (b : BookD) (x y : Int) {P : List Int → Nat → Option RsnD → Prop} (h0 : ∀ G s, b.nl ≤ s → P G s none) (h1 : ∀ G s, s < b.nl → hitL x y (partsL b (b.l s) (getI G) G.length) = none → P G s none)
    (h2 : ∀ G s p, s < b.nl → hitL x y (partsL b (b.l s) (getI G) G.length) = some p → ¬ (x ∈ p ∧ y ∈ p) → P G s (some ⟨b.l s, G, bookV b (b.l s) (getI G) G.length x.toNat, bookV b (b.l s) (getI G) G.length y.toNat⟩))
    (h3 : ∀ G s p, s < b.nl → hitL x y (partsL b (b.l s) (getI G) G.length) = some p → (x ∈ p ∧ y ∈ p) → P p (nextS b (partsL b (b.l s) (getI G) G.length).length s) (findP b x y p (nextS b (partsL b (b.l s) (getI G) G.length).length s)) → P G s (findP b x y G s)) : ∀ G s, P G s (findP b x y G s) := by
  have H : ∀ m G s, rankM b.nl G.length s < m → P G s (findP b x y G s) := by
    intro m
    induction m with
    | zero => intro G s h; exact absurd h (Nat.not_lt_zero _)
    | succ m ih =>
      intro G s h
      by_cases hs : b.nl ≤ s
      · rw [findP_end b x y hs]; exact h0 G s hs
      cases hp : hitL x y (partsL b (b.l s) (getI G) G.length) with
      | none => rw [findP_none b hp]; exact h1 G s (by omega) hp
      | some p =>
        by_cases hh : x ∈ p ∧ y ∈ p
        · exact h3 G s p (by omega) hp hh (ih p _ (by have := rankM_lt (b := b) (s := s) (by omega) (hit_mem hp); omega))
        · rw [findP_here b (by omega) hp hh]; exact h2 G s p (by omega) hp hh
  exact fun G s => H _ G s (Nat.lt_succ_self _)
theorem findP_len (b : BookD) (x y : Int) : ∀ G s, ∀ r, findP b x y G s = some r → r.grp.length ≤ G.length := by
  refine findP_ind b x y (P := fun G _ o => ∀ r, o = some r → r.grp.length ≤ G.length) (fun _ _ _ _ h => by cases h) (fun _ _ _ _ _ h => by cases h) (fun G s p _ _ _ r h => by cases h; exact Nat.le_refl _) (fun G s p _ hp _ ih r h => ?_)
  rw [findP_on b ‹_› hp ‹_›] at h
  exact Nat.le_trans (ih r h) (partsL_le (hit_mem hp))

def partO (t : Int) (L : List (List Int)) : Option (List Int) := hitL t t L
def stepF (b : BookD) (t : Int) : Nat → List Int → Nat → List Int
  | 0, _, _ => []
  | f + 1, G, s => if G.length < 2 ∨ b.nl ≤ s then [] else
      if (partsL b (b.l s) (getI G) G.length).length = 1 then stepF b t f G (s + 1) else
        b.l s :: match partO t (partsL b (b.l s) (getI G) G.length) with
          | none => []
          | some p => stepF b t f p (nextS b (partsL b (b.l s) (getI G) G.length).length s)
theorem stepM_lt {nl n s : Nat} (hs : s < nl) : rankM nl n (s + 1) < rankM nl n s := by unfold rankM; omega
theorem stepF_fuel (b : BookD) (t : Int) : ∀ f f' G s, rankM b.nl G.length s < f → rankM b.nl G.length s < f' → stepF b t f G s = stepF b t f' G s
  | 0, _, _, _, h, _ => absurd h (Nat.not_lt_zero _)
  | _ + 1, 0, _, _, _, h => absurd h (Nat.not_lt_zero _)
  | f + 1, f' + 1, G, s, h, h' => by
    unfold stepF
    by_cases hs : G.length < 2 ∨ b.nl ≤ s
    · rw [if_pos hs, if_pos hs]
    · rw [if_neg hs, if_neg hs]
      have h8 := stepM_lt (nl := b.nl) (n := G.length) (s := s) (by omega)
      rw [stepF_fuel b t f f' G (s + 1) (by omega) (by omega)]
      cases hp : partO t (partsL b (b.l s) (getI G) G.length) with
      | none => rfl
      | some p =>
        have := rankM_lt (b := b) (s := s) (by omega) (hit_mem hp)
        show (if _ then _ else _ :: stepF b t f p _) = (if _ then _ else _ :: stepF b t f' p _)
        rw [stepF_fuel b t f f' p _ (by omega) (by omega)]
def stepP (b : BookD) (t : Int) (G : List Int) (s : Nat) : List Int := stepF b t (rankM b.nl G.length s + 1) G s
theorem stepP_end (b : BookD) (t : Int) {G : List Int} {s : Nat} (h : G.length < 2 ∨ b.nl ≤ s) : stepP b t G s = [] := by
  unfold stepP stepF; rw [if_pos h]
theorem stepP_one (b : BookD) (t : Int) {G : List Int} {s : Nat} (h1 : ¬ G.length < 2) (hs : s < b.nl) (h : (partsL b (b.l s) (getI G) G.length).length = 1) : stepP b t G s = stepP b t G (s + 1) := by
  unfold stepP
  conv => lhs; unfold stepF
  rw [if_neg (by omega), if_pos h]
  exact stepF_fuel b t _ _ G _ (stepM_lt hs) (Nat.lt_succ_self _)
theorem stepP_none (b : BookD) {t : Int} {G : List Int} {s : Nat} (h1 : ¬ G.length < 2) (hs : s < b.nl) (h : (partsL b (b.l s) (getI G) G.length).length ≠ 1) (hp : partO t (partsL b (b.l s) (getI G) G.length) = none) : stepP b t G s = [b.l s] := by
  unfold stepP stepF
  rw [if_neg (by omega), if_neg h, hp]
theorem stepP_on (b : BookD) {t : Int} {G p : List Int} {s : Nat} (h1 : ¬ G.length < 2) (hs : s < b.nl) (h : (partsL b (b.l s) (getI G) G.length).length ≠ 1) (hp : partO t (partsL b (b.l s) (getI G) G.length) = some p) :
    stepP b t G s = b.l s :: stepP b t p (nextS b (partsL b (b.l s) (getI G) G.length).length s) := by
  unfold stepP
  conv => lhs; unfold stepF
  rw [if_neg (by omega), if_neg h, hp]
  exact congrArg (b.l s :: ·) (stepF_fuel b t _ _ p _ (rankM_lt hs (hit_mem hp)) (Nat.lt_succ_self _))
theorem stepP_len (b : BookD) (t : Int) : ∀ m G s, rankM b.nl G.length s < m → (stepP b t G s).length ≤ rankM b.nl G.length s := by
  intro m
  induction m with
  | zero => intro G s h; exact absurd h (Nat.not_lt_zero _)
  | succ m ih =>
    intro G s h
    by_cases hs : G.length < 2 ∨ b.nl ≤ s
    · rw [stepP_end b t hs]; exact Nat.zero_le _
    by_cases h1 : (partsL b (b.l s) (getI G) G.length).length = 1
    · have h8 := stepM_lt (nl := b.nl) (n := G.length) (s := s) (by omega)
      rw [stepP_one b t (by omega) (by omega) h1]
      have := ih G (s + 1) (by omega)
      omega
    · cases hp : partO t (partsL b (b.l s) (getI G) G.length) with
      | none =>
        rw [stepP_none b (by omega) (by omega) h1 hp]
        have h8 := stepM_lt (nl := b.nl) (n := G.length) (s := s) (by omega)
        simp; omega
      | some p =>
        rw [stepP_on b (by omega) (by omega) h1 hp]
        have h8 := rankM_lt (b := b) (s := s) (by omega) (hit_mem hp)
        have := ih p (nextS b (partsL b (b.l s) (getI G) G.length).length s) (by omega)
        simp; omega
end Go.Proofs.YteciobkjfmddcaaGreat
set_option linter.unusedVariables false
namespace Go.Proofs.YteciobkjfmddcaaGreat
open Go.RowKit

structure SepD where
  key : Int
  grp : List Int
  part : List Int
theorem insP_one (v t : Int) : ∀ (L : List (Int × List Int)) (x : Int × List Int), insP v t L = [x] → (L = [] ∧ x = (v, [t])) ∨ ∃ p, L = [(v, p)] ∧ x = (v, p ++ [t])
  | [], x, h => .inl ⟨rfl, by unfold insP at h; simpa using h.symm⟩
  | (u, p) :: r, x, h => by
    unfold insP at h
    split at h
    · have h2 : insP v t r = [] := (List.cons.inj h).2
      have := insP_sum v t r
      rw [h2] at this
      unfold lenS at this; simp at this
    · split at h
      · rename_i e
        subst e
        obtain ⟨h1, h2⟩ := List.cons.inj h
        subst h2
        exact .inr ⟨p, rfl, h1.symm⟩
      · have := (List.cons.inj h).2; cases this
theorem splitP_one (V gg : Nat → Int) : ∀ (k : Nat) (x : Int × List Int), splitP V gg k = [x] → x.2 = (List.range k).map gg
  | 0, x, h => by cases h
  | k + 1, x, h => by
    rw [splitP] at h
    rcases insP_one _ _ _ _ h with ⟨h1, rfl⟩ | ⟨p, h1, rfl⟩
    · have h2 := splitP_sum V gg k
      rw [h1] at h2
      have h3 : k = 0 := by unfold lenS at h2; simpa using h2.symm
      subst h3
      rfl
    · have ih := splitP_one V gg k _ h1
      rw [List.range_succ, List.map_append]
      show p ++ [gg k] = _
      rw [← ih]
      rfl
theorem partsL_one {b : BookD} {key : Int} {G p : List Int} (h : partsL b key (getI G) G.length = [p]) : p = G := by
  unfold partsL at h
  obtain ⟨x, hx, rfl⟩ : ∃ x, splitP (bookV b key (getI G) G.length) (getI G) G.length = [x] ∧ x.2 = p := by
    cases hs : splitP (bookV b key (getI G) G.length) (getI G) G.length with
    | nil => rw [hs] at h; cases h
    | cons a r =>
      rw [hs] at h
      cases r with
      | nil => exact ⟨a, rfl, by simpa using h⟩
      | cons _ _ => simp at h
  rw [splitP_one _ _ _ _ hx]
  exact range_getI G
theorem part_whole {b : BookD} {key : Int} {G p : List Int} (hp : p ∈ partsL b key (getI G) G.length) : p.length = G.length ↔ (partsL b key (getI G) G.length).length = 1 := by
  constructor
  · intro h
    by_cases h1 : 1 < (partsL b key (getI G) G.length).length
    · have := partsL_lt hp h1; omega
    · have := List.length_pos_of_mem hp; omega
  · intro h
    have h2 := parts_perm b key G
    obtain ⟨q, hq⟩ := List.length_eq_one_iff.1 h
    rw [hq] at hp h2
    have h3 : p = q := by simpa using hp
    subst h3
    have := h2.length_eq
    simpa using this
theorem part_has {b : BookD} {key : Int} {G : List Int} {t : Int} (ht : t ∈ G) : ∃ p, partO t (partsL b key (getI G) G.length) = some p := by
  have h1 := (parts_perm b key G).mem_iff.2 ht
  obtain ⟨p, hp, htp⟩ := List.mem_flatten.1 h1
  unfold partO hitL
  cases h : (partsL b key (getI G) G.length).find? fun p => decide (t ∈ p ∨ t ∈ p) with
  | some q => exact ⟨q, rfl⟩
  | none =>
    rw [List.find?_eq_none] at h
    have := h p hp
    simp [htp] at this
theorem part_mem {t : Int} {L : List (List Int)} {p : List Int} (h : partO t L = some p) : t ∈ p := (hit_has h).elim id id
def sepF (b : BookD) (t : Int) : Nat → List Int → Nat → List SepD
  | 0, _, _ => []
  | f + 1, G, s => if G.length < 2 ∨ b.nl ≤ s then [] else
      match partO t (partsL b (b.l s) (getI G) G.length) with
      | none => []
      | some p => if p.length = G.length then sepF b t f G (s + 1)
          else ⟨b.l s, G, p⟩ :: sepF b t f p (nextS b (partsL b (b.l s) (getI G) G.length).length s)
theorem sepF_fuel (b : BookD) (t : Int) : ∀ f f' G s, rankM b.nl G.length s < f → rankM b.nl G.length s < f' → sepF b t f G s = sepF b t f' G s
  | 0, _, _, _, h, _ => absurd h (Nat.not_lt_zero _)
  | _ + 1, 0, _, _, _, h => absurd h (Nat.not_lt_zero _)
  | f + 1, f' + 1, G, s, h, h' => by
    unfold sepF
    by_cases hs : G.length < 2 ∨ b.nl ≤ s
    · rw [if_pos hs, if_pos hs]
    · rw [if_neg hs, if_neg hs]
      cases hp : partO t (partsL b (b.l s) (getI G) G.length) with
      | none => rfl
      | some p =>
        have h8 := stepM_lt (nl := b.nl) (n := G.length) (s := s) (by omega)
        have h9 := rankM_lt (b := b) (s := s) (by omega) (hit_mem hp)
        show (if _ then _ else _ :: sepF b t f p _) = (if _ then _ else _ :: sepF b t f' p _)
        rw [sepF_fuel b t f f' G (s + 1) (by omega) (by omega), sepF_fuel b t f f' p _ (by omega) (by omega)]
def sepP (b : BookD) (t : Int) (G : List Int) (s : Nat) : List SepD := sepF b t (rankM b.nl G.length s + 1) G s
theorem sepP_end (b : BookD) (t : Int) {G : List Int} {s : Nat} (h : G.length < 2 ∨ b.nl ≤ s) : sepP b t G s = [] := by
  unfold sepP sepF; rw [if_pos h]
theorem sepP_one (b : BookD) (t : Int) {G p : List Int} {s : Nat} (h1 : ¬ G.length < 2) (hs : s < b.nl) (hp : partO t (partsL b (b.l s) (getI G) G.length) = some p) (h : p.length = G.length) : sepP b t G s = sepP b t G (s + 1) := by
  unfold sepP
  conv => lhs; unfold sepF
  rw [if_neg (by omega), hp]
  show (if _ then _ else _) = _
  rw [if_pos h]
  exact sepF_fuel b t _ _ G _ (stepM_lt hs) (Nat.lt_succ_self _)
theorem sepP_on (b : BookD) (t : Int) {G p : List Int} {s : Nat} (h1 : ¬ G.length < 2) (hs : s < b.nl) (hp : partO t (partsL b (b.l s) (getI G) G.length) = some p) (h : p.length ≠ G.length) :
    sepP b t G s = ⟨b.l s, G, p⟩ :: sepP b t p (nextS b (partsL b (b.l s) (getI G) G.length).length s) := by
  unfold sepP
  conv => lhs; unfold sepF
  rw [if_neg (by omega), hp]
  show (if _ then _ else _) = _
  rw [if_neg h]
  exact congrArg (_ :: ·) (sepF_fuel b t _ _ p _ (rankM_lt hs (hit_mem hp)) (Nat.lt_succ_self _))
theorem sepP_ind (b : BookD) (t : Int) {P : List Int → Nat → List SepD → Prop} (h0 : ∀ G s, t ∈ G → (G.length < 2 ∨ b.nl ≤ s) → P G s [])
    (h1 : ∀ G s p, t ∈ G → ¬ G.length < 2 → s < b.nl → partO t (partsL b (b.l s) (getI G) G.length) = some p → p.length = G.length → P G (s + 1) (sepP b t G (s + 1)) → P G s (sepP b t G (s + 1)))
    (h2 : ∀ G s p, t ∈ G → ¬ G.length < 2 → s < b.nl → partO t (partsL b (b.l s) (getI G) G.length) = some p → p.length ≠ G.length → P p (nextS b (partsL b (b.l s) (getI G) G.length).length s) (sepP b t p (nextS b (partsL b (b.l s) (getI G) G.length).length s)) →
      P G s (⟨b.l s, G, p⟩ :: sepP b t p (nextS b (partsL b (b.l s) (getI G) G.length).length s))) : ∀ G s, t ∈ G → P G s (sepP b t G s) := by
  have H : ∀ m G s, rankM b.nl G.length s < m → t ∈ G → P G s (sepP b t G s) := by
    intro m
    induction m with
    | zero => intro G s h; exact absurd h (Nat.not_lt_zero _)
    | succ m ih =>
      intro G s h ht
      by_cases hs : G.length < 2 ∨ b.nl ≤ s
      · rw [sepP_end b t hs]; exact h0 G s ht hs
      have h8 := stepM_lt (nl := b.nl) (n := G.length) (s := s) (by omega)
      obtain ⟨p, hp⟩ := part_has (b := b) (key := b.l s) ht
      have h9 := rankM_lt (b := b) (s := s) (by omega) (hit_mem hp)
      by_cases hw : p.length = G.length
      · rw [sepP_one b t (by omega) (by omega) hp hw]
        exact h1 G s p ht (by omega) (by omega) hp hw (ih G (s + 1) (by omega) ht)
      · rw [sepP_on b t (by omega) (by omega) hp hw]
        exact h2 G s p ht (by omega) (by omega) hp hw (ih p _ (by omega) (part_mem hp))
  exact fun G s ht => H _ G s (Nat.lt_succ_self _) ht
theorem sep_steps (b : BookD) (t : Int) : ∀ G s, t ∈ G → (sepP b t G s).map SepD.key = stepP b t G s := by
  refine sepP_ind b t (P := fun G s L => L.map SepD.key = stepP b t G s) (fun G s ht h => ?_) (fun G s p ht h1 hs hp hw ih => ?_) (fun G s p ht h1 hs hp hw ih => ?_)
  · rw [stepP_end b t h]; rfl
  · rw [stepP_one b t h1 hs ((part_whole (hit_mem hp)).1 hw)]; exact ih
  · rw [stepP_on b h1 hs (fun e => hw ((part_whole (hit_mem hp)).2 e)) hp, List.map_cons, ih]
def leaveL (y : Int) (L : List SepD) : Option SepD := L.find? fun d => decide (¬ y ∈ d.part)
theorem leaveL_some {y : Int} {L : List SepD} {d : SepD} (h : leaveL y L = some d) : ¬ y ∈ d.part ∧ d ∈ L := by
  unfold leaveL at h
  have := List.find?_some h
  exact ⟨by simpa using this, List.mem_of_find?_eq_some h⟩
theorem leaveL_at {y : Int} {pre : List SepD} {d : SepD} {rest : List SepD} (hp : ∀ q ∈ pre, y ∈ q.part) (hd : ¬ y ∈ d.part) : leaveL y (pre ++ d :: rest) = some d := by
  unfold leaveL
  rw [List.find?_append, List.find?_eq_none.2 (fun q hq => by simp [hp q hq])]
  simp [hd]
theorem leaveL_none {y : Int} {L : List SepD} (hp : ∀ q ∈ L, y ∈ q.part) : leaveL y L = none := by
  unfold leaveL
  rw [List.find?_eq_none]
  intro q hq; simp [hp q hq]
def rsnOf (b : BookD) (x y : Int) (d : SepD) : RsnD := ⟨d.key, d.grp, bookV b d.key (getI d.grp) d.grp.length x.toNat, bookV b d.key (getI d.grp) d.grp.length y.toNat⟩
theorem parts_disjoint {b : BookD} {key : Int} {G : List Int} (hG : G.Nodup) {p q : List Int} {u : Int} (hp : p ∈ partsL b key (getI G) G.length) (hq : q ∈ partsL b key (getI G) G.length) (h1 : u ∈ p) (h2 : u ∈ q) : p = q := by
  have hn : (partsL b key (getI G) G.length).flatten.Nodup := (parts_perm b key G).nodup_iff.2 hG
  have hd := (List.pairwise_flatten.1 hn).2
  obtain ⟨i, hi, rfl⟩ := List.getElem_of_mem hp
  obtain ⟨j, hj, rfl⟩ := List.getElem_of_mem hq
  rw [List.pairwise_iff_getElem] at hd
  rcases Nat.lt_trichotomy i j with h | h | h
  · exact absurd rfl (hd i j hi hj h u h1 u h2)
  · subst h; rfl
  · exact absurd rfl (hd j i hj hi h u h2 u h1)
theorem sep_find (b : BookD) (x y : Int) : ∀ G s, x ∈ G → (y ∈ G → G.Nodup → (leaveL y (sepP b x G s)).map (rsnOf b x y) = if x = y then none else findP b x y G s) := by
  refine sepP_ind b x (P := fun G s L => y ∈ G → G.Nodup → (leaveL y L).map (rsnOf b x y) = if x = y then none else findP b x y G s) (fun G s hx h hy hn => ?_) (fun G s p hx h1 hs hp hw ih hy hn => ?_) (fun G s p hx h1 hs hp hw ih hy hn => ?_)
  · show none = _
    by_cases hxy : x = y
    · rw [if_pos hxy]
    · rw [if_neg hxy]
      rcases h with h | h
      · exact absurd h (by
          obtain ⟨i, hi, ei⟩ := List.getElem_of_mem hx
          obtain ⟨j, hj, ej⟩ := List.getElem_of_mem hy
          intro hl
          have : i = j := by omega
          subst this
          exact hxy (ei.symm.trans ej))
      · rw [findP_end b x y h]
  · rw [ih hy hn]
    by_cases hxy : x = y
    · rw [if_pos hxy, if_pos hxy]
    · rw [if_neg hxy, if_neg hxy]
      have hl := (part_whole (hit_mem hp)).1 hw
      obtain ⟨q, hq⟩ := List.length_eq_one_iff.1 hl
      have hpq : p = q := by have := hit_mem hp; rw [hq] at this; simpa using this
      subst hpq
      have hperm := parts_perm b (b.l s) G
      rw [hq] at hperm
      have hpG : p.Perm G := by simpa using hperm
      have hyp : y ∈ p := hpG.mem_iff.2 hy
      have hxp : x ∈ p := part_mem hp
      have hh : hitL x y (partsL b (b.l s) (getI G) G.length) = some p := by rw [hq]; unfold hitL; simp [hxp]
      rw [findP_on b hs hh ⟨hxp, hyp⟩]
      have hnx : nextS b (partsL b (b.l s) (getI G) G.length).length s = s + 1 := by unfold nextS; rw [hl, if_neg (by omega)]
      rw [hnx]
      have hpe : p = G := by
        have e := partsL_one (b := b) (key := b.l s) (G := G) (p := p) hq
        exact e
      rw [hpe]
  · have hxp : x ∈ p := part_mem hp
    have hpm := hit_mem hp
    by_cases hyp : y ∈ p
    · have e : leaveL y (⟨b.l s, G, p⟩ :: sepP b x p (nextS b (partsL b (b.l s) (getI G) G.length).length s)) = leaveL y (sepP b x p (nextS b (partsL b (b.l s) (getI G) G.length).length s)) := by
        unfold leaveL; rw [List.find?_cons_of_neg (by simp [hyp])]
      rw [e, ih hyp (parts_nodup hn hpm)]
      by_cases hxy : x = y
      · rw [if_pos hxy, if_pos hxy]
      · rw [if_neg hxy, if_neg hxy]
        have hh : hitL x y (partsL b (b.l s) (getI G) G.length) = some p := by
          obtain ⟨r, hr⟩ : ∃ r, hitL x y (partsL b (b.l s) (getI G) G.length) = some r := by
            unfold hitL
            cases h : (partsL b (b.l s) (getI G) G.length).find? fun p => decide (x ∈ p ∨ y ∈ p) with
            | some q => exact ⟨q, rfl⟩
            | none => rw [List.find?_eq_none] at h; have := h p hpm; simp [hxp] at this
          rw [hr]
          rcases hit_has hr with h | h
          · rw [parts_disjoint hn (hit_mem hr) hpm h hxp]
          · rw [parts_disjoint hn (hit_mem hr) hpm h hyp]
        rw [findP_on b hs hh ⟨hxp, hyp⟩]
    · have e : leaveL y (⟨b.l s, G, p⟩ :: sepP b x p (nextS b (partsL b (b.l s) (getI G) G.length).length s)) = some ⟨b.l s, G, p⟩ := leaveL_at (pre := []) (fun _ h => by cases h) hyp
      rw [e]
      have hxy : x ≠ y := fun e => hyp (e ▸ hxp)
      rw [if_neg hxy]
      obtain ⟨r, hr⟩ : ∃ r, hitL x y (partsL b (b.l s) (getI G) G.length) = some r := by
        unfold hitL
        cases h : (partsL b (b.l s) (getI G) G.length).find? fun p => decide (x ∈ p ∨ y ∈ p) with
        | some q => exact ⟨q, rfl⟩
        | none => rw [List.find?_eq_none] at h; have := h p hpm; simp [hxp] at this
      have hnb : ¬ (x ∈ r ∧ y ∈ r) := fun h => hyp (parts_disjoint hn (hit_mem hr) hpm h.1 hxp ▸ h.2)
      rw [findP_here b hs hr hnb]
      rfl
theorem sep_in (b : BookD) (t : Int) : ∀ G s, t ∈ G → ∀ d ∈ sepP b t G s, (∀ u ∈ d.grp, u ∈ G) ∧ (∀ u ∈ d.part, u ∈ G) ∧ d.grp.length ≤ G.length ∧ d.part.length ≤ G.length ∧ ∃ j, j < b.nl ∧ d.key = b.l j := by
  refine sepP_ind b t (P := fun G s L => ∀ d ∈ L, (∀ u ∈ d.grp, u ∈ G) ∧ (∀ u ∈ d.part, u ∈ G) ∧ d.grp.length ≤ G.length ∧ d.part.length ≤ G.length ∧ ∃ j, j < b.nl ∧ d.key = b.l j) (fun _ _ _ _ d h => by cases h) (fun G s p ht h1 hs hp hw ih => ih) (fun G s p ht h1 hs hp hw ih d hd => ?_)
  have hpm := hit_mem hp
  rcases List.mem_cons.1 hd with rfl | hd
  · exact ⟨fun u h => h, parts_in hpm, Nat.le_refl _, partsL_le hpm, s, hs, rfl⟩
  · obtain ⟨a1, a2, a3, a4, a5⟩ := ih d hd
    have := partsL_le hpm
    exact ⟨fun u h => parts_in hpm u (a1 u h), fun u h => parts_in hpm u (a2 u h), by omega, by omega, a5⟩
end Go.Proofs.YteciobkjfmddcaaGreat
set_option linter.unusedVariables false
namespace Go.Proofs.YteciobkjfmddcaaGreat
open Go.RowKit

def fromP (b : BookD) (n : Nat) (gg : Nat → Int) (z : Int) : Prop := bookP b ∧ teamsP b.nf n gg ∧ 0 ≤ z ∧ ∀ i, i < n → ¬ hasP gg (gg i) i
theorem ListsL.none {w w' : World} (h : Below w.heap.size w w') : ListsL w [] (.returned (.slice none 0 0)) w' :=
  ⟨_, [], rfl, rfl, ⟨⟨rfl, .inl ⟨rfl, rfl⟩⟩, (fun x hx => by cases hx), (by unfold ApartL; simp)⟩, h⟩
def allL (n : Nat) : List Int := valsL (fun i => (i : Int)) n
theorem allL_len (n : Nat) : (allL n).length = n := by unfold allL valsL; simp
theorem allL_get {n i : Nat} (h : i < n) : getI (allL n) i = i := by unfold allL valsL getI; simp [h]
theorem all_from {b : BookD} : fromP b (allL b.nf).length (getI (allL b.nf)) 0 ↔ bookP b := by
  rw [allL_len]
  refine ⟨fun h => h.1, fun h => ⟨h, fun i hi => by rw [allL_get hi]; omega, Int.le_refl _, fun i hi ⟨j, hj, e⟩ => ?_⟩⟩
  rw [allL_get hi, allL_get (by omega)] at e
  omega
def orderL (L : List (List Int)) : List Int := if ∀ p ∈ L, p.length = 1 then L.flatten else []
theorem flat_ones : ∀ (L : List (List Int)), (∀ p ∈ L, p.length = 1) → L.flatten.length = L.length
  | [], _ => rfl
  | p :: L, h => by
    rw [List.flatten_cons, List.length_append, h p (List.mem_cons_self ..), flat_ones L fun q hq => h q (List.mem_cons_of_mem _ hq)]
    simp; omega
theorem LL.kept {w w' : World} {B : Nat} {v : Value} {T : List (Value × List Int)} {row : Option Nat} (h : LL w B v T) (hg : w.grownBy w' row) (h1 : ∀ q, row = some q → Hid (v.ownBlock ≠ some q ∧ ∀ x ∈ T, x.1.ownBlock ≠ some q)) : LL w' B v T := by
  refine ⟨h.1.kept hg ?_, fun x hx => (h.2.1 x hx).kept hg ?_, h.2.2⟩
  · cases hr : row with
    | none => cases hv : v.ownBlock with
      | none => exact .inl rfl
      | some q => exact .inr (by simp)
    | some q => exact .inr fun e => (h1 q hr).out.1 e
  · cases hr : row with
    | none => cases hv : x.1.ownBlock with
      | none => exact .inl rfl
      | some q => exact .inr (by simp)
    | some q => exact .inr fun e => (h1 q hr).out.2 x hx e
theorem IntsL.none {w w' : World} (h : Below w.heap.size w w') : IntsL w [] (.returned (.slice none 0 0)) w' :=
  ⟨_, rfl, ⟨rfl, .inl ⟨rfl, rfl⟩⟩, h⟩
end Go.Proofs.YteciobkjfmddcaaGreat
set_option linter.unusedVariables false
namespace Go.Proofs.YteciobkjfmddcaaGreat
open Go.RowKit

theorem allL_nodup (n : Nat) : (allL n).Nodup := by
  unfold allL valsL
  refine List.Pairwise.map _ (fun a b h e => h (by omega)) List.nodup_range
theorem allL_mem {n : Nat} {u : Int} : u ∈ allL n ↔ 0 ≤ u ∧ u < n := by
  unfold allL valsL
  rw [List.mem_map]
  constructor
  · rintro ⟨i, hi, rfl⟩
    have := List.mem_range.1 hi
    omega
  · rintro ⟨h1, h2⟩
    exact ⟨u.toNat, List.mem_range.2 (by omega), by omega⟩
end Go.Proofs.YteciobkjfmddcaaGreat
set_option linter.unusedVariables false
namespace Go.Proofs.YteciobkjfmddcaaGreat
open Go.RowKit

theorem grown_below {w w' : World} (h : w.grownBy w' none) : Below w.heap.size w w' := (Below.refl _ _).grown h (Nat.le_refl _) (fun k hk => by cases hk)
set_option maxRecDepth 100000 in
set_option maxHeartbeats 2000000 in
theorem allTeamsOf_impl (vf vl vg vfa vta : Value) (b : BookD) (w : World) (h : BookRow w vf vl vg vfa vta b) (hn6 : b.nf ≤ 1048576) :
    Calls Tryz.prog 84 #[.agg #[vf, .int .i64 b.win, .int .i64 b.draw, .int .i64 b.loss, vl, .bool b.again, vg, vfa, vta]] w (IntsL w (allL b.nf)) := by
  obtain ⟨i0, hi, hz0, hz1, hz2⟩ := info_parts Tryz.infoI
  obtain ⟨fa, fc, la, lc, ga, gc, qa, qc, ta, tc, rfl, rfl, rfl, rfl, rfl⟩ := h.form
  have K0 := Lib.hid (BkAt.made h 29)
  have hsix := h.sixty
  have hn7 : b.nf ≤ 1048576 := by omega
  clear h hn6
  obtain ⟨d0, d1, d2, d3, d4, d5, d6, d7, d8⟩ := K0.out.cells
  go_enter Tryz.func84, Tryz.ntmps84
  go_wp2_with (at_make; refine wpList_make_full _ rfl _ _ 24 rfl (w.heap.size + 1) 3 i0 (.int .i64 0) 1 Tryz.underlying24 hi hz0 hz1 .i64 .i64 b.nf b.nf b.nf rfl rfl rfl rfl (by rw [hz2]; omega) (by unfold maxLen; omega) (by simp) ?_; intro w2 hown hg2)
  have b2 := Lib.hid (grown_below hg2)
  have K2 := Lib.hid (K0.out.next b2.out)
  have hes : (w.alloc (.cells #[.slice fa b.nf fc, .int .i64 b.win, .int .i64 b.draw, .int .i64 b.loss, .slice la b.nl lc, .bool b.again, .slice ga b.m gc, .slice qa b.nfa qc, .slice ta b.nta tc] 29)).heap.size = w.heap.size + 1 := by simp
  rw [hes] at hown
  have HO2 := Lib.hid hown
  clear hes
  have HZ : Hid (w2.heap.size ≤ w2.heap.size) := Nat.le_refl _
  clear hg2 hown K0 d0 d1 d2 d3 d4 d5 d6 d7 d8 b2
  go_loopw [11] (fun i wr => ∃ (j : Nat) (ys : List Value), j ≤ b.nf ∧ i = .int .i64 j ∧ wr.ownsRow (w.heap.size + 1) 3 1 (.slice (some ⟨w.heap.size + 1, 0, none⟩) b.nf b.nf) b.nf ys ∧ Hid (∀ t, t < j → ys[t]? = some (.int .i64 (t : Int))) ∧ Hid (BkAt w wr w.heap.size fa fc la lc ga gc qa qc ta tc b))
    (fun i _ => b.nf - (RowKit.intOf i).toNat)
  case atStart => exact ⟨0, _, Nat.zero_le _, rfl, HO2.out, fun t ht => absurd ht (by omega), K2⟩
  case round =>
    obtain ⟨j, ys, hj, rfl, hown', hys, K⟩ := hrel
    clear HO2 K2 HZ
    by_cases hlt : j < b.nf
    · obtain ⟨u, hu⟩ := owns_some hown' j hlt
      have HU := Lib.hid hu
      have hcl := owns_cell hown' j hlt HU
      have hfr := hown'.frozenAt j
      have HO' := Lib.hid hown'
      clear hu hown'
      go_wp2
      go_roundw
      case rel =>
        refine ⟨j + 1, ys.set j (.int .i64 (j : Int)), by omega, by go_num, (HO'.out.stored j _).1, fun t ht => ?_, K.out.store (by simp) (by simp) _⟩
        have hlen := HO'.out.1
        by_cases htj : t = j
        · subst htj
          rw [List.getElem?_set_self (by omega)]
        · rw [List.getElem?_set_ne (by omega)]
          exact hys.out t (by omega)
      case measure => simp [RowKit.intOf]; omega
    · obtain rfl : b.nf = j := by omega
      have hys2 : ys = (allL b.nf).map (Value.int .i64) := by
        have hlen := hown'.1
        have e1 : allL b.nf = (List.range b.nf).map fun i : Nat => (i : Int) := by rfl
        rw [e1, List.map_map]
        apply List.ext_getElem?
        intro t
        by_cases ht : t < b.nf
        · rw [hys.out t ht]; simp [ht]
        · rw [List.getElem?_eq_none (by omega), List.getElem?_eq_none (by simp; omega)]
      subst hys2
      have hlenA : (allL b.nf).length = b.nf := allL_len _
      have HR : Hid (wr.ownsRow w.heap.size 3 1 (.slice (some ⟨w.heap.size + 1, 0, none⟩) b.nf b.nf) (allL b.nf).length ((allL b.nf).map (Value.int .i64))) := by
        show World.ownsRow _ _ _ _ _ _ _
        rw [hlenA]; exact owns_mono hown' (by omega)
      have HE := Lib.hid K.out.bel
      clear hown' hys
      go_wp2
      go_ret
      exact ⟨_, rfl, HR.out, HE.out⟩

set_option maxRecDepth 100000 in
set_option maxHeartbeats 2000000 in
theorem indexLists1 (f : Nat) (hf : Entered f) (P : Option Addr) (v : Value) (D : Nat) (T : List (Value × List Int)) (p : Nat → Bool) (w : World) (hv : LL w D v T) (hT : T.length ≤ 1048576)
    (hp : ∀ k x w', T[k]? = some x → Below w.heap.size w w' → Calls Tryz.prog f #[x.1, .pointer P] w' fun e w'' => e = .returned (.bool (p k)) ∧ Below w'.heap.size w' w'') :
    Calls Tryz.prog 116 #[v, .func (.func f) #[] #[.pointer P]] w fun e w' => e = .returned (.int .i64 (firstI p T.length 0)) ∧ Below w.heap.size w w' := by
  have HP := Lib.hid hp
  have HL := Lib.hid hv
  obtain ⟨pa, pc, hvf⟩ := owns_form hv.1
  subst hvf
  clear hv hp
  generalize hr : firstI p T.length 0 = R
  have HR := Lib.hid hr
  clear hr
  go_enter Tryz.func116, Tryz.ntmps116
  go_wp2
  go_loopw [8] (fun i wr => ∃ k : Nat, k ≤ T.length ∧ i = .int .i64 k ∧ Hid (firstI p (T.length - k) k = R) ∧ Below w.heap.size w wr) (fun i _ => T.length - (RowKit.intOf i).toNat)
  case atStart => exact ⟨0, Nat.zero_le _, rfl, HR.out, Below.refl _ _⟩
  case round =>
    obtain ⟨k, hk, rfl, hpf, hb⟩ := hrel
    by_cases hlt : k < T.length
    · obtain ⟨x, hx⟩ : ∃ x, T[k]? = some x := ⟨_, List.getElem?_eq_getElem hlt⟩
      have LLr := HL.out.below hb (Nat.le_refl _)
      obtain ⟨pg, pcap, he, hpc, _, cp⟩ := vals_at (x := x.1) (j := k) LLr.1 (by rw [List.getElem?_map, hx]; rfl)
      simp only [Value.slice.injEq, true_and] at he
      obtain ⟨rfl, rfl⟩ := he
      obtain ⟨ya, yc, hyf⟩ := owns_form (LLr.2.1 _ (List.mem_of_getElem? hx))
      have hstep := firstI_step (p := p) hlt
      rw [hpf.out] at hstep
      have HY := Lib.hid (fun (e : p k = true) => hstep.trans (if_pos e))
      have HN := Lib.hid (fun (e : p k = false) => hstep.trans (if_neg (by rw [e]; simp)))
      clear hstep
      have hsz := hb.size
      have C2 := Lib.hid (HP.out k x wr hx hb)
      rw [hyf] at C2 cp
      have hrun := hf #[.slice ya x.2.length yc, .pointer P] wr
      obtain ⟨yn, hyn⟩ : ∃ n, x.2.length = n := ⟨_, rfl⟩
      rw [hyn] at C2 cp hrun
      clear hpf HR HP hx LLr hyf hyn
      generalize p k = r at *
      cases r with
      | true =>
        obtain rfl := HY.out rfl
        clear HY HN
        go_wp2_with fail
        refine C2.out.mono ?_
        rintro e w2 ⟨rfl, b2⟩
        have HE := Lib.hid (hb.trans (b2.mono hsz))
        clear C2 b2
        go_wp2
        go_ret
        exact ⟨rfl, HE.out⟩
      | false =>
        have HS := Lib.hid (HN.out rfl).symm
        clear HY HN
        go_wp2_with fail
        refine C2.out.mono ?_
        rintro e w2 ⟨rfl, b2⟩
        have HE := Lib.hid (hb.trans (b2.mono hsz))
        clear C2 b2
        go_wp2
        go_roundw
        case rel => exact ⟨k + 1, by omega, by go_num, HS.out, HE.out⟩
        case measure => simp [RowKit.intOf]; omega
    · obtain rfl : k = T.length := by omega
      have hR : R = -1 := by rw [← hpf.out, Nat.sub_self]; rfl
      subst hR
      clear hpf HR
      go_wp2
      go_ret
      exact ⟨rfl, hb⟩

set_option maxRecDepth 100000 in
set_option maxHeartbeats 2000000 in
theorem partCl_impl (p : List Int) (v : Value) (t : Int) (P : Addr) (w : World) (hv : IntRow w v p.length (getI p)) (hc : w.cell? P = some (.int .i64 t)) :
    Calls Tryz.prog 117 #[v, .pointer (some P)] w fun e w' => e = .returned (.bool (decide (t ∈ p))) ∧ Below w.heap.size w w' := by
  obtain ⟨aa, cap, rfl, _, _⟩ := hv.form
  have C := Lib.hid (slicesContains_int (.slice aa p.length cap) p.length (getI p) t (decide (t ∈ p)) w (by rw [decide_eq_true_eq, hasP_mem]) hv)
  obtain ⟨n, hn⟩ : ∃ n, p.length = n := ⟨_, rfl⟩
  rw [hn] at C ⊢
  generalize decide (t ∈ p) = r at *
  clear hv hn
  go_enter Tryz.func117, Tryz.ntmps117
  go_wp2_with fail
  refine C.out.mono ?_
  rintro e w2 ⟨rfl, hw⟩
  subst hw
  go_wp2
  go_ret
  exact ⟨rfl, Below.refl _ _⟩

theorem first_part {t : Int} {T : List (Value × List Int)} {p : List Int} (h : partO t (T.map Prod.snd) = some p) :
    ∃ (k : Nat) (x : Value × List Int), firstI (fun i => decide (∃ y, T[i]? = some y ∧ t ∈ y.2)) T.length 0 = (k : Int) ∧ k < T.length ∧ T[k]? = some x ∧ x.2 = p := by
  unfold partO hitL at h
  rw [List.find?_eq_some_iff_getElem] at h
  obtain ⟨hp, k, hk, e, hbef⟩ := h
  have hk' : k < T.length := by simpa using hk
  refine ⟨k, T[k], ?_, hk', List.getElem?_eq_getElem hk', by simpa using e⟩
  have h1 : t ∈ p := by simpa using hp
  have e' : (T[k]).2 = p := by simpa using e
  refine (firstI_eq _ _ _).2 ⟨⟨by omega, by omega⟩, ?_, fun i _ hi => ?_⟩
  · rw [decide_eq_true_eq]
    exact ⟨T[k], List.getElem?_eq_getElem hk', by rw [e']; exact h1⟩
  · rw [decide_eq_false_iff_not]
    rintro ⟨y, hy, hty⟩
    have hb := hbef i (by omega)
    obtain ⟨hl, rfl⟩ := List.getElem?_eq_some_iff.1 hy
    simp at hb
    exact hb hty

set_option maxRecDepth 100000 in
set_option maxHeartbeats 2000000 in
theorem partWith_impl (t : Int) (v : Value) (D : Nat) (T : List (Value × List Int)) (p : List Int) (w : World) (hv : LL w D v T) (hT : T.length ≤ 1048576) (hp : partO t (T.map Prod.snd) = some p) (hm : ∀ x ∈ T, x.2.length ≤ 1048576) :
    Calls Tryz.prog 85 #[.int .i64 t, v] w fun e w' => ∃ x ∈ T, x.2 = p ∧ e = .returned x.1 ∧ Below w.heap.size w w' := by
  obtain ⟨k, x, hk, hkT, hx, hxp⟩ := first_part hp
  have B0 := Lib.hid ((Below.refl w.heap.size w).alloc (Nat.le_refl _) (.cells #[.int .i64 t] 3))
  have CI := Lib.hid (fun (U : World) (hU : Below w.heap.size w U) (hc : U.cell? ⟨w.heap.size, 0, none⟩ = some (.int .i64 t)) (hs : w.heap.size < U.heap.size) => indexLists1 117 (fun args w => by rfl) (some ⟨w.heap.size, 0, none⟩) v D T _ U (hv.below hU (Nat.le_refl _)) hT (fun i y w' hy hb => by
    have h1 := (hv.below hU (Nat.le_refl _)).below hb (Nat.le_refl _)
    have h2 := partCl_impl y.2 y.1 t ⟨w.heap.size, 0, none⟩ w' (IntRow.of_list (h1.2.1 _ (List.mem_of_getElem? hy)) (by have := hm _ (List.mem_of_getElem? hy); omega)) ((hb.cell (p := ⟨w.heap.size, 0, none⟩) hs).trans hc)
    have e : decide (t ∈ y.2) = decide (∃ z, T[i]? = some z ∧ t ∈ z.2) := by
      rw [Bool.eq_iff_iff, decide_eq_true_eq, decide_eq_true_eq]
      exact ⟨fun h => ⟨y, hy, h⟩, fun ⟨z, hz, h⟩ => by rw [hy] at hz; cases hz; exact h⟩
    rw [e] at h2
    exact h2))
  rw [hk] at CI
  have HL := Lib.hid hv
  obtain ⟨pa, pc, hvf⟩ := owns_form hv.1
  subst hvf
  have HX := Lib.hid hx
  have HXP := Lib.hid hxp
  clear hv hp hm hk hx hxp
  have hsz : (w.alloc (.cells #[.int .i64 t] 3)).heap.size = w.heap.size + 1 := by simp
  have HSZ := Lib.hid hsz
  have hc0 : Hid ((w.alloc (.cells #[.int .i64 t] 3)).cell? ⟨w.heap.size, 0, none⟩ = some (.int .i64 t)) := (BoxN.made (Below.refl _ _) rfl : BoxN (w.alloc (.cells #[.int .i64 t] 3)) w.heap.size [.int .i64 t]).2 0 _ rfl
  clear hsz
  go_enter Tryz.func85, Tryz.ntmps85
  go_wp2_with fail
  refine (CI.out _ B0.out hc0.out (by rw [HSZ.out]; omega)).mono ?_
  rintro e w2 ⟨rfl, b2⟩
  have B2 := Lib.hid (B0.out.trans (b2.mono B0.out.size))
  have LLr := HL.out.below B2.out (Nat.le_refl _)
  obtain ⟨pg, pcap, he, hpc, _, cp⟩ := vals_at (x := x.1) (j := k) LLr.1 (by rw [List.getElem?_map, HX.out]; rfl)
  simp only [Value.slice.injEq, true_and] at he
  obtain ⟨rfl, rfl⟩ := he
  obtain ⟨ya, yc, hyf⟩ := owns_form (LLr.2.1 _ (List.mem_of_getElem? HX.out))
  have HYF := Lib.hid hyf
  rw [hyf] at cp
  clear LLr hyf b2 CI
  go_wp2
  go_ret
  exact ⟨x, List.mem_of_getElem? HX.out, HXP.out, by rw [HYF.out]; rfl, B2.out⟩
end Go.Proofs.YteciobkjfmddcaaGreat
set_option linter.unusedVariables false
namespace Go.Proofs.YteciobkjfmddcaaGreat
open Go.RowKit Go.Maps Go.Sort Go.Shelf

def descC (a b : Int) : Int := Lib.compareInt b a
theorem descLt (a b : Int) : ltOf descC a b = decide (b < a) := by
  unfold ltOf descC Lib.compareInt
  by_cases h1 : b < a
  · simp [h1]
  · by_cases h2 : a < b <;> simp [h1, h2]
theorem descSwo : SWO (ltOf descC) where
  irrefl x := by rw [descLt]; simp
  trans x y z h1 h2 := by rw [descLt] at *; simp at *; omega
  ntrans x y z h1 h2 := by rw [descLt] at *; simp at *; omega
theorem descend_impl (x y : Int) (W : World) : Calls Tryz.prog 73 #[.int .i64 x, .int .i64 y] W fun e w' => e = .returned (.int .i64 (descC x y)) ∧ ∃ q, w' = W.drewN q := by
  have hcon := fun x y W' => AnyG.cmp_Compare_int Tryz.cmpDL x y W'
  change ∀ x y W', Calls Tryz.prog 113 _ _ _ at hcon
  have HC := Lib.hid hcon
  clear hcon
  unfold descC
  generalize hr : Lib.compareInt y x = r
  have HR := Lib.hid hr
  clear hr
  go_enter Tryz.func73, Tryz.ntmps73
  go_wp2_with (go_at_call 113; refine (HC.out _ _ _).mono ?_; rintro e w1 ⟨rfl, hw⟩; subst hw)
  go_ret
  exact ⟨by rw [← HR.out]; rfl, 0, rfl⟩
theorem sortDesc (blk cap base : Nat) (ss : List Int) (w : World) (hown : w.ownsRow base 3 1 (.slice (some ⟨blk, 0, none⟩) ss.length cap) ss.length (ss.map (Value.int .i64))) (hsz : ss.length < 4611686018427387904) :
    Calls Tryz.prog 111 #[.slice (some ⟨blk, 0, none⟩) ss.length cap, .func (.func 73) #[] #[]] w fun e w' =>
      e = .returned (.tuple #[]) ∧ ∃ ts : List Int, ts.Perm ss ∧ ts.Pairwise (fun a b => b ≤ a) ∧ w'.ownsRow base 3 1 (.slice (some ⟨blk, 0, none⟩) ts.length cap) ts.length (ts.map (Value.int .i64)) ∧ w.grownBy w' (some blk) := by
  rcases hown.2 with ⟨h', _⟩ | ⟨g', cap', cur, h', hbg, hgg, hnc, hcm, hcs, htake⟩
  · simp at h'
  simp only [Value.slice.injEq, Option.some.injEq, Addr.mk.injEq, and_true, true_and] at h'
  obtain ⟨rfl, rfl⟩ := h'
  have eg : ∀ args w, (callFunc 73 args).run Tryz.prog w = .ok (.enter 73 args) w := enters_of Tryz.func73 (by kernel_rfl) rfl
  have hcmp : CmpReads Tryz.prog 73 #[] (Value.int .i64) descC blk 0 ss.toArray.size w := by
    intro q os dk hdk x y
    exact descend_impl x y _
  have hH : Holds (Value.int .i64) w blk 0 ss.toArray := holds_of_blockI hgg (by simpa using htake)
  have hblk : blk < w.heap.size := (Array.getElem?_eq_some_iff.1 hgg).1
  have h := Any.slices_SortFunc_total Tryz.sortDL (Value.int .i64) (fun _ => rfl) descC descSwo 73 #[] blk 0 cap ss.toArray w eg hcmp.lays hH hblk (by simpa using hsz)
    (fun x y h1 h2 => by rw [descLt] at h1 h2; simp at h1 h2; omega)
  simp only [List.size_toArray] at h
  refine h.mono ?_
  rintro e w' ⟨he, n, os, rfl⟩
  obtain ⟨ts, hts⟩ : ∃ ts, ss.mergeSort (fun x y => !(ltOf descC) y x) = ts := ⟨_, rfl⟩
  have hperm : ts.Perm ss := by rw [← hts]; exact List.mergeSort_perm _ _
  have hlen := hperm.length_eq
  refine ⟨he, ts, hperm, ?_, ?_, ?_⟩
  · rw [← hts]
    have hp : (ss.mergeSort (fun x y => !(ltOf descC) y x)).Pairwise (fun a b => (!(ltOf descC) b a) = true) := List.pairwise_mergeSort (fun a b c h1 h2 => by simp only [descLt] at *; simp at *; omega) (fun a b => by simp only [descLt]; simp; omega) ss
    exact hp.imp fun h => by rw [descLt] at h; simp at h; omega
  · have h2 := ownsRow_sortedI (base := base) (n := n) (os := os) (ss := ss) (ts := ts) hlen hbg hgg hnc hcm hcs
    rw [hlen]
    unfold sortWorld
    rw [hts]
    exact h2
  · have h2 := grownBy_sortedI (w := w) (g := blk) (n := n) (os := os) ts.toArray
    unfold sortWorld
    rw [hts]
    exact h2
theorem keysI_impl (mb : Option Nat) (W : World) : Calls Tryz.prog 72 #[.map mb] W fun e w' => e = .returned (.func (.func 112) #[] #[.pointer (some ⟨W.heap.size, 0, none⟩)]) ∧ w' = W.alloc (.cells #[.map mb] 110) :=
  callsIn_wide.1 (AnyZI.keys_in Tryz.keysDL Fence.wide 5 trivial rfl mb W)
set_option maxHeartbeats 1000000 in
theorem sortedDesc_impl (m n : Nat) (F : Lit → Option Value) (w : World) (hm : ValMap Tryz.prog w 3 m n F) (hi : ∀ kl v, F kl = some v → ∃ s, kl = .int .i64 s) (hn : n ≤ 1048576) :
    Calls Tryz.prog 71 #[.func (.func 112) #[] #[.pointer (some ⟨w.heap.size, 0, none⟩)], .func (.func 73) #[] #[]] (w.alloc (.cells #[.map (some m)] 110)) fun e w' =>
      ∃ (v : Value) (L : List Int), e = .returned v ∧ L.Pairwise (fun a b => b < a) ∧ (∀ s, s ∈ L ↔ ∃ u, F (.int .i64 s) = some u) ∧ w'.ownsRow (w.alloc (.cells #[.map (some m)] 110)).heap.size 3 1 v L.length (L.map (Value.int .i64)) ∧ L.length ≤ n ∧
        Below (w.alloc (.cells #[.map (some m)] 110)).heap.size (w.alloc (.cells #[.map (some m)] 110)) w' := by
  obtain ⟨D, ho, hD⟩ := hm
  have hbl := ho.lt
  have hsz := ho.size_le
  obtain ⟨hnd, hmem, hkl⟩ := MapV.keys kInt hi ho hD
  have hseq : SeqGives Fence.wide 3 Tryz.prog 112 #[.pointer (some ⟨w.heap.size, 0, none⟩)] encZ (fun ss => ss.Perm (Go.intKeys D)) (Maps.size D) (w.alloc (.cells #[.map (some m)] 110)) :=
    AnyZI.keys_gives (ρ := Tryz.keysDL_ren) { Tryz.keysDL with } Fence.wide _ trivial rfl (by omega) w.heap.size m n D _ (by simp) (by simp) (by
      obtain ⟨es, clock, hb, Ft, hs, hD⟩ := ho
      exact ⟨es, clock, (Below.heap_alloc _ _ m hbl).trans hb, Ft, hs, hD⟩)
  generalize w.alloc (.cells #[.map (some m)] 110) = wa at *
  generalize (.pointer (some ⟨w.heap.size, 0, none⟩) : Value) = pv at *
  have cC := callsIn_wide.1 (AnyZI.collect_in Tryz.collectDL Fence.wide 5 trivial trivial rfl (by omega) 112 #[pv] trivial (Go.Proofs.enters_of Tryz.func112 (by kernel_rfl) rfl) _ (Maps.size D) (by unfold maxLen; omega) (by omega) _ hseq)
  have CC := Lib.hid cC
  have CN := Lib.hid (fun p cap fv W => AnyF.slices_SortFunc_none { Tryz.sortDL with } p cap fv W)
  have HND := Lib.hid hnd
  have HMEM := Lib.hid hmem
  have HLEN := Lib.hid (Nat.le_trans (Nat.le_of_eq hkl) hsz)
  clear cC hseq hnd hmem hkl hbl hsz ho hD hi
  go_enter Tryz.func71, Tryz.ntmps71
  go_wp2_with fail
  refine CC.out.mono ?_
  rintro e w1 ⟨v, ss, rfl, hS, hrow, hnil, hb⟩
  have hSn : ss.Nodup := hS.nodup_iff.2 HND.out
  have hSl : ss.length ≤ n := by rw [hS.length_eq]; exact HLEN.out
  have HSm : Hid (∀ s, s ∈ ss ↔ ∃ u, F (.int .i64 s) = some u) := fun s => by rw [hS.mem_iff]; exact HMEM.out s
  cases ss with
  | nil =>
    obtain rfl := hnil.2 rfl
    have HB := Lib.hid hb
    clear hS hrow hnil hb hSn CC
    go_wp2_with fail
    refine (CN.out _ _ _ _).mono ?_
    rintro e w2 ⟨rfl, rfl⟩
    go_wp2
    go_ret
    exact ⟨_, [], rfl, List.Pairwise.nil, HSm.out, World.ownsRow_nil _ _ _ _, Nat.zero_le _, HB.out⟩
  | cons x xs =>
    obtain ⟨blk, cap, rfl⟩ : ∃ blk cap, v = .slice (some ⟨blk, 0, none⟩) (x :: xs).length cap := by
      rcases hrow.2 with ⟨h', h0⟩ | ⟨g', cap', cur, h', _⟩
      · simp at h0
      · exact ⟨g', cap', h'⟩
    generalize hzs : x :: xs = zs at *
    have hne : 0 < zs.length := by rw [← hzs]; simp
    have hbs := hrow.lt blk rfl
    have CS := Lib.hid (sortDesc blk cap _ zs w1 hrow (by omega))
    have HB := Lib.hid hb
    have HND2 := Lib.hid hSn
    clear hS hrow hnil hb hzs CC CN hSn
    go_wp2_with fail
    refine CS.out.mono ?_
    rintro e w2 ⟨rfl, ts, hp, hpw, ho, hg⟩
    have hl := hp.length_eq
    have HL := Lib.hid hl
    have HO := Lib.hid ho
    have HB2 := Lib.hid (HB.out.grown hg HB.out.size (fun k e => by cases e; exact hbs.1))
    have HM2 : Hid (∀ s, s ∈ ts ↔ ∃ u, F (.int .i64 s) = some u) := fun s => by rw [hp.mem_iff]; exact HSm.out s
    have HPW : Hid (ts.Pairwise (fun a b => b < a)) := (hpw.and (hp.nodup_iff.2 HND2.out)).imp fun h => by have h1 := h.1; have h2 := h.2; omega
    clear hp hpw ho hg hl
    go_wp2
    go_ret
    refine ⟨_, ts, rfl, HPW.out, HM2.out, ?_, by rw [HL.out]; exact hSl, HB2.out⟩
    rw [← HL.out]
    exact HO.out
end Go.Proofs.YteciobkjfmddcaaGreat
