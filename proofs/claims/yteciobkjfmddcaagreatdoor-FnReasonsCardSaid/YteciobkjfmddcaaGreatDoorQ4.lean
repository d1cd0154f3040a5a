/-
  Packed: RsnFacts, KeyValue, TeamsAll, SplitBy, Rank, RankPlain, SepFacts, Cur.
-/
import Derived.Test.YteciobkjfmddcaaGreatDoorProg
import Derived.Lib.Hide
import Derived.Outline
import Derived.Deep.QuietTactic
import Derived.BigQuiet
import Derived.Test.YteciobkjfmddcaaGreatDoorQ1
import Derived.Test.YteciobkjfmddcaaGreatDoorQ2
import Derived.Test.YteciobkjfmddcaaGreatDoorQ3
set_option linter.unusedVariables false
namespace Go.Proofs.YteciobkjfmddcaaGreatDoor
open Go.RowKit

structure RsnD where
  key : Int
  grp : List Int
  first : Int
  other : Int
def rsn0 : RsnD := ⟨0, [], 0, 0⟩
def hitL (x y : Int) (L : List (List Int)) : Option (List Int) := L.find? fun p => decide (x ∈ p ∨ y ∈ p)
theorem hit_at {x y : Int} {L : List (List Int)} {k : Nat} {p : List Int} (hk : L[k]? = some p) (hp : x ∈ p ∨ y ∈ p) (h : ∀ j q, j < k → L[j]? = some q → ¬ (x ∈ q ∨ y ∈ q)) : hitL x y L = some p := by
  obtain ⟨hl, rfl⟩ := List.getElem?_eq_some_iff.1 hk
  unfold hitL
  rw [List.find?_eq_some_iff_getElem]
  refine ⟨decide_eq_true hp, k, hl, rfl, fun j hj => ?_⟩
  have := h j L[j] hj (List.getElem?_eq_getElem (by omega))
  simpa using this
theorem hit_none {x y : Int} {L : List (List Int)} (h : ∀ j q, j < L.length → L[j]? = some q → ¬ (x ∈ q ∨ y ∈ q)) : hitL x y L = none := by
  unfold hitL
  rw [List.find?_eq_none]
  intro q hq
  obtain ⟨j, hj, rfl⟩ := List.getElem_of_mem hq
  simpa using h j _ hj (List.getElem?_eq_getElem hj)
theorem hit_mem {x y : Int} {L : List (List Int)} {p : List Int} (h : hitL x y L = some p) : p ∈ L := List.mem_of_find?_eq_some h
theorem hit_has {x y : Int} {L : List (List Int)} {p : List Int} (h : hitL x y L = some p) : x ∈ p ∨ y ∈ p := by
  have := List.find?_some h
  simpa using this
def findF (b : BookD) (x y : Int) : Nat → List Int → Nat → Option RsnD
  | 0, _, _ => none
  | f + 1, G, s => if b.nl ≤ s then none else
      match hitL x y (partsL b (b.l s) (getI G) G.length) with
      | none => none
      | some p => if x ∈ p ∧ y ∈ p then findF b x y f p (nextS b (partsL b (b.l s) (getI G) G.length).length s)
          else some ⟨b.l s, G, bookV b (b.l s) (getI G) G.length x.toNat, bookV b (b.l s) (getI G) G.length y.toNat⟩
theorem findF_fuel (b : BookD) (x y : Int) : ∀ f f' G s, rankM b.nl G.length s < f → rankM b.nl G.length s < f' → findF b x y f G s = findF b x y f' G s
  | 0, _, _, _, h, _ => absurd h (Nat.not_lt_zero _)
  | _ + 1, 0, _, _, _, h => absurd h (Nat.not_lt_zero _)
  | f + 1, f' + 1, G, s, h, h' => by
    unfold findF
    by_cases hs : b.nl ≤ s
    · rw [if_pos hs, if_pos hs]
    · rw [if_neg hs, if_neg hs]
      cases hp : hitL x y (partsL b (b.l s) (getI G) G.length) with
      | none => rfl
      | some p =>
        have := rankM_lt (b := b) (s := s) (by omega) (hit_mem hp)
        show (if _ then _ else _) = (if _ then _ else _)
        rw [findF_fuel b x y f f' p _ (by omega) (by omega)]
def findP (b : BookD) (x y : Int) (G : List Int) (s : Nat) : Option RsnD := findF b x y (rankM b.nl G.length s + 1) G s
theorem findP_end (b : BookD) (x y : Int) {G : List Int} {s : Nat} (h : b.nl ≤ s) : findP b x y G s = none := by
  unfold findP findF; rw [if_pos h]
theorem findP_none (b : BookD) {x y : Int} {G : List Int} {s : Nat} (h : hitL x y (partsL b (b.l s) (getI G) G.length) = none) : findP b x y G s = none := by
  unfold findP findF; rw [h]; simp
theorem findP_here (b : BookD) {x y : Int} {G p : List Int} {s : Nat} (hs : s < b.nl) (h : hitL x y (partsL b (b.l s) (getI G) G.length) = some p) (hp : ¬ (x ∈ p ∧ y ∈ p)) :
    findP b x y G s = some ⟨b.l s, G, bookV b (b.l s) (getI G) G.length x.toNat, bookV b (b.l s) (getI G) G.length y.toNat⟩ := by
  unfold findP findF; rw [h, if_neg (by omega)]; simp only [hp, if_false]
theorem findP_on (b : BookD) {x y : Int} {G p : List Int} {s : Nat} (hs : s < b.nl) (h : hitL x y (partsL b (b.l s) (getI G) G.length) = some p) (hp : x ∈ p ∧ y ∈ p) :
    findP b x y G s = findP b x y p (nextS b (partsL b (b.l s) (getI G) G.length).length s) := by
  unfold findP
  conv => lhs; unfold findF
  rw [h, if_neg (by omega)]
  simp only [hp, and_self, if_true]
  exact findF_fuel b x y _ _ p _ (rankM_lt hs (hit_mem h)) (Nat.lt_succ_self _)
theorem findP_ind (b : BookD) (x y : Int) {P : List Int → Nat → Option RsnD → Prop} (h0 : ∀ G s, b.nl ≤ s → P G s none) (h1 : ∀ G s, s < b.nl → hitL x y (partsL b (b.l s) (getI G) G.length) = none → P G s none)
    (h2 : ∀ G s p, s < b.nl → hitL x y (partsL b (b.l s) (getI G) G.length) = some p → ¬ (x ∈ p ∧ y ∈ p) → P G s (some ⟨b.l s, G, bookV b (b.l s) (getI G) G.length x.toNat, bookV b (b.l s) (getI G) G.length y.toNat⟩))
    (h3 : ∀ G s p, s < b.nl → hitL x y (partsL b (b.l s) (getI G) G.length) = some p → (x ∈ p ∧ y ∈ p) → P p (nextS b (partsL b (b.l s) (getI G) G.length).length s) (findP b x y p (nextS b (partsL b (b.l s) (getI G) G.length).length s)) → P G s (findP b x y G s)) : ∀ G s, P G s (findP b x y G s) := by
  have H : ∀ m G s, rankM b.nl G.length s < m → P G s (findP b x y G s) := by
    intro m
    induction m with
    | zero => intro G s h; exact absurd h (Nat.not_lt_zero _)
    | succ m ih =>
      intro G s h
      by_cases hs : b.nl ≤ s
      · rw [findP_end b x y hs]; exact h0 G s hs
      cases hp : hitL x y (partsL b (b.l s) (getI G) G.length) with
      | none => rw [findP_none b hp]; exact h1 G s (by omega) hp
      | some p =>
        by_cases hh : x ∈ p ∧ y ∈ p
        · exact h3 G s p (by omega) hp hh (ih p _ (by have := rankM_lt (b := b) (s := s) (by omega) (hit_mem hp); omega))
        · rw [findP_here b (by omega) hp hh]; exact h2 G s p (by omega) hp hh
  exact fun G s => H _ G s (Nat.lt_succ_self _)
theorem findP_len (b : BookD) (x y : Int) : ∀ G s, ∀ r, findP b x y G s = some r → r.grp.length ≤ G.length := by
  refine findP_ind b x y (P := fun G _ o => ∀ r, o = some r → r.grp.length ≤ G.length) (fun _ _ _ _ h => by cases h) (fun _ _ _ _ _ h => by cases h) (fun G s p _ _ _ r h => by cases h; exact Nat.le_refl _) (fun G s p _ hp _ ih r h => ?_)
  rw [findP_on b ‹_› hp ‹_›] at h
  exact Nat.le_trans (ih r h) (partsL_le (hit_mem hp))

def partO (t : Int) (L : List (List Int)) : Option (List Int) := hitL t t L
def stepF (b : BookD) (t : Int) : Nat → List Int → Nat → List Int
  | 0, _, _ => []
  | f + 1, G, s => if G.length < 2 ∨ b.nl ≤ s then [] else
      if (partsL b (b.l s) (getI G) G.length).length = 1 then stepF b t f G (s + 1) else
        b.l s :: match partO t (partsL b (b.l s) (getI G) G.length) with
          | none => []
          | some p => stepF b t f p (nextS b (partsL b (b.l s) (getI G) G.length).length s)
theorem stepM_lt {nl n s : Nat} (hs : s < nl) : rankM nl n (s + 1) < rankM nl n s := by unfold rankM; omega
theorem stepF_fuel (b : BookD) (t : Int) : ∀ f f' G s, rankM b.nl G.length s < f → rankM b.nl G.length s < f' → stepF b t f G s = stepF b t f' G s
  | 0, _, _, _, h, _ => absurd h (Nat.not_lt_zero _)
  | _ + 1, 0, _, _, _, h => absurd h (Nat.not_lt_zero _)
  | f + 1, f' + 1, G, s, h, h' => by
    unfold stepF
    by_cases hs : G.length < 2 ∨ b.nl ≤ s
    · rw [if_pos hs, if_pos hs]
    · rw [if_neg hs, if_neg hs]
      have h8 := stepM_lt (nl := b.nl) (n := G.length) (s := s) (by omega)
      rw [stepF_fuel b t f f' G (s + 1) (by omega) (by omega)]
      cases hp : partO t (partsL b (b.l s) (getI G) G.length) with
      | none => rfl
      | some p =>
        have := rankM_lt (b := b) (s := s) (by omega) (hit_mem hp)
        show (if _ then _ else _ :: stepF b t f p _) = (if _ then _ else _ :: stepF b t f' p _)
        rw [stepF_fuel b t f f' p _ (by omega) (by omega)]
def stepP (b : BookD) (t : Int) (G : List Int) (s : Nat) : List Int := stepF b t (rankM b.nl G.length s + 1) G s
theorem stepP_end (b : BookD) (t : Int) {G : List Int} {s : Nat} (h : G.length < 2 ∨ b.nl ≤ s) : stepP b t G s = [] := by
  unfold stepP stepF; rw [if_pos h]
theorem stepP_one (b : BookD) (t : Int) {G : List Int} {s : Nat} (h1 : ¬ G.length < 2) (hs : s < b.nl) (h : (partsL b (b.l s) (getI G) G.length).length = 1) : stepP b t G s = stepP b t G (s + 1) := by
  unfold stepP
  conv => lhs; unfold stepF
  rw [if_neg (by omega), if_pos h]
  exact stepF_fuel b t _ _ G _ (stepM_lt hs) (Nat.lt_succ_self _)
theorem stepP_none (b : BookD) {t : Int} {G : List Int} {s : Nat} (h1 : ¬ G.length < 2) (hs : s < b.nl) (h : (partsL b (b.l s) (getI G) G.length).length ≠ 1) (hp : partO t (partsL b (b.l s) (getI G) G.length) = none) : stepP b t G s = [b.l s] := by
  unfold stepP stepF
  rw [if_neg (by omega), if_neg h, hp]
theorem stepP_on (b : BookD) {t : Int} {G p : List Int} {s : Nat} (h1 : ¬ G.length < 2) (hs : s < b.nl) (h : (partsL b (b.l s) (getI G) G.length).length ≠ 1) (hp : partO t (partsL b (b.l s) (getI G) G.length) = some p) :
    stepP b t G s = b.l s :: stepP b t p (nextS b (partsL b (b.l s) (getI G) G.length).length s) := by
  unfold stepP
  conv => lhs; unfold stepF
  rw [if_neg (by omega), if_neg h, hp]
  exact congrArg (b.l s :: ·) (stepF_fuel b t _ _ p _ (rankM_lt hs (hit_mem hp)) (Nat.lt_succ_self _))
theorem stepP_len (b : BookD) (t : Int) : ∀ m G s, rankM b.nl G.length s < m → (stepP b t G s).length ≤ rankM b.nl G.length s := by
  intro m
  induction m with
  | zero => intro G s h; exact absurd h (Nat.not_lt_zero _)
  | succ m ih =>
    intro G s h
    by_cases hs : G.length < 2 ∨ b.nl ≤ s
    · rw [stepP_end b t hs]; exact Nat.zero_le _
    by_cases h1 : (partsL b (b.l s) (getI G) G.length).length = 1
    · have h8 := stepM_lt (nl := b.nl) (n := G.length) (s := s) (by omega)
      rw [stepP_one b t (by omega) (by omega) h1]
      have := ih G (s + 1) (by omega)
      omega
    · cases hp : partO t (partsL b (b.l s) (getI G) G.length) with
      | none =>
        rw [stepP_none b (by omega) (by omega) h1 hp]
        have h8 := stepM_lt (nl := b.nl) (n := G.length) (s := s) (by omega)
        simp; omega
      | some p =>
        rw [stepP_on b (by omega) (by omega) h1 hp]
        have h8 := rankM_lt (b := b) (s := s) (by omega) (hit_mem hp)
        have := ih p (nextS b (partsL b (b.l s) (getI G) G.length).length s) (by omega)
        simp; omega
end Go.Proofs.YteciobkjfmddcaaGreatDoor
set_option linter.unusedVariables false
namespace Go.Proofs.YteciobkjfmddcaaGreatDoor
open Go.RowKit

def keyP (b : BookD) (team : Int) : Prop := bookP b ∧ 0 ≤ team ∧ team ≤ b.nf - 1
end Go.Proofs.YteciobkjfmddcaaGreatDoor
set_option linter.unusedVariables false
namespace Go.Proofs.YteciobkjfmddcaaGreatDoor
open Go.RowKit

def teamsP (n : Nat) (ng : Nat) (gg : Nat → Int) : Prop := ∀ i, i < ng → 0 ≤ gg i ∧ gg i ≤ (n : Int) - 1
end Go.Proofs.YteciobkjfmddcaaGreatDoor
set_option linter.unusedVariables false
namespace Go.Proofs.YteciobkjfmddcaaGreatDoor
open Go.RowKit

theorem Tryz.infoL : (Tryz.prog.info? 24).map (fun i => (i.zero, i.size, i.bytes)) = some (some (.slice none 0 0), 1, 24) := by kernel_rfl
theorem fresh_ne {w : World} {B : Nat} {e : TypeId} {sz : Nat} {v x : Value} {n : Nat} {xs : List Value} (hx : w.ownsRow B e sz x n xs) (ha : ApartV v x) {g : Nat} (hat : v.ownBlock = some g ∨ w.heap.size ≤ g) : x.ownBlock ≠ some g := fun e1 => by
  rcases hat with h | h
  · exact ha g h e1
  · have := (hx.lt g e1).2; omega
theorem apart_row {v x : Value} (ha : ApartV v x) : ∀ k, x.ownBlock = some k → v.ownBlock ≠ some k := fun k h1 h2 => ha k h2 h1
theorem kept_apart {w w' : World} {B : Nat} {e : TypeId} {sz : Nat} {v x : Value} {n : Nat} {xs : List Value} (hx : w.ownsRow B e sz x n xs) (ha : ApartV v x) (hg : w.grownBy w' v.ownBlock) : w'.ownsRow B e sz x n xs := by
  refine hx.kept hg ?_
  cases hk : x.ownBlock with
  | none => exact .inl rfl
  | some k => exact .inr fun e1 => apart_row ha k hk e1.symm
theorem SplitSt.apart {w : World} {B : Nat} {ov av : Value} {T : List (Int × Value × List Int)} (h : SplitSt w B ov av T) : ApartV ov av ∧ (∀ x ∈ T, ApartV ov x.2.1) ∧ ∀ x ∈ T, ApartV av x.2.1 := by
  have h1 := List.pairwise_cons.1 h.2.2.2
  have h2 := List.pairwise_cons.1 h1.2
  have hm : ∀ x ∈ T, x.2.1 ∈ T.map fun x => x.2.1 := fun x hx => List.mem_map.2 ⟨x, hx, rfl⟩
  exact ⟨h1.1 av (List.mem_cons_self ..), fun x hx => h1.1 _ (List.mem_cons_of_mem _ (hm x hx)), fun x hx => h2.1 _ (hm x hx)⟩
theorem SplitSt.grow1 {w w' : World} {B ga : Nat} {ov av : Value} {T : List (Int × Value × List Int)} (h : SplitSt w B ov av T) (hg : w.grownBy w' av.ownBlock) (hat : av.ownBlock = some ga ∨ w.heap.size ≤ ga) :
    w'.ownsRow B 24 1 ov T.length (T.map fun x => x.2.1) ∧ OwnT w' B 3 T ∧ (∀ x ∈ T, x.2.1.ownBlock ≠ some ga) ∧ ov.ownBlock ≠ some ga := by
  obtain ⟨a1, a2, a3⟩ := h.apart
  exact ⟨kept_apart h.1 a1.symm hg, fun x hx => kept_apart (h.2.2.1 x hx) (a3 x hx) hg, fun x hx => fresh_ne (h.2.2.1 x hx) (a3 x hx) hat, fresh_ne h.1 a1.symm hat⟩
theorem SplitSt.grow2 {w0 w w' : World} {B ga ca na go : Nat} {ov av : Value} {T : List (Int × Value × List Int)} {xs : List Value} (h0 : SplitSt w0 B ov av T) (hov : w.ownsRow B 24 1 ov T.length (T.map fun x => x.2.1)) (hT : OwnT w B 3 T)
    (ha : w.ownsRow B 3 1 (.slice (some ⟨ga, 0, none⟩) na ca) na xs) (hn : ov.ownBlock ≠ some ga) (hg : w.grownBy w' ov.ownBlock) (hat : ov.ownBlock = some go ∨ w.heap.size ≤ go) :
    w'.ownsRow B 3 1 (.slice (some ⟨ga, 0, none⟩) na ca) na xs ∧ OwnT w' B 3 T ∧ (∀ x ∈ T, x.2.1.ownBlock ≠ some go) ∧ go ≠ ga := by
  obtain ⟨a1, a2, a3⟩ := h0.apart
  have a4 : ApartV ov (.slice (some ⟨ga, 0, none⟩) na ca) := fun k h1 h2 => hn (by rw [h1]; simpa [Value.ownBlock] using h2.symm)
  refine ⟨kept_apart ha a4 hg, fun x hx => kept_apart (hT x hx) (a2 x hx) hg, fun x hx => fresh_ne (hT x hx) (a2 x hx) hat, fun e => ?_⟩
  exact fresh_ne ha a4 hat (by rw [e]; rfl)
theorem split_len {V : Nat → Int} {gg : Nat → Int} : ∀ k, (splitP V gg k).length ≤ k
  | 0 => Nat.le_refl _
  | k + 1 => by
    have h : ∀ v t (L : List (Int × List Int)), (insP v t L).length ≤ L.length + 1 := fun v t L => by
      induction L with
      | nil => simp [insP]
      | cons y L ih => unfold insP; split <;> (try split) <;> simp <;> omega
    have := h (V (gg k).toNat) (gg k) (splitP V gg k)
    have := split_len (V := V) (gg := gg) k
    show (insP _ _ _).length ≤ _
    omega
theorem split_lens {V : Nat → Int} {gg : Nat → Int} : ∀ k x, x ∈ splitP V gg k → x.2.length ≤ k
  | 0 => fun x hx => by simp [splitP] at hx
  | k + 1 => by
    have h : ∀ v t m (L : List (Int × List Int)), (∀ x ∈ L, x.2.length ≤ m) → ∀ x ∈ insP v t L, x.2.length ≤ m + 1 := fun v t m L => by
      induction L with
      | nil => intro _ x hx; simp [insP] at hx; subst hx; simp
      | cons y L ih =>
        intro h x hx
        have h0 := h y (List.mem_cons_self ..)
        have h1 := fun z hz => h z (List.mem_cons_of_mem y hz)
        unfold insP at hx
        split at hx
        · rcases List.mem_cons.1 hx with rfl | hx
          · exact Nat.le_succ_of_le h0
          · exact ih h1 x hx
        · split at hx
          · rcases List.mem_cons.1 hx with rfl | hx
            · simp; exact h0
            · exact Nat.le_succ_of_le (h1 x hx)
          · rcases List.mem_cons.1 hx with rfl | hx
            · simp
            · rcases List.mem_cons.1 hx with rfl | hx
              · exact Nat.le_succ_of_le h0
              · exact Nat.le_succ_of_le (h1 x hx)
    exact h _ _ k _ (split_lens k)
def datT (T : List (Int × Value × List Int)) : List (Int × List Int) := T.map fun x => (x.1, x.2.2)
theorem datT_lead (v : Int) (T : List (Int × Value × List Int)) : leadV Prod.fst v (datT T) = leadV Prod.fst v T := by
  induction T with
  | nil => rfl
  | cons y T ih =>
    show leadV Prod.fst v ((y.1, y.2.2) :: datT T) = _
    unfold leadV
    rw [ih]
theorem datT_get {T : List (Int × Value × List Int)} {j : Nat} {x : Int × Value × List Int} (h : T[j]? = some x) : (datT T)[j]? = some (x.1, x.2.2) := by
  unfold datT; rw [List.getElem?_map, h]; rfl
theorem datT_some {T : List (Int × Value × List Int)} {j : Nat} {x : Int × List Int} (h : (datT T)[j]? = some x) : ∃ iv, T[j]? = some (x.1, iv, x.2) := by
  unfold datT at h
  rw [List.getElem?_map] at h
  cases hT : T[j]? with
  | none => rw [hT] at h; cases h
  | some y => rw [hT] at h; simp only [Option.map_some, Option.some.injEq] at h; subst h; exact ⟨y.2.1, rfl⟩
theorem datT_set (T : List (Int × Value × List Int)) (j : Nat) (v : Int) (iv : Value) (p : List Int) : datT (T.set j (v, iv, p)) = (datT T).set j (v, p) := by
  unfold datT; rw [List.map_set]
theorem datT_gap (T : List (Int × Value × List Int)) (j : Nat) (v : Int) (iv : Value) (p : List Int) : datT (gapA T j (v, iv, p)) = gapA (datT T) j (v, p) := by
  unfold datT; rw [gapA_map]
theorem ints_at {w : World} {B n : Nat} {v : Value} {L : List Int} {j : Nat} {x : Int} (h : w.ownsRow B 3 1 v n (L.map (Value.int .i64))) (hj : L[j]? = some x) :
    ∃ g c, v = .slice (some ⟨g, 0, none⟩) n c ∧ n ≤ c ∧ j < n ∧ w.cell? ⟨g, j, none⟩ = some (.int .i64 x) := by
  have hl := h.1
  have hjl : j < L.length := (List.getElem?_eq_some_iff.1 hj).1
  simp at hl
  rcases h.2 with ⟨_, h0⟩ | ⟨g, cap, cur, rfl, hb, hg, hnc, rest⟩
  · omega
  · refine ⟨g, cap, rfl, hnc, by omega, ?_⟩
    rw [h.cellAt j (by omega), List.getElem?_map, hj]
    rfl
theorem vals_at {w : World} {B n : Nat} {e : TypeId} {v : Value} {L : List Value} {j : Nat} {x : Value} (h : w.ownsRow B e 1 v n L) (hj : L[j]? = some x) :
    ∃ g c, v = .slice (some ⟨g, 0, none⟩) n c ∧ n ≤ c ∧ j < n ∧ w.cell? ⟨g, j, none⟩ = some x := by
  have hl := h.1
  have hjl : j < L.length := (List.getElem?_eq_some_iff.1 hj).1
  rcases h.2 with ⟨_, h0⟩ | ⟨g, cap, cur, rfl, hb, hg, hnc, rest⟩
  · omega
  · refine ⟨g, cap, rfl, hnc, by omega, ?_⟩
    rw [h.cellAt j (by omega), hj]
end Go.Proofs.YteciobkjfmddcaaGreatDoor
set_option linter.unusedVariables false
namespace Go.Proofs.YteciobkjfmddcaaGreatDoor
open Go.RowKit

theorem rankP_ind (b : BookD) {P : List Int → Nat → List (List Int) → Prop} (h0 : ∀ s, P [] s []) (h1 : ∀ G s, G ≠ [] → (G.length = 1 ∨ b.nl ≤ s) → P G s [G])
    (h2 : ∀ G s, G ≠ [] → G.length ≠ 1 → s < b.nl → (∀ p ∈ partsL b (b.l s) (getI G) G.length, P p (nextS b (partsL b (b.l s) (getI G) G.length).length s) (rankP b p (nextS b (partsL b (b.l s) (getI G) G.length).length s))) → P G s (rankP b G s)) : ∀ G s, P G s (rankP b G s) := by
  have H : ∀ m G s, rankM b.nl G.length s < m → P G s (rankP b G s) := by
    intro m
    induction m with
    | zero => intro G s h; exact absurd h (Nat.not_lt_zero _)
    | succ m ih =>
      intro G s h
      by_cases hG : G = []
      · subst hG; rw [rankP_nil]; exact h0 s
      by_cases hs : G.length = 1 ∨ b.nl ≤ s
      · rw [rankP_one b hG hs]; exact h1 G s hG hs
      · exact h2 G s hG (by omega) (by omega) fun p hp => ih p _ (by have := rankM_lt (b := b) (G := G) (s := s) (by omega) hp; omega)
  exact fun G s => H _ G s (Nat.lt_succ_self _)
theorem parts_sum (b : BookD) (key : Int) (gg : Nat → Int) (n : Nat) : ((partsL b key gg n).map List.length).sum = n := by
  have h := splitP_sum (bookV b key gg n) gg n
  unfold lenS at h
  unfold partsL
  rw [List.map_map]
  exact h
theorem flat_le {f g : List Int → Nat} : ∀ (L : List (List Int)), (∀ p ∈ L, f p ≤ g p) → (L.map f).sum ≤ (L.map g).sum
  | [], _ => Nat.le_refl _
  | p :: L, h => by
    have h1 := flat_le (f := f) (g := g) L fun q hq => h q (List.mem_cons_of_mem _ hq)
    have h2 := h p (List.mem_cons_self ..)
    simp only [List.map_cons, List.sum_cons]
    omega
theorem rankP_len (b : BookD) : ∀ G s, (rankP b G s).length ≤ G.length := by
  refine rankP_ind b (P := fun G _ L => L.length ≤ G.length) (fun s => by simp) (fun G s hG _ => ?_) fun G s hG h1 hs ih => ?_
  · have := List.length_pos_iff.2 hG
    simp; omega
  · show (rankP b G s).length ≤ G.length
    rw [rankP_step b hG h1 hs, List.length_flatMap]
    refine Nat.le_trans (flat_le (g := List.length) _ fun p hp => ih p hp) ?_
    rw [parts_sum]
    exact Nat.le_refl _
theorem take_flat {α β : Type} (f : α → List β) (L : List α) (k : Nat) : ((L.take k).flatMap f).length ≤ (L.flatMap f).length := by
  conv => rhs; rw [← List.take_append_drop k L, List.flatMap_append, List.length_append]
  omega
theorem take_flat_succ {α β : Type} (f : α → List β) (L : List α) (k : Nat) {x : α} (h : L[k]? = some x) : (L.take (k + 1)).flatMap f = (L.take k).flatMap f ++ f x := by
  obtain ⟨hk, rfl⟩ := List.getElem?_eq_some_iff.1 h
  rw [← List.take_append_getElem hk, List.flatMap_append]
  simp
theorem getI_range (G : List Int) : ((List.range G.length).map fun j => Value.int .i64 (getI G j)) = G.map (Value.int .i64) := by
  apply List.ext_getElem?
  intro j
  rw [List.getElem?_map, List.getElem?_map]
  by_cases hj : j < G.length
  · rw [List.getElem?_range hj, List.getElem?_eq_getElem hj]
    simp [getI, hj]
  · rw [List.getElem?_eq_none (by simp; omega), List.getElem?_eq_none (by omega)]
    rfl
theorem LL.rec {w : World} {B : Nat} {v : Value} {T : List (Value × List Int)} (h : LL w B v T) (hn : T.length ≤ 9223372036854775807) :
    ∃ g, RecRow 1 w v T.length g ∧ (∀ i, i < T.length → (g i).length = 1) ∧ (∀ i, i < T.length → ∀ u ∈ g i, u.oneCell' = true) ∧ flatR g T.length = T.map Prod.fst := by
  refine ⟨fun i => [(T.map Prod.fst).getD i undef], RecRow.of_owns h.1 hn (fun i hi j u hu => ?_) (fun _ _ => by simp), fun _ _ => by simp, fun i hi u hu => ?_, ?_⟩
  · cases j with
    | zero =>
      simp only [List.getElem?_cons_zero, Option.some.injEq] at hu
      subst hu
      rw [Nat.mul_one, Nat.add_zero, List.getD_eq_getElem?_getD, List.getElem?_eq_getElem (by simpa using hi)]
      rfl
    | succ j => simp at hu
  · rw [List.mem_singleton.1 hu, List.getD_eq_getElem?_getD, List.getElem?_eq_getElem (by simpa using hi)]
    simp only [List.getElem_map, Option.getD_some]
    exact one_of_slice (h.2.1 _ (List.getElem_mem hi))
  · unfold flatR
    apply List.ext_getElem?
    intro j
    have e : ∀ n, (List.range n).flatMap (fun i => [(T.map Prod.fst).getD i undef]) = (List.range n).map fun i => (T.map Prod.fst).getD i undef := fun n => by
      induction n with
      | zero => rfl
      | succ n ih => rw [List.range_succ, List.flatMap_append, List.map_append, ih]; simp
    rw [e, List.getElem?_map]
    by_cases hj : j < T.length
    · rw [List.getElem?_range hj]
      simp [hj]
    · rw [List.getElem?_eq_none (by simp; omega), List.getElem?_eq_none (by simp; omega)]
      rfl
theorem LL.nil {w : World} : LL (w.alloc (.cells #[] 24)) w.heap.size (.slice (some ⟨w.heap.size, 0, none⟩) 0 0) [] :=
  ⟨World.ownsRow_lit (e := 24) (size := 1) w #[] 0 (Nat.le_refl _) (by decide) rfl, ⟨(fun x hx => by cases hx), (by unfold ApartL; simp)⟩⟩
theorem LL.one {w : World} {B : Nat} {v : Value} {G : List Int} (h : w.ownsRow B 3 1 v G.length (G.map (Value.int .i64))) (hB : B ≤ w.heap.size) : LL (w.alloc (.cells #[v] 24)) B (.slice (some ⟨w.heap.size, 0, none⟩) 1 1) [(v, G)] := by
  refine ⟨owns_mono (World.ownsRow_lit (e := 24) (size := 1) w #[v] 1 (Nat.le_refl _) (by decide) rfl) hB, fun x hx => ?_, ?_⟩
  · rw [List.mem_singleton.1 hx]
    exact h.alloc _
  · refine List.pairwise_cons.2 ⟨fun z hz => ?_, by simp⟩
    rw [List.mem_singleton.1 hz]
    intro k h1 h2
    have := (h.lt k h2).2
    have h3 : w.heap.size = k := by simpa [Value.ownBlock] using h1
    omega
end Go.Proofs.YteciobkjfmddcaaGreatDoor
set_option linter.unusedVariables false
namespace Go.Proofs.YteciobkjfmddcaaGreatDoor
open Go.RowKit

theorem insP_perm (v t : Int) : ∀ L : List (Int × List Int), ((insP v t L).flatMap Prod.snd).Perm (t :: L.flatMap Prod.snd)
  | [] => by simp [insP]
  | (u, p) :: r => by
    unfold insP
    split
    · simp only [List.flatMap_cons]
      exact ((insP_perm v t r).append_left p).trans List.perm_middle
    · split
      · simp only [List.flatMap_cons]
        rw [List.append_assoc]
        exact List.perm_middle
      · simp
theorem splitP_perm (V gg : Nat → Int) : ∀ k, ((splitP V gg k).flatMap Prod.snd).Perm ((List.range k).map gg)
  | 0 => by simp [splitP]
  | k + 1 => by
    unfold splitP
    rw [List.range_succ, List.map_append]
    exact (insP_perm _ _ _).trans (((splitP_perm V gg k).cons _).trans (List.perm_append_singleton _ _).symm)
theorem range_getI (G : List Int) : (List.range G.length).map (getI G) = G := by
  apply List.ext_getElem?
  intro j
  rw [List.getElem?_map]
  by_cases hj : j < G.length
  · rw [List.getElem?_range hj]; simp [getI, hj]
  · rw [List.getElem?_eq_none (by simp; omega), List.getElem?_eq_none (by omega)]; rfl
theorem parts_perm (b : BookD) (key : Int) (G : List Int) : (partsL b key (getI G) G.length).flatten.Perm G := by
  have h := splitP_perm (bookV b key (getI G) G.length) (getI G) G.length
  rw [range_getI] at h
  unfold partsL
  rw [← List.flatMap_def]
  exact h
theorem insP_val {V : Nat → Int} {v t : Int} (ht : V t.toNat = v) : ∀ L : List (Int × List Int), (∀ x ∈ L, ∀ u ∈ x.2, V u.toNat = x.1) → ∀ x ∈ insP v t L, ∀ u ∈ x.2, V u.toNat = x.1
  | [], _, x, hx, u, hu => by
    unfold insP at hx
    rw [List.mem_singleton.1 hx] at hu ⊢
    rw [List.mem_singleton.1 hu]; exact ht
  | (q, p) :: r, h, x, hx, u, hu => by
    have hr : ∀ x ∈ r, ∀ u ∈ x.2, V u.toNat = x.1 := fun x hx => h x (List.mem_cons_of_mem _ hx)
    have h0 := h (q, p) (List.mem_cons_self ..)
    unfold insP at hx
    split at hx
    · rcases List.mem_cons.1 hx with rfl | hx
      · exact h0 u hu
      · exact insP_val ht r hr x hx u hu
    · split at hx
      · next hq =>
        rcases List.mem_cons.1 hx with rfl | hx
        · rcases List.mem_append.1 hu with hu | hu
          · exact h0 u hu
          · rw [List.mem_singleton.1 hu, ht]; exact hq.symm
        · exact hr x hx u hu
      · rcases List.mem_cons.1 hx with rfl | hx
        · rw [List.mem_singleton.1 hu]; exact ht
        · exact h x hx u hu
theorem splitP_val (V gg : Nat → Int) : ∀ k, ∀ x ∈ splitP V gg k, ∀ u ∈ x.2, V u.toNat = x.1
  | 0, x, hx => by cases hx
  | k + 1, x, hx => insP_val rfl _ (splitP_val V gg k) x hx
theorem insP_fst {v t : Int} : ∀ L : List (Int × List Int), ∀ x ∈ insP v t L, x.1 = v ∨ ∃ y ∈ L, y.1 = x.1
  | [], x, hx => by unfold insP at hx; rw [List.mem_singleton.1 hx]; exact .inl rfl
  | (q, p) :: r, x, hx => by
    unfold insP at hx
    split at hx
    · rcases List.mem_cons.1 hx with rfl | hx
      · exact .inr ⟨_, List.mem_cons_self .., rfl⟩
      · rcases insP_fst r x hx with h | ⟨y, hy, h⟩
        · exact .inl h
        · exact .inr ⟨y, List.mem_cons_of_mem _ hy, h⟩
    · split at hx
      · rcases List.mem_cons.1 hx with rfl | hx
        · exact .inr ⟨_, List.mem_cons_self .., rfl⟩
        · exact .inr ⟨x, List.mem_cons_of_mem _ hx, rfl⟩
      · rcases List.mem_cons.1 hx with rfl | hx
        · exact .inl rfl
        · exact .inr ⟨x, hx, rfl⟩
theorem insP_desc {v t : Int} : ∀ L : List (Int × List Int), L.Pairwise (fun a b => b.1 < a.1) → (insP v t L).Pairwise (fun a b => b.1 < a.1)
  | [], _ => by simp [insP]
  | (q, p) :: r, h => by
    have h1 := List.pairwise_cons.1 h
    unfold insP
    split
    · next hv =>
      refine List.pairwise_cons.2 ⟨fun x hx => ?_, insP_desc r h1.2⟩
      rcases insP_fst r x hx with e | ⟨y, hy, e⟩
      · rw [e]; exact hv
      · rw [← e]; exact h1.1 y hy
    · split
      · exact List.pairwise_cons.2 ⟨h1.1, h1.2⟩
      · next hv hq =>
        refine List.pairwise_cons.2 ⟨fun x hx => ?_, h⟩
        rcases List.mem_cons.1 hx with rfl | hx
        · show q < v; omega
        · have := h1.1 x hx
          show x.1 < v
          have h3 : x.1 < q := this
          omega
theorem splitP_desc (V gg : Nat → Int) : ∀ k, (splitP V gg k).Pairwise (fun a b => b.1 < a.1)
  | 0 => List.Pairwise.nil
  | k + 1 => insP_desc _ (splitP_desc V gg k)
theorem flat_flat {α β : Type} (f : α → List (List β)) : ∀ L : List α, (L.flatMap f).flatten = L.flatMap fun x => (f x).flatten
  | [] => rfl
  | x :: L => by rw [List.flatMap_cons, List.flatten_append, List.flatMap_cons, flat_flat f L]
theorem flat_perm {f : List Int → List Int} : ∀ L : List (List Int), (∀ p ∈ L, (f p).Perm p) → (L.flatMap f).Perm L.flatten
  | [], _ => List.Perm.refl _
  | p :: L, h => by
    rw [List.flatMap_cons, List.flatten_cons]
    exact (h p (List.mem_cons_self ..)).append (flat_perm L fun q hq => h q (List.mem_cons_of_mem _ hq))
theorem rank_perm (b : BookD) : ∀ G s, (rankP b G s).flatten.Perm G := by
  refine rankP_ind b (P := fun G _ L => L.flatten.Perm G) (fun s => by simp) (fun G s _ _ => by simp) fun G s hG h1 hs ih => ?_
  show (rankP b G s).flatten.Perm G
  rw [rankP_step b hG h1 hs, flat_flat]
  exact (flat_perm _ fun p hp => ih p hp).trans (parts_perm b _ G)
def seedI (b : BookD) : Prop := ∀ i j, i < b.nf → j < b.nf → ∀ gg n, bookV b 8 gg n i = bookV b 8 gg n j → i = j
theorem same_one {p : List Int} {V : Nat → Int} {v : Int} {n : Nat} (hne : p ≠ []) (hnd : p.Nodup) (hv : ∀ u ∈ p, V u.toNat = v) (hin : ∀ u ∈ p, 0 ≤ u ∧ u < (n : Int)) (hV : ∀ i j, i < n → j < n → V i = V j → i = j) : p.length = 1 := by
  match p, hne, hnd, hv, hin with
  | [], h, _, _, _ => exact absurd rfl h
  | [x], _, _, _, _ => rfl
  | x :: y :: r, _, hnd, hv, hin =>
    have hx := hin x (List.mem_cons_self ..)
    have hy := hin y (List.mem_cons_of_mem _ (List.mem_cons_self ..))
    have e := hV x.toNat y.toNat (by omega) (by omega) ((hv x (List.mem_cons_self ..)).trans (hv y (List.mem_cons_of_mem _ (List.mem_cons_self ..))).symm)
    have : x = y := by omega
    subst this
    simp at hnd
theorem parts_in {b : BookD} {key : Int} {G p : List Int} (hp : p ∈ partsL b key (getI G) G.length) : ∀ u ∈ p, u ∈ G := fun u hu => by
  have h := parts_perm b key G
  exact h.mem_iff.1 (List.mem_flatten.2 ⟨p, hp, hu⟩)
theorem parts_nodup {b : BookD} {key : Int} {G p : List Int} (hG : G.Nodup) (hp : p ∈ partsL b key (getI G) G.length) : p.Nodup := by
  have h := (parts_perm b key G).nodup_iff.2 hG
  exact (List.pairwise_flatten.1 h).1 p hp
theorem rank_ones (b : BookD) (hsd : seedI b) : ∀ G s, G.Nodup → (∀ u ∈ G, 0 ≤ u ∧ u < (b.nf : Int)) → (∃ j, s ≤ j ∧ j < b.nl ∧ b.l j = 8) → ∀ p ∈ rankP b G s, p.length = 1 := by
  refine rankP_ind b (P := fun G s L => G.Nodup → (∀ u ∈ G, 0 ≤ u ∧ u < (b.nf : Int)) → (∃ j, s ≤ j ∧ j < b.nl ∧ b.l j = 8) → ∀ p ∈ L, p.length = 1) (fun s _ _ _ p hp => by cases hp) (fun G s hG h1 _ _ hj p hp => ?_) fun G s hG h1 hs ih hnd hin hj => ?_
  · obtain ⟨j, hj1, hj2, _⟩ := hj
    rw [List.mem_singleton.1 hp]
    rcases h1 with h1 | h1
    · exact h1
    · omega
  · show ∀ p ∈ rankP b G s, p.length = 1
    rw [rankP_step b hG h1 hs]
    intro q hq
    obtain ⟨p, hp, hqp⟩ := List.mem_flatMap.1 hq
    have hpn := parts_nodup hnd hp
    have hpi : ∀ u ∈ p, 0 ≤ u ∧ u < (b.nf : Int) := fun u hu => hin u (parts_in hp u hu)
    by_cases h8 : b.l s = 8
    · have hp1 : p.length = 1 := by
        obtain ⟨x, hx, rfl⟩ := List.mem_map.1 hp
        rw [h8] at hx
        exact same_one (partsL_ne hp) hpn (splitP_val _ _ _ x hx) hpi fun i j hi hj => hsd i j hi hj _ _
      rw [rankP_one b (partsL_ne hp) (.inl hp1)] at hqp
      rw [List.mem_singleton.1 hqp]; exact hp1
    · refine ih p hp hpn hpi ?_ q hqp
      obtain ⟨j, hj1, hj2, hj3⟩ := hj
      refine ⟨j, ?_, hj2, hj3⟩
      unfold nextS
      split
      · exact Nat.zero_le _
      · rcases Nat.lt_or_ge s j with h | h
        · exact h
        · have : s = j := by omega
          subst this
          exact absurd hj3 h8
theorem flat_desc {V : Nat → Int} {f : List Int → List Int} : ∀ L : List (Int × List Int), L.Pairwise (fun a b => b.1 < a.1) → (∀ x ∈ L, ∀ u ∈ f x.2, V u.toNat = x.1) → (L.flatMap fun x => f x.2).Pairwise (fun a b => V b.toNat ≤ V a.toNat)
  | [], _, _ => List.Pairwise.nil
  | x :: L, h, hv => by
    have h1 := List.pairwise_cons.1 h
    rw [List.flatMap_cons]
    refine List.pairwise_append.2 ⟨?_, flat_desc L h1.2 fun y hy => hv y (List.mem_cons_of_mem _ hy), fun a ha c hc => ?_⟩
    · have hx := hv x (List.mem_cons_self ..)
      refine List.Pairwise.imp_of_mem (R := fun _ _ => True) (fun ha hb _ => ?_) (List.pairwise_of_forall fun _ _ => trivial)
      rw [hx _ ha, hx _ hb]
      exact Int.le_refl _
    · obtain ⟨y, hy, hcy⟩ := List.mem_flatMap.1 hc
      rw [hv x (List.mem_cons_self ..) a ha, hv y (List.mem_cons_of_mem _ hy) c hcy]
      exact Int.le_of_lt (h1.1 y hy)
theorem rank_desc (b : BookD) (G : List Int) (h0 : 0 < b.nl) : (rankP b G 0).flatten.Pairwise fun x y => bookV b (b.l 0) (getI G) G.length y.toNat ≤ bookV b (b.l 0) (getI G) G.length x.toNat := by
  by_cases hG : G = []
  · subst hG; rw [rankP_nil]; exact List.Pairwise.nil
  by_cases h1 : G.length = 1
  · rw [rankP_one b hG (.inl h1)]
    obtain ⟨x, rfl⟩ := List.length_eq_one_iff.1 h1
    simp
  · rw [rankP_step b hG h1 h0, flat_flat]
    generalize hn : nextS b (partsL b (b.l 0) (getI G) G.length).length 0 = nx
    unfold partsL
    rw [List.flatMap_map]
    refine flat_desc (f := fun p => (rankP b p nx).flatten) _ (splitP_desc _ _ _) fun x hx u hu => ?_
    exact splitP_val _ _ _ x hx u ((rank_perm b x.2 nx).mem_iff.1 hu)
def rankAt (t : Int) : List (List Int) → Nat → Int
  | [], _ => 0
  | p :: L, n => if t ∈ p then n else rankAt t L (n + p.length)
theorem rankAt_ones {t : Int} : ∀ (L : List (List Int)) (i n : Nat), (∀ p ∈ L, p.length = 1) → L.flatten.Nodup → L.flatten[i]? = some t → rankAt t L n = ((n + i : Nat) : Int)
  | [], i, n, _, _, h => by simp at h
  | p :: L, i, n, h1, hnd, h => by
    obtain ⟨x, rfl⟩ := List.length_eq_one_iff.1 (h1 p (List.mem_cons_self ..))
    unfold rankAt
    rw [List.flatten_cons] at h hnd
    cases i with
    | zero =>
      simp at h
      subst h
      simp
    | succ i =>
      have h2 : L.flatten[i]? = some t := by simpa using h
      have hm := List.mem_of_getElem? h2
      have hx : t ∉ [x] := fun e => by
        rw [List.mem_singleton.1 e] at hm
        simp at hnd
        exact absurd hm (by simpa using hnd.1)
      rw [if_neg hx, rankAt_ones L i _ (fun q hq => h1 q (List.mem_cons_of_mem _ hq)) (by simp at hnd; exact hnd.2) h2]
      show (((n + [x].length + i : Nat)) : Int) = _
      simp
      omega
end Go.Proofs.YteciobkjfmddcaaGreatDoor
set_option linter.unusedVariables false
namespace Go.Proofs.YteciobkjfmddcaaGreatDoor
open Go.RowKit

structure SepD where
  key : Int
  grp : List Int
  part : List Int
theorem insP_one (v t : Int) : ∀ (L : List (Int × List Int)) (x : Int × List Int), insP v t L = [x] → (L = [] ∧ x = (v, [t])) ∨ ∃ p, L = [(v, p)] ∧ x = (v, p ++ [t])
  | [], x, h => .inl ⟨rfl, by unfold insP at h; simpa using h.symm⟩
  | (u, p) :: r, x, h => by
    unfold insP at h
    split at h
    · have h2 : insP v t r = [] := (List.cons.inj h).2
      have := insP_sum v t r
      rw [h2] at this
      unfold lenS at this; simp at this
    · split at h
      · rename_i e
        subst e
        obtain ⟨h1, h2⟩ := List.cons.inj h
        subst h2
        exact .inr ⟨p, rfl, h1.symm⟩
      · have := (List.cons.inj h).2; cases this
theorem splitP_one (V gg : Nat → Int) : ∀ (k : Nat) (x : Int × List Int), splitP V gg k = [x] → x.2 = (List.range k).map gg
  | 0, x, h => by cases h
  | k + 1, x, h => by
    rw [splitP] at h
    rcases insP_one _ _ _ _ h with ⟨h1, rfl⟩ | ⟨p, h1, rfl⟩
    · have h2 := splitP_sum V gg k
      rw [h1] at h2
      have h3 : k = 0 := by unfold lenS at h2; simpa using h2.symm
      subst h3
      rfl
    · have ih := splitP_one V gg k _ h1
      rw [List.range_succ, List.map_append]
      show p ++ [gg k] = _
      rw [← ih]
      rfl
theorem partsL_one {b : BookD} {key : Int} {G p : List Int} (h : partsL b key (getI G) G.length = [p]) : p = G := by
  unfold partsL at h
  obtain ⟨x, hx, rfl⟩ : ∃ x, splitP (bookV b key (getI G) G.length) (getI G) G.length = [x] ∧ x.2 = p := by
    cases hs : splitP (bookV b key (getI G) G.length) (getI G) G.length with
    | nil => rw [hs] at h; cases h
    | cons a r =>
      rw [hs] at h
      cases r with
      | nil => exact ⟨a, rfl, by simpa using h⟩
      | cons _ _ => simp at h
  rw [splitP_one _ _ _ _ hx]
  exact range_getI G
theorem part_whole {b : BookD} {key : Int} {G p : List Int} (hp : p ∈ partsL b key (getI G) G.length) : p.length = G.length ↔ (partsL b key (getI G) G.length).length = 1 := by
  constructor
  · intro h
    by_cases h1 : 1 < (partsL b key (getI G) G.length).length
    · have := partsL_lt hp h1; omega
    · have := List.length_pos_of_mem hp; omega
  · intro h
    have h2 := parts_perm b key G
    obtain ⟨q, hq⟩ := List.length_eq_one_iff.1 h
    rw [hq] at hp h2
    have h3 : p = q := by simpa using hp
    subst h3
    have := h2.length_eq
    simpa using this
theorem part_has {b : BookD} {key : Int} {G : List Int} {t : Int} (ht : t ∈ G) : ∃ p, partO t (partsL b key (getI G) G.length) = some p := by
  have h1 := (parts_perm b key G).mem_iff.2 ht
  obtain ⟨p, hp, htp⟩ := List.mem_flatten.1 h1
  unfold partO hitL
  cases h : (partsL b key (getI G) G.length).find? fun p => decide (t ∈ p ∨ t ∈ p) with
  | some q => exact ⟨q, rfl⟩
  | none =>
    rw [List.find?_eq_none] at h
    have := h p hp
    simp [htp] at this
theorem part_mem {t : Int} {L : List (List Int)} {p : List Int} (h : partO t L = some p) : t ∈ p := (hit_has h).elim id id
def sepF (b : BookD) (t : Int) : Nat → List Int → Nat → List SepD
  | 0, _, _ => []
  | f + 1, G, s => if G.length < 2 ∨ b.nl ≤ s then [] else
      match partO t (partsL b (b.l s) (getI G) G.length) with
      | none => []
      | some p => if p.length = G.length then sepF b t f G (s + 1)
          else ⟨b.l s, G, p⟩ :: sepF b t f p (nextS b (partsL b (b.l s) (getI G) G.length).length s)
theorem sepF_fuel (b : BookD) (t : Int) : ∀ f f' G s, rankM b.nl G.length s < f → rankM b.nl G.length s < f' → sepF b t f G s = sepF b t f' G s
  | 0, _, _, _, h, _ => absurd h (Nat.not_lt_zero _)
  | _ + 1, 0, _, _, _, h => absurd h (Nat.not_lt_zero _)
  | f + 1, f' + 1, G, s, h, h' => by
    unfold sepF
    by_cases hs : G.length < 2 ∨ b.nl ≤ s
    · rw [if_pos hs, if_pos hs]
    · rw [if_neg hs, if_neg hs]
      cases hp : partO t (partsL b (b.l s) (getI G) G.length) with
      | none => rfl
      | some p =>
        have h8 := stepM_lt (nl := b.nl) (n := G.length) (s := s) (by omega)
        have h9 := rankM_lt (b := b) (s := s) (by omega) (hit_mem hp)
        show (if _ then _ else _ :: sepF b t f p _) = (if _ then _ else _ :: sepF b t f' p _)
        rw [sepF_fuel b t f f' G (s + 1) (by omega) (by omega), sepF_fuel b t f f' p _ (by omega) (by omega)]
def sepP (b : BookD) (t : Int) (G : List Int) (s : Nat) : List SepD := sepF b t (rankM b.nl G.length s + 1) G s
theorem sepP_end (b : BookD) (t : Int) {G : List Int} {s : Nat} (h : G.length < 2 ∨ b.nl ≤ s) : sepP b t G s = [] := by
  unfold sepP sepF; rw [if_pos h]
theorem sepP_one (b : BookD) (t : Int) {G p : List Int} {s : Nat} (h1 : ¬ G.length < 2) (hs : s < b.nl) (hp : partO t (partsL b (b.l s) (getI G) G.length) = some p) (h : p.length = G.length) : sepP b t G s = sepP b t G (s + 1) := by
  unfold sepP
  conv => lhs; unfold sepF
  rw [if_neg (by omega), hp]
  show (if _ then _ else _) = _
  rw [if_pos h]
  exact sepF_fuel b t _ _ G _ (stepM_lt hs) (Nat.lt_succ_self _)
theorem sepP_on (b : BookD) (t : Int) {G p : List Int} {s : Nat} (h1 : ¬ G.length < 2) (hs : s < b.nl) (hp : partO t (partsL b (b.l s) (getI G) G.length) = some p) (h : p.length ≠ G.length) :
    sepP b t G s = ⟨b.l s, G, p⟩ :: sepP b t p (nextS b (partsL b (b.l s) (getI G) G.length).length s) := by
  unfold sepP
  conv => lhs; unfold sepF
  rw [if_neg (by omega), hp]
  show (if _ then _ else _) = _
  rw [if_neg h]
  exact congrArg (_ :: ·) (sepF_fuel b t _ _ p _ (rankM_lt hs (hit_mem hp)) (Nat.lt_succ_self _))
theorem sepP_ind (b : BookD) (t : Int) {P : List Int → Nat → List SepD → Prop} (h0 : ∀ G s, t ∈ G → (G.length < 2 ∨ b.nl ≤ s) → P G s [])
    (h1 : ∀ G s p, t ∈ G → ¬ G.length < 2 → s < b.nl → partO t (partsL b (b.l s) (getI G) G.length) = some p → p.length = G.length → P G (s + 1) (sepP b t G (s + 1)) → P G s (sepP b t G (s + 1)))
    (h2 : ∀ G s p, t ∈ G → ¬ G.length < 2 → s < b.nl → partO t (partsL b (b.l s) (getI G) G.length) = some p → p.length ≠ G.length → P p (nextS b (partsL b (b.l s) (getI G) G.length).length s) (sepP b t p (nextS b (partsL b (b.l s) (getI G) G.length).length s)) →
      P G s (⟨b.l s, G, p⟩ :: sepP b t p (nextS b (partsL b (b.l s) (getI G) G.length).length s))) : ∀ G s, t ∈ G → P G s (sepP b t G s) := by
  have H : ∀ m G s, rankM b.nl G.length s < m → t ∈ G → P G s (sepP b t G s) := by
    intro m
    induction m with
    | zero => intro G s h; exact absurd h (Nat.not_lt_zero _)
    | succ m ih =>
      intro G s h ht
      by_cases hs : G.length < 2 ∨ b.nl ≤ s
      · rw [sepP_end b t hs]; exact h0 G s ht hs
      have h8 := stepM_lt (nl := b.nl) (n := G.length) (s := s) (by omega)
      obtain ⟨p, hp⟩ := part_has (b := b) (key := b.l s) ht
      have h9 := rankM_lt (b := b) (s := s) (by omega) (hit_mem hp)
      by_cases hw : p.length = G.length
      · rw [sepP_one b t (by omega) (by omega) hp hw]
        exact h1 G s p ht (by omega) (by omega) hp hw (ih G (s + 1) (by omega) ht)
      · rw [sepP_on b t (by omega) (by omega) hp hw]
        exact h2 G s p ht (by omega) (by omega) hp hw (ih p _ (by omega) (part_mem hp))
  exact fun G s ht => H _ G s (Nat.lt_succ_self _) ht
theorem sep_steps (b : BookD) (t : Int) : ∀ G s, t ∈ G → (sepP b t G s).map SepD.key = stepP b t G s := by
  refine sepP_ind b t (P := fun G s L => L.map SepD.key = stepP b t G s) (fun G s ht h => ?_) (fun G s p ht h1 hs hp hw ih => ?_) (fun G s p ht h1 hs hp hw ih => ?_)
  · rw [stepP_end b t h]; rfl
  · rw [stepP_one b t h1 hs ((part_whole (hit_mem hp)).1 hw)]; exact ih
  · rw [stepP_on b h1 hs (fun e => hw ((part_whole (hit_mem hp)).2 e)) hp, List.map_cons, ih]
def leaveL (y : Int) (L : List SepD) : Option SepD := L.find? fun d => decide (¬ y ∈ d.part)
theorem leaveL_some {y : Int} {L : List SepD} {d : SepD} (h : leaveL y L = some d) : ¬ y ∈ d.part ∧ d ∈ L := by
  unfold leaveL at h
  have := List.find?_some h
  exact ⟨by simpa using this, List.mem_of_find?_eq_some h⟩
theorem leaveL_at {y : Int} {pre : List SepD} {d : SepD} {rest : List SepD} (hp : ∀ q ∈ pre, y ∈ q.part) (hd : ¬ y ∈ d.part) : leaveL y (pre ++ d :: rest) = some d := by
  unfold leaveL
  rw [List.find?_append, List.find?_eq_none.2 (fun q hq => by simp [hp q hq])]
  simp [hd]
theorem leaveL_none {y : Int} {L : List SepD} (hp : ∀ q ∈ L, y ∈ q.part) : leaveL y L = none := by
  unfold leaveL
  rw [List.find?_eq_none]
  intro q hq; simp [hp q hq]
def rsnOf (b : BookD) (x y : Int) (d : SepD) : RsnD := ⟨d.key, d.grp, bookV b d.key (getI d.grp) d.grp.length x.toNat, bookV b d.key (getI d.grp) d.grp.length y.toNat⟩
theorem parts_disjoint {b : BookD} {key : Int} {G : List Int} (hG : G.Nodup) {p q : List Int} {u : Int} (hp : p ∈ partsL b key (getI G) G.length) (hq : q ∈ partsL b key (getI G) G.length) (h1 : u ∈ p) (h2 : u ∈ q) : p = q := by
  have hn : (partsL b key (getI G) G.length).flatten.Nodup := (parts_perm b key G).nodup_iff.2 hG
  have hd := (List.pairwise_flatten.1 hn).2
  obtain ⟨i, hi, rfl⟩ := List.getElem_of_mem hp
  obtain ⟨j, hj, rfl⟩ := List.getElem_of_mem hq
  rw [List.pairwise_iff_getElem] at hd
  rcases Nat.lt_trichotomy i j with h | h | h
  · exact absurd rfl (hd i j hi hj h u h1 u h2)
  · subst h; rfl
  · exact absurd rfl (hd j i hj hi h u h2 u h1)
theorem sep_find (b : BookD) (x y : Int) : ∀ G s, x ∈ G → (y ∈ G → G.Nodup → (leaveL y (sepP b x G s)).map (rsnOf b x y) = if x = y then none else findP b x y G s) := by
  refine sepP_ind b x (P := fun G s L => y ∈ G → G.Nodup → (leaveL y L).map (rsnOf b x y) = if x = y then none else findP b x y G s) (fun G s hx h hy hn => ?_) (fun G s p hx h1 hs hp hw ih hy hn => ?_) (fun G s p hx h1 hs hp hw ih hy hn => ?_)
  · show none = _
    by_cases hxy : x = y
    · rw [if_pos hxy]
    · rw [if_neg hxy]
      rcases h with h | h
      · exact absurd h (by
          obtain ⟨i, hi, ei⟩ := List.getElem_of_mem hx
          obtain ⟨j, hj, ej⟩ := List.getElem_of_mem hy
          intro hl
          have : i = j := by omega
          subst this
          exact hxy (ei.symm.trans ej))
      · rw [findP_end b x y h]
  · rw [ih hy hn]
    by_cases hxy : x = y
    · rw [if_pos hxy, if_pos hxy]
    · rw [if_neg hxy, if_neg hxy]
      have hl := (part_whole (hit_mem hp)).1 hw
      obtain ⟨q, hq⟩ := List.length_eq_one_iff.1 hl
      have hpq : p = q := by have := hit_mem hp; rw [hq] at this; simpa using this
      subst hpq
      have hperm := parts_perm b (b.l s) G
      rw [hq] at hperm
      have hpG : p.Perm G := by simpa using hperm
      have hyp : y ∈ p := hpG.mem_iff.2 hy
      have hxp : x ∈ p := part_mem hp
      have hh : hitL x y (partsL b (b.l s) (getI G) G.length) = some p := by rw [hq]; unfold hitL; simp [hxp]
      rw [findP_on b hs hh ⟨hxp, hyp⟩]
      have hnx : nextS b (partsL b (b.l s) (getI G) G.length).length s = s + 1 := by unfold nextS; rw [hl, if_neg (by omega)]
      rw [hnx]
      have hpe : p = G := by
        have e := partsL_one (b := b) (key := b.l s) (G := G) (p := p) hq
        exact e
      rw [hpe]
  · have hxp : x ∈ p := part_mem hp
    have hpm := hit_mem hp
    by_cases hyp : y ∈ p
    · have e : leaveL y (⟨b.l s, G, p⟩ :: sepP b x p (nextS b (partsL b (b.l s) (getI G) G.length).length s)) = leaveL y (sepP b x p (nextS b (partsL b (b.l s) (getI G) G.length).length s)) := by
        unfold leaveL; rw [List.find?_cons_of_neg (by simp [hyp])]
      rw [e, ih hyp (parts_nodup hn hpm)]
      by_cases hxy : x = y
      · rw [if_pos hxy, if_pos hxy]
      · rw [if_neg hxy, if_neg hxy]
        have hh : hitL x y (partsL b (b.l s) (getI G) G.length) = some p := by
          obtain ⟨r, hr⟩ : ∃ r, hitL x y (partsL b (b.l s) (getI G) G.length) = some r := by
            unfold hitL
            cases h : (partsL b (b.l s) (getI G) G.length).find? fun p => decide (x ∈ p ∨ y ∈ p) with
            | some q => exact ⟨q, rfl⟩
            | none => rw [List.find?_eq_none] at h; have := h p hpm; simp [hxp] at this
          rw [hr]
          rcases hit_has hr with h | h
          · rw [parts_disjoint hn (hit_mem hr) hpm h hxp]
          · rw [parts_disjoint hn (hit_mem hr) hpm h hyp]
        rw [findP_on b hs hh ⟨hxp, hyp⟩]
    · have e : leaveL y (⟨b.l s, G, p⟩ :: sepP b x p (nextS b (partsL b (b.l s) (getI G) G.length).length s)) = some ⟨b.l s, G, p⟩ := leaveL_at (pre := []) (fun _ h => by cases h) hyp
      rw [e]
      have hxy : x ≠ y := fun e => hyp (e ▸ hxp)
      rw [if_neg hxy]
      obtain ⟨r, hr⟩ : ∃ r, hitL x y (partsL b (b.l s) (getI G) G.length) = some r := by
        unfold hitL
        cases h : (partsL b (b.l s) (getI G) G.length).find? fun p => decide (x ∈ p ∨ y ∈ p) with
        | some q => exact ⟨q, rfl⟩
        | none => rw [List.find?_eq_none] at h; have := h p hpm; simp [hxp] at this
      have hnb : ¬ (x ∈ r ∧ y ∈ r) := fun h => hyp (parts_disjoint hn (hit_mem hr) hpm h.1 hxp ▸ h.2)
      rw [findP_here b hs hr hnb]
      rfl
theorem sep_in (b : BookD) (t : Int) : ∀ G s, t ∈ G → ∀ d ∈ sepP b t G s, (∀ u ∈ d.grp, u ∈ G) ∧ (∀ u ∈ d.part, u ∈ G) ∧ d.grp.length ≤ G.length ∧ d.part.length ≤ G.length ∧ ∃ j, j < b.nl ∧ d.key = b.l j := by
  refine sepP_ind b t (P := fun G s L => ∀ d ∈ L, (∀ u ∈ d.grp, u ∈ G) ∧ (∀ u ∈ d.part, u ∈ G) ∧ d.grp.length ≤ G.length ∧ d.part.length ≤ G.length ∧ ∃ j, j < b.nl ∧ d.key = b.l j) (fun _ _ _ _ d h => by cases h) (fun G s p ht h1 hs hp hw ih => ih) (fun G s p ht h1 hs hp hw ih d hd => ?_)
  have hpm := hit_mem hp
  rcases List.mem_cons.1 hd with rfl | hd
  · exact ⟨fun u h => h, parts_in hpm, Nat.le_refl _, partsL_le hpm, s, hs, rfl⟩
  · obtain ⟨a1, a2, a3, a4, a5⟩ := ih d hd
    have := partsL_le hpm
    exact ⟨fun u h => parts_in hpm u (a1 u h), fun u h => parts_in hpm u (a2 u h), by omega, by omega, a5⟩
end Go.Proofs.YteciobkjfmddcaaGreatDoor
set_option linter.unusedVariables false
namespace Go.Proofs.YteciobkjfmddcaaGreatDoor
open Go.RowKit

def IsRow (k : IntKind) (w : World) (a : Option Addr) (len cap : Nat) (zs : List Int) : Prop :=
  (a = none ∧ len = 0 ∧ cap = 0 ∧ zs = []) ∨
  ∃ x, a = some x ∧ len ≤ cap ∧ cap ≤ maxLen ∧ zs.length = cap ∧ (∀ i, i < zs.length → w.cell? (x.add i) = some (.int k (zs.getD i 0))) ∧ ∀ n ∈ zs, (Lit.int k n).wf = true
def ByteRow (w : World) (a : Option Addr) (len : Nat) (g : Nat → Nat) : Prop :=
  0 < len → ∃ b off, a = some ⟨b, off, none⟩ ∧ ∀ i, i < len → w.cell? ⟨b, off + i, none⟩ = some (.int .u8 (g i))
def getN (zs : List Int) (i : Nat) : Nat := (zs.getD i 0).toNat
theorem IsRow.bytes {w : World} {a : Option Addr} {len cap : Nat} {zs : List Int} (h : IsRow .u8 w a len cap zs) : ByteRow w a len (getN zs) ∧ (∀ i, getN zs i ≤ 255) ∧ len ≤ 9223372036854775807 := by
  rcases h with ⟨rfl, rfl, rfl, rfl⟩ | ⟨x, rfl, hl, hm, hz, hc, hw⟩
  · exact ⟨fun h => absurd h (by omega), fun i => by simp [getN], by omega⟩
  · have key : ∀ i, 0 ≤ zs.getD i 0 ∧ zs.getD i 0 ≤ 255 := by
      intro i
      by_cases hi : i < zs.length
      · have := hw zs[i] (List.getElem_mem hi)
        simp [Lit.wf, IntKind.min, IntKind.max, IntKind.signed, IntKind.bits] at this
        simp [List.getD, List.getElem?_eq_getElem hi]; omega
      · simp [List.getD, List.getElem?_eq_none (Nat.le_of_not_lt hi)]
    refine ⟨fun h0 => ?_, fun i => by have := key i; unfold getN; omega, by unfold maxLen at hm; omega⟩
    obtain ⟨b, off, spot⟩ := x
    have hc0 := hc 0 (by omega)
    have hspot : spot = none := by simpa [Addr.add] using World.cell?_spot hc0
    subst hspot
    refine ⟨b, off, rfl, fun i hi => ?_⟩
    have h1 := hc i (by omega)
    have hadd : (⟨b, off, none⟩ : Addr).add i = ⟨b, off + i, none⟩ := by unfold Addr.add; split <;> simp_all
    rw [hadd] at h1
    rw [h1]
    have := key i
    unfold getN
    congr 2
    omega
theorem ByteRow.below {w w' : World} {a : Option Addr} {len B : Nat} {g : Nat → Nat} (h : ByteRow w a len g) (hb : Below B w w') (hB : w.heap.size ≤ B) : ByteRow w' a len g := by
  intro h0
  obtain ⟨b, off, h1, h2⟩ := h h0
  exact ⟨b, off, h1, fun i hi => (hb.cell (p := ⟨b, off + i, none⟩) (Nat.lt_of_lt_of_le (World.block_lt_of_cell? w _ (h2 i hi)) hB)).trans (h2 i hi)⟩

structure Cur (B : Nat) (a : Option Addr) (len cap : Nat) (g : Nat → Nat) (w : World) : Prop where
  blk : ∃ (i : Nat) (h : Int), w.heap[B]? = some (.cells #[.slice a len cap, .int .i64 i, .int .i64 h] 69 (0, 0)) ∧ i ≤ len
  row : ByteRow w a len g
  low : 0 < len → ∀ b off, a = some ⟨b, off, none⟩ → b < B
  small : ∀ i, g i ≤ 255
  fits : len ≤ 9223372036854775807

theorem set2 {w : World} {B : Nat} {s x y : Value} {T : TypeId} (z : Value) (h : w.heap[B]? = some (.cells #[s, x, y] T (0, 0))) : (w.setCell ⟨B, 2, none⟩ z).heap[B]? = some (.cells #[s, x, z] T (0, 0)) := by
  rw [heap_setCell_same w B 2 _ _ _ h]; rfl
theorem set1 {w : World} {B : Nat} {s x y : Value} {T : TypeId} (z : Value) (h : w.heap[B]? = some (.cells #[s, x, y] T (0, 0))) : (w.setCell ⟨B, 1, none⟩ z).heap[B]? = some (.cells #[s, z, y] T (0, 0)) := by
  rw [heap_setCell_same w B 1 _ _ _ h]; rfl
theorem grown_set (w : World) (B j : Nat) (z : Value) : w.grownBy (w.setCell ⟨B, j, none⟩ z) (some B) :=
  ⟨rfl, rfl, rfl, by simp, fun k _ hk => heap_setCell_other w ⟨B, j, none⟩ k z (fun e => hk (by simp [e]))⟩
theorem grown_trans {a b c : World} {row : Option Nat} (h : a.grownBy b row) (k : b.grownBy c row) : a.grownBy c row :=
  ⟨k.os.trans h.os, k.tape.trans h.tape, k.output.trans h.output, Nat.le_trans h.size k.size, fun i hi hne => (k.block i (Nat.lt_of_lt_of_le hi h.size) hne).trans (h.block i hi hne)⟩
theorem grown_drewN {a b : World} {row : Option Nat} (h : a.grownBy b row) (q : Nat) : a.grownBy (b.drewN q) row := ⟨h.os, h.tape, h.output, h.size, h.block⟩
theorem grown_refl (a : World) (row : Option Nat) : a.grownBy a row := ⟨rfl, rfl, rfl, Nat.le_refl _, fun _ _ _ => rfl⟩
theorem ByteRow.grown {w w' : World} {a : Option Addr} {len B : Nat} {g : Nat → Nat} (h : ByteRow w a len g) (hg : w.grownBy w' (some B)) (hl : 0 < len → ∀ b off, a = some ⟨b, off, none⟩ → b < B) : ByteRow w' a len g := by
  intro h0
  obtain ⟨b, off, h1, h2⟩ := h h0
  refine ⟨b, off, h1, fun i hi => hg.cell (h2 i hi) ?_⟩
  have := hl h0 b off h1
  intro e
  simp at e; omega
theorem Cur.to {B : Nat} {a : Option Addr} {len cap : Nat} {g : Nat → Nat} {w w' : World} (h : Cur B a len cap g w) (hg : w.grownBy w' (some B))
    (hb : ∃ (i : Nat) (h : Int), w'.heap[B]? = some (.cells #[.slice a len cap, .int .i64 i, .int .i64 h] 69 (0, 0)) ∧ i ≤ len) : Cur B a len cap g w' :=
  ⟨hb, h.row.grown hg h.low, h.low, h.small, h.fits⟩

theorem and_mask (z : Int) (m : Nat) (hm : m < 2147483648) : ∃ n : Nat, n ≤ m ∧ bits .and .i64 z (m : Int) = (n : Int) := by
  refine ⟨((BitVec.ofInt 64 z) &&& (BitVec.ofInt 64 (m : Int))).toNat, ?_, ?_⟩
  · rw [BitVec.toNat_and, BitVec.ofInt_natCast, BitVec.toNat_ofNat, Nat.mod_eq_of_lt (by omega)]
    exact Nat.and_le_right
  · have h : ((BitVec.ofInt 64 z) &&& (BitVec.ofInt 64 (m : Int))).toNat ≤ m := by
      rw [BitVec.toNat_and, BitVec.ofInt_natCast, BitVec.toNat_ofNat, Nat.mod_eq_of_lt (by omega)]
      exact Nat.and_le_right
    simp only [bits]
    rw [IntKind.wrap_i64]
    show (((((BitVec.ofInt 64 z) &&& (BitVec.ofInt 64 (m : Int))).toNat : Nat) : Int) + 9223372036854775808) % 18446744073709551616 - 9223372036854775808 = _
    omega
theorem and255 (z : Int) : ∃ n : Nat, n ≤ 255 ∧ bits .and .i64 z 255 = (n : Int) := and_mask z 255 (by decide)

def Drawn (B : Nat) (a : Option Addr) (len cap : Nat) (g : Nat → Nat) (lim : Nat) (w : World) (e : Ending) (w' : World) : Prop :=
  ∃ x : Nat, x < lim ∧ e = .returned (.int .i64 (x : Int)) ∧ Cur B a len cap g w' ∧ w.grownBy w' (some B)
theorem drawn_set {B : Nat} {a : Option Addr} {len cap : Nat} {g : Nat → Nat} {lim : Nat} {w w2 : World} {i : Nat} {h2 : Int} (q y : Nat) (hg : w.grownBy w2 (some B)) (hc : Cur B a len cap g w2)
    (hb : w2.heap[B]? = some (.cells #[.slice a len cap, .int .i64 i, .int .i64 h2] 69 (0, 0))) (hi : i < len) (hy : y < lim) :
    Drawn B a len cap g lim w (.returned (.int .i64 (y : Int))) ((w2.drewN q).setCell ⟨B, 1, none⟩ (.int .i64 ((i : Int) + 1))) := by
  have hG : w2.grownBy ((w2.drewN q).setCell ⟨B, 1, none⟩ (.int .i64 ((i : Int) + 1))) (some B) := grown_trans (grown_drewN (grown_refl w2 (some B)) q) (grown_set (w2.drewN q) B 1 (.int .i64 ((i : Int) + 1)))
  exact ⟨y, hy, rfl, hc.to hG ⟨i + 1, h2, set1 (w := w2.drewN q) (.int .i64 ((i : Int) + 1)) hb, hi⟩, grown_trans hg hG⟩
theorem drawn_plain {B : Nat} {a : Option Addr} {len cap : Nat} {g : Nat → Nat} {lim : Nat} {w w2 : World} {i : Nat} {h2 : Int} (q q2 y : Nat) (hg : w.grownBy w2 (some B)) (hc : Cur B a len cap g w2)
    (hb : w2.heap[B]? = some (.cells #[.slice a len cap, .int .i64 i, .int .i64 h2] 69 (0, 0))) (hi : i ≤ len) (hy : y < lim) :
    Drawn B a len cap g lim w (.returned (.int .i64 (y : Int))) ((w2.drewN q).drewN q2) := by
  have hG : w2.grownBy ((w2.drewN q).drewN q2) (some B) := grown_drewN (grown_drewN (grown_refl w2 (some B)) q) q2
  exact ⟨y, hy, rfl, hc.to hG ⟨i, h2, hb, hi⟩, grown_trans hg hG⟩
theorem l01Byte_any (B : Nat) (a : Option Addr) (len cap : Nat) (g : Nat → Nat) (w : World) (hc : Cur B a len cap g w) :
    Calls Tryz.prog 33 #[.pointer (some ⟨B, 0, none⟩)] w (Drawn B a len cap g 256 w) := by
  obtain ⟨i, h, hB, hi⟩ := hc.blk
  have c2 : w.cell? ⟨B, 2, none⟩ = some (.int .i64 h) := by rw [cell_of_row w B 2 _ _ (0, 0) hB]; rfl
  have f2 : w.frozen? ⟨B, 2, none⟩ = false := frozen_of_row w B 2 _ _ hB
  have hfit := hc.fits
  have HB := Lib.hid hB
  clear hB
  have HC := Lib.hid hc
  clear hc
  go_enter Tryz.func33, Tryz.ntmps33
  go_wp2
  generalize wrap64 (wrap64 (h * 6364136223846793005) + 1442695040888963407) = h2
  have HB2 := Lib.hid (set2 (.int .i64 h2) HB.out)
  have HG2 := Lib.hid (grown_set w B 2 (.int .i64 h2))
  have HC2 := Lib.hid (HC.out.to HG2.out ⟨i, h2, HB2.out, hi⟩)
  generalize w.setCell ⟨B, 2, none⟩ (.int .i64 h2) = w2 at *
  clear c2 f2 HB HC
  have c0 : w2.cell? ⟨B, 0, none⟩ = some (.slice a len cap) := by rw [cell_of_row w2 B 0 _ _ (0, 0) HB2.out]; rfl
  have c1 : w2.cell? ⟨B, 1, none⟩ = some (.int .i64 i) := by rw [cell_of_row w2 B 1 _ _ (0, 0) HB2.out]; rfl
  have c2 : w2.cell? ⟨B, 2, none⟩ = some (.int .i64 h2) := by rw [cell_of_row w2 B 2 _ _ (0, 0) HB2.out]; rfl
  have f1 : w2.frozen? ⟨B, 1, none⟩ = false := frozen_of_row w2 B 1 _ _ HB2.out
  by_cases hlt : i < len
  · obtain ⟨b, off, rfl, hcell⟩ := HC2.out.row (by omega)
    have hcb := hcell i hlt
    have hgi := HC2.out.small i
    have hne : ¬ (b = B) := by have := HC2.out.low (by omega) b off rfl; omega
    clear hcell
    obtain ⟨x, hx, hxe⟩ := and255 (bits BinOp.xor IntKind.i64 (h2 / 8589934592) (h2 / 35184372088832))
    go_quiet (fail)
    go_wp2
    clear hxe
    go_quiet (fail)
    go_wp2
    obtain ⟨y, hy, hye⟩ := and255 ((x : Int) + (g i : Int))
    have hwr : IntKind.i64.wrap ((x : Int) + (g i : Int)) = (x : Int) + (g i : Int) := by rw [IntKind.wrap_i64]; omega
    go_quiet (fail)
    go_wp2
    go_ret
    exact drawn_set _ y HG2.out HC2.out HB2.out hlt (by omega)
  · obtain ⟨x, hx, hxe⟩ := and255 (bits BinOp.xor IntKind.i64 (h2 / 8589934592) (h2 / 35184372088832))
    go_quiet (fail)
    go_wp2
    clear hxe
    go_quiet (fail)
    go_wp2
    go_ret
    exact drawn_plain _ _ x HG2.out HC2.out HB2.out hi (by omega)

theorem l01Below_small (B : Nat) (a : Option Addr) (len cap : Nat) (g : Nat → Nat) (n : Nat) (w : World) (hc : Cur B a len cap g w) (h0 : 0 < n) (hn : n ≤ 256) :
    Calls Tryz.prog 14 #[.pointer (some ⟨B, 0, none⟩), .int .i64 (n : Int)] w (Drawn B a len cap g n w) := by
  have g0 : decide ((n : Int) ≤ 0) = false := decide_eq_false (by omega)
  have g1 : decide ((n : Int) ≤ 256) = true := decide_eq_true (by omega)
  have HC := Lib.hid hc
  clear hc
  go_enter Tryz.func14, Tryz.ntmps14
  go_wp2_with fail
  refine (l01Byte_any B a len cap g _ HC.out).mono ?_
  rintro e w1 ⟨x, hx, rfl, c1, g1⟩
  have Hc1 := Lib.hid c1
  have Hg1 := Lib.hid g1
  clear c1 g1
  go_wp2
  go_ret
  exact ⟨x % n, Nat.mod_lt _ h0, by simp, Hc1.out, Hg1.out⟩
theorem l01Below_big (B : Nat) (a : Option Addr) (len cap : Nat) (g : Nat → Nat) (n : Nat) (w : World) (hc : Cur B a len cap g w) (hn : 256 < n) (hn2 : n ≤ 9223372036854775807) :
    Calls Tryz.prog 14 #[.pointer (some ⟨B, 0, none⟩), .int .i64 (n : Int)] w (Drawn B a len cap g n w) := by
  have g0 : decide ((n : Int) ≤ 0) = false := decide_eq_false (by omega)
  have g1 : decide ((n : Int) ≤ 256) = false := decide_eq_false (by omega)
  have HC := Lib.hid hc
  clear hc
  go_enter Tryz.func14, Tryz.ntmps14
  go_wp2_with fail
  refine (l01Byte_any B a len cap g _ HC.out).mono ?_
  rintro e w1 ⟨x1, hx1, rfl, c1, r1⟩
  have Hc1 := Lib.hid c1
  have Hr1 := Lib.hid r1
  clear c1 r1
  go_wp2_with fail
  refine (l01Byte_any B a len cap g _ Hc1.out).mono ?_
  rintro e w2 ⟨x2, hx2, rfl, c2, r2⟩
  have Hc2 := Lib.hid c2
  have Hr2 := Lib.hid (grown_trans Hr1.out r2)
  clear c2 r2
  go_wp2_with fail
  refine (l01Byte_any B a len cap g _ Hc2.out).mono ?_
  rintro e w3 ⟨x3, hx3, rfl, c3, r3⟩
  have Hc3 := Lib.hid c3
  have Hr3 := Lib.hid (grown_trans Hr2.out r3)
  clear c3 r3
  go_wp2_with fail
  refine (l01Byte_any B a len cap g _ Hc3.out).mono ?_
  rintro e w4 ⟨x4, hx4, rfl, c4, r4⟩
  have Hc4 := Lib.hid c4
  have Hr4 := Lib.hid (grown_trans Hr3.out r4)
  clear c4 r4
  go_wp2
  go_ret
  exact ⟨(x1 * 16777216 + x2 * 65536 + x3 * 256 + x4) % n, Nat.mod_lt _ (by omega), by simp, Hc4.out, Hr4.out⟩
theorem l01Below_any (B : Nat) (a : Option Addr) (len cap : Nat) (g : Nat → Nat) (n : Nat) (w : World) (hc : Cur B a len cap g w) (h0 : 0 < n) (hn2 : n ≤ 9223372036854775807) :
    Calls Tryz.prog 14 #[.pointer (some ⟨B, 0, none⟩), .int .i64 (n : Int)] w (Drawn B a len cap g n w) := by
  by_cases h : n ≤ 256
  · exact l01Below_small B a len cap g n w hc h0 h
  · exact l01Below_big B a len cap g n w hc (by omega) hn2

def CurMade (a : Option Addr) (len cap : Nat) (g : Nat → Nat) (w : World) (e : Ending) (w' : World) : Prop :=
  ∃ B, e = .returned (.pointer (some ⟨B, 0, none⟩)) ∧ w.heap.size ≤ B ∧ Cur B a len cap g w' ∧ Below w.heap.size w w'
theorem cur_made {a : Option Addr} {len cap : Nat} {g : Nat → Nat} {w : World} (h : Int) (hr : ByteRow w a len g) (hg : ∀ i, g i ≤ 255) (hl : len ≤ 1048576) :
    CurMade a len cap g w (.returned (.pointer (some ⟨w.heap.size, 0, none⟩))) (w.alloc (.cells #[.slice a len cap, .int .i64 0, .int .i64 h] 69)) := by
  have hb : Below w.heap.size w (w.alloc (.cells #[.slice a len cap, .int .i64 0, .int .i64 h] 69)) := (Below.refl _ _).alloc (Nat.le_refl _) _
  refine ⟨w.heap.size, rfl, Nat.le_refl _, ⟨⟨0, h, heap_alloc_new w _, Nat.zero_le _⟩, hr.below hb (Nat.le_refl _), fun h0 b off e => ?_, hg, by omega⟩, hb⟩
  obtain ⟨b', off', e', hc⟩ := hr h0
  rw [e'] at e
  simp only [Option.some.injEq, Addr.mk.injEq] at e
  rw [← e.1]
  exact World.block_lt_of_cell? w _ (hc 0 h0)
set_option maxRecDepth 100000 in
theorem l01New_any (a : Option Addr) (len cap : Nat) (g : Nat → Nat) (w : World) (hr : ByteRow w a len g) (hg : ∀ i, g i ≤ 255) (hl : len ≤ 1048576) :
    Calls Tryz.prog 12 #[.slice a len cap] w (CurMade a len cap g w) := by
  have HR := Lib.hid hr
  have HG := Lib.hid hg
  clear hr hg
  go_enter Tryz.func12, Tryz.ntmps12
  go_wp2
  go_loop [3, 4] (fun hv i => ∃ (j : Nat) (h : Int), j ≤ len ∧ i = .int .i64 j ∧ hv = .int .i64 h) (fun _ i => len - (RowKit.intOf i).toNat)
  case atStart => exact ⟨0, _, Nat.zero_le _, rfl, rfl⟩
  case round =>
    obtain ⟨j, h, hj, rfl, rfl⟩ := hrel
    by_cases hlt : j < len
    · by_cases h4 : j < 4000
      · obtain ⟨b, off, rfl, hcell⟩ := HR.out (by omega)
        have hc := hcell j hlt
        have hgj := HG.out j
        clear hcell
        go_wp2
        go_round
        case rel => exact ⟨j + 1, _, by omega, by go_num, rfl⟩
        case measure => simp [RowKit.intOf]; omega
      · go_wp2
        go_ret
        exact cur_made h HR.out HG.out hl
    · go_wp2
      go_ret
      exact cur_made h HR.out HG.out hl

def mtL : Nat → ByteArray
  | 0 => ⟨#[97]⟩
  | 1 => ⟨#[98, 99]⟩
  | 2 => ⟨#[32]⟩
  | 3 => ⟨#[44]⟩
  | _ => ⟨#[120, 49]⟩
theorem mtL_size (i : Nat) : (mtL i).size ≤ 2 := by
  match i with
  | 0 => decide
  | 1 => decide
  | 2 => decide
  | 3 => decide
  | n + 4 => show (2 : Nat) ≤ 2; omega
end Go.Proofs.YteciobkjfmddcaaGreatDoor
