/-
  Packed: DrawPlain, DrwFacts, Whole, Seats, DrwImplC.
-/
import Derived.Laws.Rows
import Derived.Laws.Tables
import Derived.Laws.ResultCell
import Derived.Test.YtmhkkdnopcdibaaQ1
import Derived.Test.YtmhkkdnopcdibaaQ10
import Derived.Test.YtmhkkdnopcdibaaQ11
import Derived.Test.YtmhkkdnopcdibaaQ12
set_option linter.unusedVariables false
namespace Go.Proofs.Ytmhkkdnopcdibaa
open Go.RowKit

theorem mono_ofD {S : Nat → Nat} (hm : ∀ k, S k ≤ S (k + 1)) {a : Nat} : ∀ {b : Nat}, a ≤ b → S a ≤ S b
  | 0, h => by have : a = 0 := by omega
               subst this; exact Nat.le_refl _
  | b + 1, h => by
    by_cases e : a = b + 1
    · subst e; exact Nat.le_refl _
    · exact Nat.le_trans (mono_ofD hm (by omega)) (hm b)
theorem pick_some {S : Nat → Nat} (h0 : S 0 = 0) {x : Nat} : ∀ {G : Nat}, x < S G → ∃ g, g < G ∧ x < S (g + 1) ∧ S g ≤ x
  | 0, h => by rw [h0] at h; omega
  | G + 1, h => by
    by_cases h1 : x < S G
    · obtain ⟨g, a, b, c⟩ := pick_some h0 h1
      exact ⟨g, by omega, b, c⟩
    · exact ⟨G, by omega, h, by omega⟩
theorem pick_ok {S : Nat → Nat} (hm : ∀ k, S k ≤ S (k + 1)) {x g G : Nat} (hg : g < G) (h1 : x < S (g + 1)) (h2 : S g ≤ x) : pickG S x G = g :=
  pickG_is hg h1 fun k hk h => by
    have := mono_ofD hm (show k + 1 ≤ g by omega)
    omega
theorem befS_mono (d : DrwD) (i : Nat) (P : Nat → Nat → Bool) (C : Nat → Nat → Int) (k : Nat) : befS d i P C k ≤ befS d i P C (k + 1) := by rw [befS_succ]; omega
theorem befS_zero (d : DrwD) (i : Nat) (P : Nat → Nat → Bool) (C : Nat → Nat → Int) : befS d i P C 0 = 0 := rfl
theorem pick_fit {d : DrwD} {P : Nat → Nat → Bool} {C : Nat → Nat → Int} {i f x : Nat} (hi : i + (f + 1) = d.N) (hx : x < cntF d (f + 1) P C i) :
    ∃ g, g < d.G ∧ pickG (befS d i P C) x d.G = g ∧ fitB d P C i g = true ∧ befS d i P C g ≤ x ∧ x - befS d i P C g < cntF d f (putP d P i g true) (putC d C i g true) (i + 1) := by
  have e1 : d.N - i = f + 1 := by omega
  have e2 : d.N - (i + 1) = f := by omega
  have hc := cnt_bef (d := d) (P := P) (C := C) (i := i) (by omega)
  rw [e1] at hc
  rw [hc] at hx
  obtain ⟨g, hg, h1, h2⟩ := pick_some (befS_zero d i P C) hx
  refine ⟨g, hg, pick_ok (befS_mono d i P C) hg h1 h2, ?_⟩
  rw [befS_succ, e2] at h1
  by_cases hf : fitB d P C i g = true
  · rw [if_pos hf] at h1
    exact ⟨hf, h2, by omega⟩
  · rw [if_neg hf] at h1
    omega
theorem at_ok (d : DrwD) : ∀ (f : Nat) (P : Nat → Nat → Bool) (C : Nat → Nat → Int) (i x : Nat), i + f = d.N → x < cntF d f P C i →
    (begF d (atF d f P C i x) i P C).isSome = true ∧ idxF d (atF d f P C i x) i P C = x
  | 0, P, C, i, x, hi, hx => by
    have e : i = d.N := by omega
    have e1 : cntF d 0 P C i = 1 := by show (if i = d.N then 1 else 0) = 1; rw [if_pos e]
    rw [e1] at hx
    refine ⟨rfl, ?_⟩
    show 0 = x
    omega
  | f + 1, P, C, i, x, hi, hx => by
    obtain ⟨g, hg, hp, hf, hb, hlt⟩ := pick_fit hi hx
    obtain ⟨h1, h2⟩ := at_ok d f (putP d P i g true) (putC d C i g true) (i + 1) (x - befS d i P C g) (by omega) hlt
    have e : atF d (f + 1) P C i x = ((g : Nat) : Int) :: atF d f (putP d P i g true) (putC d C i g true) (i + 1) (x - befS d i P C g) := by rw [← hp]; rfl
    rw [e, begF_cons, idxF_cons, Int.toNat_natCast, if_pos ⟨⟨by omega, by omega⟩, hf⟩]
    refine ⟨h1, ?_⟩
    rw [h2]
    show befS d i P C g + (x - befS d i P C g) = x
    omega
def lessP (a b : List Int) : Prop := ∃ k, k < a.length ∧ k < b.length ∧ (∀ j, j < k → getI a j = getI b j) ∧ getI a k < getI b k
theorem getI_cons_zero (x : Int) (L : List Int) : getI (x :: L) 0 = x := rfl
theorem getI_cons_succ (x : Int) (L : List Int) (k : Nat) : getI (x :: L) (k + 1) = getI L k := rfl
theorem at_less (d : DrwD) : ∀ (f : Nat) (P : Nat → Nat → Bool) (C : Nat → Nat → Int) (i x y : Nat), i + f = d.N → x < y → y < cntF d f P C i → lessP (atF d f P C i x) (atF d f P C i y)
  | 0, P, C, i, x, y, hi, hxy, hy => by
    have e1 : cntF d 0 P C i = 1 := by show (if i = d.N then 1 else 0) = 1; rw [if_pos (by omega)]
    omega
  | f + 1, P, C, i, x, y, hi, hxy, hy => by
    obtain ⟨g, hg, hp, hf, hb, hlt⟩ := pick_fit hi (Nat.lt_trans hxy hy)
    obtain ⟨k, hk, hq, hfk, hbk, hltk⟩ := pick_fit hi hy
    have e1 : atF d (f + 1) P C i x = ((g : Nat) : Int) :: atF d f (putP d P i g true) (putC d C i g true) (i + 1) (x - befS d i P C g) := by rw [← hp]; rfl
    have e2 : atF d (f + 1) P C i y = ((k : Nat) : Int) :: atF d f (putP d P i k true) (putC d C i k true) (i + 1) (y - befS d i P C k) := by rw [← hq]; rfl
    rw [e1, e2]
    by_cases hgk : g = k
    · subst hgk
      obtain ⟨j, j1, j2, j3, j4⟩ := at_less d f (putP d P i g true) (putC d C i g true) (i + 1) (x - befS d i P C g) (y - befS d i P C g) (by omega) (by omega) hltk
      refine ⟨j + 1, by simpa using j1, by simpa using j2, fun m hm => ?_, by rw [getI_cons_succ, getI_cons_succ]; exact j4⟩
      cases m with
      | zero => rfl
      | succ m => rw [getI_cons_succ, getI_cons_succ]; exact j3 m (by omega)
    · refine ⟨0, by simp, by simp, fun m hm => absurd hm (Nat.not_lt_zero _), ?_⟩
      rw [getI_cons_zero, getI_cons_zero]
      have : g < k := by
        apply Nat.lt_of_not_le
        intro h9
        have h8 : befS d i P C (k + 1) ≤ befS d i P C g := mono_ofD (befS_mono d i P C) (by omega)
        rw [befS_succ, if_pos hfk, show d.N - (i + 1) = f by omega] at h8
        omega
      omega
theorem sumNN_congr {f g : Nat → Nat} : ∀ n, (∀ k, k < n → f k = g k) → sumNN f n = sumNN g n
  | 0, _ => rfl
  | n + 1, h => by
    show sumNN f n + f n = sumNN g n + g n
    rw [sumNN_congr n fun k hk => h k (by omega), h n (by omega)]
theorem sumNN_add (f g : Nat → Nat) : ∀ n, sumNN (fun k => f k + g k) n = sumNN f n + sumNN g n
  | 0 => rfl
  | n + 1 => by
    show sumNN (fun k => f k + g k) n + (f n + g n) = (sumNN f n + f n) + (sumNN g n + g n)
    rw [sumNN_add f g n]
    omega
theorem sumNN_none : ∀ n, sumNN (fun _ => 0) n = 0
  | 0 => rfl
  | n + 1 => by show sumNN (fun _ => 0) n + 0 = 0; rw [sumNN_none n]
theorem sumNN_swap (a : Nat → Nat → Nat) (n : Nat) : ∀ m, sumNN (fun h => sumNN (fun g => a g h) n) m = sumNN (fun g => sumNN (fun h => a g h) m) n
  | 0 => by show 0 = sumNN (fun g => 0) n; rw [sumNN_none]
  | m + 1 => by
    show sumNN (fun h => sumNN (fun g => a g h) n) m + sumNN (fun g => a g m) n = sumNN (fun g => sumNN (fun h => a g h) m + a g m) n
    rw [sumNN_swap a n m, sumNN_add]
theorem sumNN_if (c : Prop) [Decidable c] (u : Nat → Nat) (n : Nat) : sumNN (fun h => if c then u h else 0) n = if c then sumNN u n else 0 := by
  by_cases h : c
  · rw [if_pos h]; exact sumNN_congr n fun k _ => if_pos h
  · rw [if_neg h]; exact (sumNN_congr n fun k _ => if_neg h).trans (sumNN_none n)
theorem sum_ch (d : DrwD) : ∀ (f : Nat) (P : Nat → Nat → Bool) (C : Nat → Nat → Int) (i : Nat), i + f < d.N → sumNN (fun h => chF d f P C i h) d.G = cntF d (d.N - i) P C i
  | 0, P, C, i, hi => by rw [cnt_bef (by omega)]; rfl
  | f + 1, P, C, i, hi => by
    rw [cnt_bef (by omega)]
    show sumNN (fun h => sumNN (fun g => if fitB d P C i g = true then chF d f (putP d P i g true) (putC d C i g true) (i + 1) h else 0) d.G) d.G = _
    rw [sumNN_swap]
    unfold befS
    refine sumNN_congr _ fun g hg => ?_
    rw [sumNN_if]
    by_cases hf : fitB d P C i g = true
    · rw [if_pos hf, if_pos hf]
      exact sum_ch d f _ _ (i + 1) (by omega)
    · rw [if_neg hf, if_neg hf]
theorem begF_apart (d : DrwD) : ∀ (L : List Int) (i : Nat) (P : Nat → Nat → Bool) (C : Nat → Nat → Int), (begF d L i P C).isSome = true →
    (∀ j, j < L.length → P (getI L j).toNat (d.pot (i + j)) = false ∧ 0 ≤ getI L j ∧ getI L j ≤ (d.G : Int) - 1) ∧ ∀ j k, j < k → k < L.length → getI L j = getI L k → d.pot (i + j) ≠ d.pot (i + k)
  | [], i, P, C, _ => ⟨fun j hj => absurd hj (Nat.not_lt_zero _), fun j k _ hk => absurd hk (Nat.not_lt_zero _)⟩
  | x :: L, i, P, C, h => by
    rw [begF_cons] at h
    by_cases hx : (0 ≤ x ∧ x ≤ (d.G : Int) - 1) ∧ fitB d P C i x.toNat = true
    · rw [if_pos hx] at h
      obtain ⟨h1, h2⟩ := begF_apart d L (i + 1) _ _ h
      have hf := (fit_free hx.2).1
      have key : ∀ j, j < L.length → P (getI L j).toNat (d.pot (i + 1 + j)) = false ∧ ¬ ((getI L j).toNat = x.toNat ∧ d.pot (i + 1 + j) = d.pot i) := fun j hj => by
        have h3 := (h1 j hj).1
        unfold putP at h3
        by_cases e : (getI L j).toNat = x.toNat ∧ d.pot (i + 1 + j) = d.pot i
        · rw [if_pos e] at h3; cases h3
        · rw [if_neg e] at h3; exact ⟨h3, e⟩
      refine ⟨fun j hj => ?_, fun j k hjk hk e => ?_⟩
      · cases j with
        | zero => exact ⟨hf, hx.1⟩
        | succ j =>
          have hj' : j < L.length := by simpa using hj
          rw [getI_cons_succ, show i + (j + 1) = i + 1 + j by omega]
          exact ⟨(key j hj').1, (h1 j hj').2⟩
      · cases k with
        | zero => omega
        | succ k =>
          have hk' : k < L.length := by simpa using hk
          rw [getI_cons_succ] at e
          rw [show i + (k + 1) = i + 1 + k by omega]
          cases j with
          | zero =>
            rw [getI_cons_zero] at e
            intro e2
            exact (key k hk').2 ⟨by rw [e], e2.symm⟩
          | succ j =>
            rw [getI_cons_succ] at e
            rw [show i + (j + 1) = i + 1 + j by omega]
            exact h2 j k (by omega) hk' e
    · rw [if_neg hx] at h; cases h
theorem nodup_ltD : ∀ (n : Nat) (L : List Nat), L.Nodup → (∀ x ∈ L, x < n) → L.length ≤ n
  | 0, [], _, _ => Nat.le_refl _
  | 0, x :: _, _, h => absurd (h x (List.mem_cons_self ..)) (Nat.not_lt_zero _)
  | n + 1, L, hn, h => by
    have h1 : (L.erase n).length ≤ n := nodup_ltD n _ (hn.erase n) fun x hx => by
      have h2 := (hn.mem_erase_iff).1 hx
      have := h x h2.2
      omega
    rw [List.length_erase] at h1
    split at h1 <;> omega
theorem nodup_mapD {f : Nat → Nat} : ∀ {L : List Nat}, L.Nodup → (∀ a ∈ L, ∀ b ∈ L, a < b → f a ≠ f b) → (L.map f).Nodup
  | [], _, _ => List.nodup_nil
  | a :: L, h, hf => by
    have hn := List.nodup_cons.1 h
    refine List.nodup_cons.2 ⟨fun hm => ?_, nodup_mapD hn.2 fun x hx y hy => hf x (List.mem_cons_of_mem _ hx) y (List.mem_cons_of_mem _ hy)⟩
    obtain ⟨b, hb, e⟩ := List.mem_map.1 hm
    have hne : a ≠ b := fun e2 => hn.1 (e2 ▸ hb)
    rcases Nat.lt_or_gt_of_ne hne with h1 | h1
    · exact hf a (List.mem_cons_self ..) b (List.mem_cons_of_mem _ hb) h1 e.symm
    · exact hf b (List.mem_cons_of_mem _ hb) a (List.mem_cons_self ..) h1 e
theorem group_len {d : DrwD} {L FT : List Int} {g : Int} {k : Nat} (h : (begF d L 0 noP noC).isSome = true) (hpot : ∀ i, i < k → d.pot i < d.NP) (hk : k ≤ L.length) : (grpL FT L g k).length ≤ d.NP := by
  have h2 := (begF_apart d L 0 noP noC h).2
  unfold grpL
  rw [List.length_map]
  generalize hI : ((List.range k).filter fun i => decide (i < L.length) && (getI L i == g)) = I
  have hm : ∀ i ∈ I, i < k ∧ getI L i = g := fun i hi => by
    rw [← hI, List.mem_filter, List.mem_range] at hi
    simp only [Bool.and_eq_true, decide_eq_true_eq, beq_iff_eq] at hi
    exact ⟨hi.1, hi.2.2⟩
  have hn : I.Nodup := by rw [← hI]; exact List.Nodup.sublist List.filter_sublist List.nodup_range
  have h3 : (I.map d.pot).Nodup := nodup_mapD hn fun a ha b hb hab => by
    have := h2 a b hab (by have := (hm b hb).1; omega) ((hm a ha).2.trans (hm b hb).2.symm)
    simpa using this
  have h4 := nodup_ltD d.NP (I.map d.pot) h3 fun x hx => by
    obtain ⟨i, hi, rfl⟩ := List.mem_map.1 hx
    exact hpot i (hm i hi).1
  rwa [List.length_map] at h4
theorem cdN_one {F : Nat → TeamD} {T : List (List Int)} {gr most : Int} {g : Nat} (hN : 1 ≤ T.flatten.length) (hg : g < gr.toNat) :
    cdN F T gr most [(g : Int)] = ((if fitB (drwD F T gr most) noP noC 0 g = true then cntF (drwD F T gr most) (T.flatten.length - 1) (putP (drwD F T gr most) noP 0 g true) (putC (drwD F T gr most) noC 0 g true) 1 else 0 : Nat) : Int) := by
  have hG : (drwD F T gr most).G = gr.toNat := rfl
  have hNN : (drwD F T gr most).N = T.flatten.length := rfl
  unfold cdN begB
  rw [if_pos (show [(g : Int)].length ≤ (drwD F T gr most).N from hN), begF_cons]
  by_cases hf : fitB (drwD F T gr most) noP noC 0 g = true
  · rw [if_pos hf, if_pos ⟨⟨by omega, by rw [hG]; omega⟩, by rw [Int.toNat_natCast]; exact hf⟩]
    rfl
  · rw [if_neg hf, if_neg (fun h => hf (by have := h.2; rwa [Int.toNat_natCast] at this))]
    rfl
theorem cdN_full {F : Nat → TeamD} {T : List (List Int)} {gr most : Int} {L : List Int} (hl : L.length = T.flatten.length) (hb : (begF (drwD F T gr most) L 0 noP noC).isSome = true) : cdN F T gr most L = 1 := by
  have hNN : (drwD F T gr most).N = T.flatten.length := rfl
  unfold cdN begB
  rw [if_pos (by rw [hNN, hl]; exact Nat.le_refl _)]
  obtain ⟨⟨P, C⟩, h⟩ := Option.isSome_iff_exists.1 hb
  rw [h]
  show ((cntF (drwD F T gr most) (T.flatten.length - L.length) P C L.length : Nat) : Int) = 1
  rw [hl, Nat.sub_self]
  show (((if T.flatten.length = (drwD F T gr most).N then 1 else 0 : Nat)) : Int) = 1
  rw [if_pos hNN.symm]
  rfl
end Go.Proofs.Ytmhkkdnopcdibaa
set_option linter.unusedVariables false
namespace Go.Proofs.Ytmhkkdnopcdibaa
open Go.RowKit

def epB (d : DrwD) (i : Nat) : Bool := decide (i + 1 = d.N ∨ d.pot (i + 1) ≠ d.pot i)
def ecB (d : DrwD) (i : Nat) : Bool := (List.range d.N).all fun j => decide (j ≤ i) || decide (d.cl j ≠ d.cl i)
theorem ecB_iff {d : DrwD} {i : Nat} : ecB d i = true ↔ ∀ j, i < j → j < d.N → d.cl j ≠ d.cl i := by
  unfold ecB
  rw [List.all_eq_true]
  simp only [List.mem_range, Bool.or_eq_true, decide_eq_true_eq]
  constructor
  · intro h j h1 h2
    rcases h j h2 with h3 | h3
    · omega
    · exact h3
  · intro h j h2
    by_cases h1 : j ≤ i
    · exact .inl h1
    · exact .inr (h j (by omega) h2)
def lastB (d : DrwD) (c : Nat) : Nat → Nat
  | 0 => 0
  | s + 1 => if d.cl s = c then s else lastB d c s
theorem lastB_spec (d : DrwD) (c : Nat) : ∀ (s i : Nat), i < s → d.cl i = c → (lastB d c s = i ↔ ∀ j, i < j → j < s → d.cl j ≠ c)
  | 0, i, h, _ => absurd h (Nat.not_lt_zero _)
  | s + 1, i, h, hc => by
    unfold lastB
    by_cases h1 : d.cl s = c
    · rw [if_pos h1]
      constructor
      · intro e j h2 h3; omega
      · intro h4
        apply Classical.byContradiction
        intro h5
        exact h4 s (by omega) (by omega) h1
    · rw [if_neg h1]
      have h2 : i < s := by
        apply Classical.byContradiction
        intro h3
        have : i = s := by omega
        subst this
        exact h1 hc
      rw [lastB_spec d c s i h2 hc]
      constructor
      · intro h3 j h4 h5
        by_cases e : j = s
        · subst e; exact h1
        · exact h3 j h4 (by omega)
      · intro h3 j h4 h5
        exact h3 j h4 (by omega)
theorem lastB_le (d : DrwD) (c : Nat) : ∀ s, lastB d c s ≤ s
  | 0 => Nat.le_refl _
  | s + 1 => by
    unfold lastB
    have := lastB_le d c s
    split <;> omega
theorem ec_last {d : DrwD} {i : Nat} (hi : i < d.N) : ((lastB d (d.cl i) d.N : Int) == (i : Int)) = ecB d i := by
  rw [Bool.eq_iff_iff, ecB_iff, beq_iff_eq, ← lastB_spec d (d.cl i) d.N i hi rfl]
  omega
theorem ep_last {F : Nat → TeamD} {T : List (List Int)} {gr most : Int} (hne : ∀ r, r ∈ T → 1 ≤ r.length) {k i : Nat} {r : List Int} (hr : T[k]? = some r) (hi : i < r.length) :
    epB (drwD F T gr most) (((T.take k).flatten).length + i) = decide (i = r.length - 1) := by
  have hk : k < T.length := (List.getElem?_eq_some_iff.1 hr).1
  have h1 : potAt T (((T.take k).flatten).length + i) = k := potAt_in T k r hr i hi
  have hs := lenSum_take hr
  have hN : (drwD F T gr most).N = T.flatten.length := rfl
  have hp : (drwD F T gr most).pot = potAt T := rfl
  unfold epB
  rw [hN, hp, h1]
  apply decide_eq_decide.2
  by_cases e : i + 1 = r.length
  · have e1 : ((T.take k).flatten).length + i + 1 = ((T.take (k + 1)).flatten).length := by omega
    rw [e1]
    refine ⟨fun _ => by omega, fun _ => ?_⟩
    by_cases h2 : k + 1 < T.length
    · have h3 : T[k + 1]? = some T[k + 1] := List.getElem?_eq_getElem h2
      have h4 := potAt_in T (k + 1) _ h3 0 (hne _ (List.getElem_mem h2))
      rw [Nat.add_zero] at h4
      right
      rw [h4]
      omega
    · left
      rw [List.take_of_length_le (by omega)]
  · have h2 : potAt T (((T.take k).flatten).length + (i + 1)) = k := potAt_in T k r hr (i + 1) (by omega)
    have h3 : ((T.take (k + 1)).flatten).length ≤ T.flatten.length := flat_takeD (k + 1)
    rw [← Nat.add_assoc] at h2
    rw [h2]
    omega
theorem cl_at {nf : Nat} {F : Nat → TeamD} {T : List (List Int)} {gr most : Int} (h : potsP nf F T gr most) {k i : Nat} {r : List Int} (hr : T[k]? = some r) (hi : i < r.length) :
    ∃ t : Nat, getI r i = t ∧ t < nf ∧ (F t).club = ((drwD F T gr most).cl (((T.take k).flatten).length + i) : Int) ∧ (drwD F T gr most).cl (((T.take k).flatten).length + i) < 6 := by
  obtain ⟨hf, _, _, _, _, hd⟩ := h
  have hlen : ((T.take k).flatten).length + i < T.flatten.length := by
    have h1 := lenSum_take hr
    have h2 := flat_takeD (T := T) (k + 1)
    omega
  have h1 := (hd _ hlen).1
  rw [flat_get hr hi] at h1
  refine ⟨(getI r i).toNat, by omega, by omega, ?_⟩
  have h2 := (hf.2 (getI r i).toNat (by omega)).1.2.1
  have e : (drwD F T gr most).cl (((T.take k).flatten).length + i) = (F (getI r i).toNat).club.toNat := by
    show (F (teamAt T _)).club.toNat = _
    unfold teamAt
    rw [flat_get hr hi]
  rw [e]
  omega
theorem cl_lt {nf : Nat} {F : Nat → TeamD} {T : List (List Int)} {gr most : Int} (h : potsP nf F T gr most) {i : Nat} (hi : i < T.flatten.length) : (drwD F T gr most).cl i < 6 := by
  obtain ⟨hf, _, _, _, _, hd⟩ := h
  have h1 := (hd i hi).1
  have h2 := (hf.2 (getI T.flatten i).toNat (by omega)).1.2.1
  show (F (getI T.flatten i).toNat).club.toNat < 6
  omega
theorem pots_ne {nf : Nat} {F : Nat → TeamD} {T : List (List Int)} {gr most : Int} (h : potsP nf F T gr most) : ∀ r, r ∈ T → 1 ≤ r.length := fun r hr => by
  obtain ⟨i, hi, e⟩ := List.getElem_of_mem hr
  have := h.2.2.2.2.1 i hi
  rw [List.getD_eq_getElem?_getD, List.getElem?_eq_getElem hi, e] at this
  have h2 := this.1
  simp only [Option.getD_some] at h2
  omega
theorem getI_ok {L : List Int} {i : Nat} (h : i < L.length) : getI L i = L[i] := by
  unfold getI
  rw [List.getD_eq_getElem?_getD, List.getElem?_eq_getElem h]
  rfl
theorem pots_small {nf : Nat} {F : Nat → TeamD} {T : List (List Int)} {gr most : Int} (h : potsP nf F T gr most) : T.flatten.length ≤ 8 := by
  obtain ⟨hf, _, _, _, _, hd⟩ := h
  have h1 : (T.flatten.map Int.toNat).Nodup := by
    rw [List.nodup_iff_pairwise_ne, List.pairwise_map, List.pairwise_iff_getElem]
    intro i j hi hj hij e
    have a1 := (hd i hi).1
    have a2 := hd j hj
    have g1 : getI T.flatten i = T.flatten[i] := getI_ok hi
    have g2 : getI T.flatten j = T.flatten[j] := getI_ok hj
    rw [g1] at a1
    rw [g2] at a2
    refine a2.2 ?_
    have e2 : T.flatten[j] = T.flatten[i] := by omega
    rw [e2]
    exact List.mem_take_iff_getElem.2 ⟨i, by omega, rfl⟩
  have h2 := nodup_ltD nf (T.flatten.map Int.toNat) h1 fun x hx => by
    obtain ⟨y, hy, rfl⟩ := List.mem_map.1 hx
    obtain ⟨i, hi, e⟩ := List.getElem_of_mem hy
    have a1 := (hd i hi).1
    have g1 : getI T.flatten i = T.flatten[i] := getI_ok hi
    rw [g1, e] at a1
    omega
  rw [List.length_map] at h2
  have := hf.1
  omega
end Go.Proofs.Ytmhkkdnopcdibaa
set_option linter.unusedVariables false
namespace Go.Proofs.Ytmhkkdnopcdibaa
open Go.RowKit

def Whole (w : World) (B : Nat) (cs : Array Value) (t : TypeId) : Prop := w.heap[B]? = some (.cells cs t (0, 0))
theorem Whole.lt {w : World} {B : Nat} {cs : Array Value} {t : TypeId} (h : Whole w B cs t) : B < w.heap.size := (Array.getElem?_eq_some_iff.1 h).1
theorem Whole.made (w : World) (cs : Array Value) (t : TypeId) : Whole (w.alloc (.cells cs t)) w.heap.size cs t := by
  show (w.heap.push _)[w.heap.size]? = _
  simp
theorem Whole.below {w w' : World} {B : Nat} {cs : Array Value} {t : TypeId} (h : Whole w B cs t) (hb : Below w.heap.size w w') : Whole w' B cs t := (hb.block B h.lt).trans h
theorem Whole.low {w w' : World} {B base : Nat} {cs : Array Value} {t : TypeId} (h : Whole w B cs t) (hb : Below base w w') (hB : B < base) : Whole w' B cs t := (hb.block B hB).trans h
theorem Whole.cell {w : World} {B j : Nat} {cs : Array Value} {t : TypeId} (h : Whole w B cs t) {v : Value} (hv : cs[j]? = some v) : w.cell? ⟨B, j, none⟩ = some v := (cell_of_row w B j cs t (0, 0) h).trans hv
theorem Whole.free {w : World} {B : Nat} {cs : Array Value} {t : TypeId} (h : Whole w B cs t) (j : Nat) : w.frozen? ⟨B, j, none⟩ = false := frozen_of_row w B j cs t h
theorem Whole.set {w : World} {B : Nat} {cs : Array Value} {t : TypeId} (h : Whole w B cs t) (j : Nat) (v : Value) : Whole (w.setCell ⟨B, j, none⟩ v) B (cs.setIfInBounds j v) t := by
  show (w.heap.modify B _)[B]? = _
  rw [Array.getElem?_modify, if_pos rfl, show w.heap[B]? = _ from h]
  rfl
theorem Whole.other {w : World} {B : Nat} {cs : Array Value} {t : TypeId} (h : Whole w B cs t) (a : Addr) (v : Value) (hne : a.block ≠ B) : Whole (w.setCell a v) B cs t := by
  show (w.heap.modify a.block _)[B]? = _
  rw [Array.getElem?_modify, if_neg hne]
  exact h
theorem Whole.setRow {w : World} {B : Nat} {cs ds : Array Value} {t : TypeId} (h : Whole w B cs t) : Whole (w.setRow B ds) B ds t := setRow_heap w B cs ds t (0, 0) h
theorem below_setRow {w w' : World} {base B : Nat} {ds : Array Value} (h : Below base w w') (hB : base ≤ B) : Below base w (w'.setRow B ds) :=
  ⟨h.os, h.tape, h.output, by simpa [World.setRow] using h.size, fun k hk => (setRow_other w' B k ds (by omega)).trans (h.block k hk)⟩
theorem results_cell1 {fn : Func} {p : Tmp} {ty : TypeId} (h : fn.results = #[.cell p ty]) {tmps : Array Value} {P : Program} {w : World} {B : Nat} {v : Value} (ha : tmps.getD p undef = .pointer (some ⟨B, 0, none⟩)) (hl : (loadVar ty ⟨B, 0, none⟩).run P w = .ok v w) :
    (results fn tmps).run P w = .ok v w := by
  simp only [results, h]
  simp [asAddr, -Array.getD_eq_getD_getElem?, ha, hl]
end Go.Proofs.Ytmhkkdnopcdibaa
set_option linter.unusedVariables false
namespace Go.Proofs.Ytmhkkdnopcdibaa
open Go.RowKit

def SeatA (cs : Array Value) (S : Nat → Nat) : Prop := cs.size = 28 ∧ ∀ j, j < 28 → cs[j]? = some (.int .i8 (S j : Int))
theorem SeatA.congr {cs : Array Value} {S S' : Nat → Nat} (h : SeatA cs S) (e : ∀ j, j < 28 → S j = S' j) : SeatA cs S' := ⟨h.1, fun j hj => by rw [h.2 j hj, e j hj]⟩
theorem SeatA.set {cs : Array Value} {S : Nat → Nat} (h : SeatA cs S) (m x : Nat) (hm : m < 28) : SeatA (cs.setIfInBounds m (.int .i8 (x : Int))) (fun j => if j = m then x else S j) := by
  refine ⟨by rw [Array.size_setIfInBounds]; exact h.1, fun j hj => ?_⟩
  rw [Array.getElem?_setIfInBounds]
  by_cases e : m = j
  · subst e
    rw [if_pos rfl, if_pos (by rw [h.1]; exact hj)]
    show _ = some (Value.int .i8 ((if m = m then x else S m : Nat) : Int))
    rw [if_pos rfl]
  · rw [if_neg e]
    show _ = some (Value.int .i8 ((if j = m then x else S j : Nat) : Int))
    rw [if_neg (Ne.symm e)]
    exact h.2 j hj
theorem SeatA.all {cs : Array Value} {S : Nat → Nat} (h : SeatA cs S) : cs.all (·.oneCell') = true := by
  refine Array.all_eq_true_iff_forall_mem.2 fun v hv => ?_
  obtain ⟨j, hj, rfl⟩ := Array.mem_iff_getElem.1 hv
  have h1 := h.2 j (by rw [← h.1]; exact hj)
  rw [Array.getElem?_eq_getElem hj] at h1
  rw [Option.some.inj h1]
  rfl
theorem SeatA.eq {cs cs' : Array Value} {S : Nat → Nat} (h : SeatA cs S) (h' : SeatA cs' S) : cs = cs' := by
  apply Array.ext
  · rw [h.1, h'.1]
  · intro i h1 h2
    have a := h.2 i (by rw [← h.1]; exact h1)
    have b := h'.2 i (by rw [← h.1]; exact h1)
    rw [Array.getElem?_eq_getElem h1] at a
    rw [Array.getElem?_eq_getElem h2] at b
    exact (Option.some.inj a).trans (Option.some.inj b).symm
def forgS (c : Nat) (ep ec : Bool) (S : Nat → Nat) : Nat → Nat := fun j => if ep = true ∧ j % 7 = 0 then 0 else if ec = true ∧ j % 7 = 1 + c then 0 else S j
def moreS (c g : Nat) (S : Nat → Nat) : Nat → Nat := fun j => if j = g * 7 + 1 + c then S j + 1 else if j = g * 7 then S j + 1 else S j
def aftS (c : Nat) (ep ec : Bool) (g : Nat) (S : Nat → Nat) : Nat → Nat := forgS c ep ec (moreS c g S)
def fitS (d : DrwD) (S : Nat → Nat) (i g : Nat) : Bool := decide (S (g * 7) = 0) && decide ((S (g * 7 + 1 + d.cl i) : Int) < d.most)
def nxtSe (d : DrwD) (S : Nat → Nat) (i g : Nat) : Nat → Nat := aftS (d.cl i) (epB d i) (ecB d i) g S
def zF (d : DrwD) : Nat → (Nat → Nat) → Nat → Nat
  | 0, _, i => if i = d.N then 1 else 0
  | f + 1, S, i => if i = d.N then 1 else sumNN (fun g => if fitS d S i g = true then zF d f (nxtSe d S i g) (i + 1) else 0) d.G
def foldS (d : DrwD) : List Int → Nat → (Nat → Nat) → Option (Nat → Nat)
  | [], _, S => some S
  | x :: L, i, S => if (0 ≤ x ∧ x ≤ (d.G : Int) - 1) ∧ fitS d S i x.toNat = true then foldS d L (i + 1) (nxtSe d S i x.toNat) else none
theorem foldS_cons (d : DrwD) (x : Int) (L : List Int) (i : Nat) (S : Nat → Nat) : foldS d (x :: L) i S = if (0 ≤ x ∧ x ≤ (d.G : Int) - 1) ∧ fitS d S i x.toNat = true then foldS d L (i + 1) (nxtSe d S i x.toNat) else none := rfl
structure Sim (d : DrwD) (i : Nat) (S : Nat → Nat) (P : Nat → Nat → Bool) (C : Nat → Nat → Int) : Prop where
  pot : ∀ g, g < d.G → i < d.N → (S (g * 7) = 0 ↔ P g (d.pot i) = false)
  late : ∀ g, g < d.G → i < d.N → ∀ j, i < j → j < d.N → d.pot j ≠ d.pot i → P g (d.pot j) = false
  club : ∀ g, g < d.G → ∀ j, i ≤ j → j < d.N → (S (g * 7 + 1 + d.cl j) : Int) = C g (d.cl j)
structure DrwOk (d : DrwD) : Prop where
  mono : ∀ i j, i ≤ j → j < d.N → d.pot i ≤ d.pot j
  cl : ∀ i, i < d.N → d.cl i < 6
  G : 1 ≤ d.G ∧ d.G ≤ 4
  N : d.N ≤ 8
  most : 1 ≤ d.most ∧ d.most ≤ 8
theorem Sim.start (d : DrwD) : Sim d 0 (fun _ => 0) noP noC := ⟨fun g _ _ => ⟨fun _ => rfl, fun _ => rfl⟩, fun g _ _ j _ _ _ => rfl, fun g _ j _ _ => rfl⟩
theorem Sim.fit {d : DrwD} {i g : Nat} {S : Nat → Nat} {P : Nat → Nat → Bool} {C : Nat → Nat → Int} (h : Sim d i S P C) (hg : g < d.G) (hi : i < d.N) : fitS d S i g = fitB d P C i g := by
  unfold fitS fitB
  rw [h.club g hg i (Nat.le_refl _) hi]
  congr 1
  have h1 := h.pot g hg hi
  cases hp : P g (d.pot i) with
  | true => rw [hp] at h1; simp at h1; simp; omega
  | false => rw [hp] at h1; simp at h1; simp [h1]
theorem Sim.next {d : DrwD} {i g : Nat} {S : Nat → Nat} {P : Nat → Nat → Bool} {C : Nat → Nat → Int} (ok : DrwOk d) (h : Sim d i S P C) (hg : g < d.G) (hi : i < d.N) (hf : fitS d S i g = true) : Sim d (i + 1) (nxtSe d S i g) (putP d P i g true) (putC d C i g true) := by
  have hG := ok.G
  have hci := ok.cl i hi
  have hf0 : S (g * 7) = 0 := by
    unfold fitS at hf
    rw [Bool.and_eq_true, decide_eq_true_eq] at hf
    exact hf.1
  refine ⟨fun k hk h1 => ?_, fun k hk h1 j hj1 hj2 hne => ?_, fun k hk j hj1 hj2 => ?_⟩
  · have hep : epB d i = decide (d.pot (i + 1) ≠ d.pot i) := by unfold epB; apply decide_eq_decide.2; constructor <;> intro h9 <;> first | omega | exact .inr h9
    unfold nxtSe aftS forgS
    rw [hep]
    by_cases e : d.pot (i + 1) = d.pot i
    · have m1 : (k * 7) % 7 = 0 := by omega
      have m2 : ¬ (k * 7) % 7 = 1 + d.cl i := by omega
      simp only [e, ne_eq, not_true_eq_false, decide_false, Bool.false_eq_true, false_and, if_false, m2, and_false]
      unfold moreS putP
      by_cases ek : k = g
      · subst ek
        rw [if_neg (by omega), if_pos rfl, if_pos ⟨rfl, rfl⟩]
        simp
      · rw [if_neg (by omega), if_neg (by omega), if_neg (fun h9 => ek h9.1)]
        exact h.pot k hk hi
    · rw [if_pos ⟨decide_eq_true e, by omega⟩]
      refine ⟨fun _ => ?_, fun _ => rfl⟩
      unfold putP
      rw [if_neg (fun h9 => e h9.2)]
      exact h.late k hk hi (i + 1) (by omega) h1 e
  · unfold putP
    have m1 := ok.mono i (i + 1) (by omega) h1
    have m2 := ok.mono (i + 1) j (by omega) hj2
    have e2 : d.pot j ≠ d.pot i := by omega
    rw [if_neg (fun h9 => e2 h9.2)]
    exact h.late k hk hi j (by omega) hj2 e2
  · have hcj := ok.cl j hj2
    have hold := h.club k hk j (by omega) hj2
    unfold nxtSe aftS forgS
    rw [if_neg (fun h9 => by have := h9.2; omega)]
    by_cases e : ecB d i = true ∧ (k * 7 + 1 + d.cl j) % 7 = 1 + d.cl i
    · exfalso
      have := ecB_iff.1 e.1 j (by omega) hj2
      have h9 := e.2
      omega
    · rw [if_neg e]
      unfold moreS putC
      by_cases e2 : k = g ∧ d.cl j = d.cl i
      · rw [if_pos e2, if_pos (by rw [e2.1, e2.2]), if_pos rfl, ← e2.1, ← e2.2]
        push_cast
        omega
      · rw [if_neg e2, if_neg (by omega), if_neg (by omega)]
        exact hold
theorem Sim.count {d : DrwD} (ok : DrwOk d) : ∀ (f i : Nat) (S : Nat → Nat) (P : Nat → Nat → Bool) (C : Nat → Nat → Int), i + f = d.N → Sim d i S P C → zF d f S i = cntF d f P C i
  | 0, i, S, P, C, hi, h => rfl
  | f + 1, i, S, P, C, hi, h => by
    unfold zF cntF
    rw [if_neg (by omega), if_neg (by omega)]
    refine sumNN_congr _ fun g hg => ?_
    rw [h.fit hg (by omega)]
    by_cases hf : fitB d P C i g = true
    · rw [if_pos hf, if_pos hf]
      exact Sim.count ok f (i + 1) _ _ _ (by omega) (h.next ok hg (by omega) (by rw [h.fit hg (by omega)]; exact hf))
    · rw [if_neg hf, if_neg hf]
theorem Sim.fold {d : DrwD} (ok : DrwOk d) : ∀ (L : List Int) (i : Nat) (S : Nat → Nat) (P : Nat → Nat → Bool) (C : Nat → Nat → Int), i + L.length ≤ d.N → Sim d i S P C →
    (∀ S', foldS d L i S = some S' → ∃ P' C', begF d L i P C = some (P', C') ∧ Sim d (i + L.length) S' P' C') ∧ (foldS d L i S = none → begF d L i P C = none)
  | [], i, S, P, C, hi, h => ⟨fun S' e => by cases e; exact ⟨P, C, rfl, h⟩, fun e => by cases e⟩
  | x :: L, i, S, P, C, hi, h => by
    have hl : (x :: L).length = L.length + 1 := rfl
    have hiN : i < d.N := by omega
    rw [foldS_cons, begF_cons]
    by_cases hx : 0 ≤ x ∧ x ≤ (d.G : Int) - 1
    · have hg : x.toNat < d.G := by omega
      rw [h.fit hg hiN]
      by_cases hf : fitB d P C i x.toNat = true
      · rw [if_pos ⟨hx, hf⟩, if_pos ⟨hx, hf⟩]
        have := Sim.fold ok L (i + 1) _ _ _ (by omega) (h.next ok hg hiN (by rw [h.fit hg hiN]; exact hf))
        rw [hl, show i + (L.length + 1) = i + 1 + L.length by omega]
        exact this
      · rw [if_neg (fun h9 => hf h9.2), if_neg (fun h9 => hf h9.2)]
        exact ⟨(fun S' e => by cases e), fun _ => rfl⟩
    · rw [if_neg (fun h9 => hx h9.1), if_neg (fun h9 => hx h9.1)]
      exact ⟨(fun S' e => by cases e), fun _ => rfl⟩
theorem potAt_mono : ∀ (T : List (List Int)) (i j : Nat), i ≤ j → potAt T i ≤ potAt T j
  | [], i, j, _ => Nat.le_refl _
  | r :: T, i, j, h => by
    show (if i < r.length then 0 else potAt T (i - r.length) + 1) ≤ (if j < r.length then 0 else potAt T (j - r.length) + 1)
    by_cases h1 : i < r.length
    · rw [if_pos h1]; exact Nat.zero_le _
    · rw [if_neg h1, if_neg (by omega)]
      have := potAt_mono T (i - r.length) (j - r.length) (by omega)
      omega
theorem drw_ok {nf : Nat} {F : Nat → TeamD} {T : List (List Int)} {gr most : Int} (h : potsP nf F T gr most) : DrwOk (drwD F T gr most) :=
  ⟨fun i j hij _ => potAt_mono T i j hij, fun i hi => cl_lt h hi, by show 1 ≤ gr.toNat ∧ gr.toNat ≤ 4; have := h.2.1; omega, pots_small h, h.2.2.1⟩
end Go.Proofs.Ytmhkkdnopcdibaa
set_option linter.unusedVariables false
namespace Go.Proofs.Ytmhkkdnopcdibaa
open Go.RowKit Go.Maps

set_option maxRecDepth 100000 in
set_option maxHeartbeats 2000000 in
theorem isTeamD_impl (fa : Option Addr) (nf fc : Nat) (t : Int) (w : World) (hn : nf ≤ 9223372036854775807) :
    Calls Try.prog 83 #[.agg #[.slice fa nf fc, .int .i64 0, .int .i64 0, .int .i64 0, .slice none 0 0, .bool false, .slice none 0 0, .slice none 0 0, .slice none 0 0], .int .i64 t] w fun e w' => e = .returned (.bool (decide (0 ≤ t ∧ t < nf))) ∧ Below w.heap.size w w' := by
  have HB : Hid (Below w.heap.size w (w.alloc (.cells #[.slice fa nf fc, .int .i64 0, .int .i64 0, .int .i64 0, .slice none 0 0, .bool false, .slice none 0 0, .slice none 0 0, .slice none 0 0] 73))) := (Below.refl _ _).alloc (Nat.le_refl _) _
  by_cases h0 : 0 ≤ t
  case neg =>
    have e : decide (0 ≤ t ∧ t < nf) = false := decide_eq_false fun h => h0 h.1
    have g1 : decide (0 ≤ t) = false := decide_eq_false h0
    rw [e]
    clear e h0
    go_enter Try.func83, Try.ntmps83
    go_wp2
    go_ret
    exact ⟨rfl, HB.out⟩
  have g1 : decide (0 ≤ t) = true := decide_eq_true h0
  obtain ⟨r, hr⟩ : ∃ r, decide (t < (nf : Int)) = r := ⟨_, rfl⟩
  have e : decide (0 ≤ t ∧ t < nf) = r := by rw [← hr]; simp [h0]
  rw [e]
  clear e h0
  go_enter Try.func83, Try.ntmps83
  go_wp2
  go_ret
  exact ⟨rfl, HB.out⟩
theorem getI_take {L : List Int} {k : Nat} (h : k < L.length) : L.take (k + 1) = L.take k ++ [getI L k] := by
  rw [List.take_add_one, List.getElem?_eq_getElem h]
  simp [getI, h]
def litsD (L : List Int) (k : Nat) (M : List Lit) : Prop := ∀ kl, kl ∈ M ↔ ∃ x, x ∈ L.take k ∧ kl = .int .i64 x
theorem litsD.next {L : List Int} {k : Nat} {M : List Lit} (h : litsD L k M) (hk : k < L.length) : litsD L (k + 1) (.int .i64 (getI L k) :: M) := fun kl => by
  rw [List.mem_cons, h kl, getI_take hk]
  constructor
  · rintro (rfl | ⟨x, hx, rfl⟩)
    · exact ⟨_, List.mem_append_right _ (List.mem_singleton.2 rfl), rfl⟩
    · exact ⟨x, List.mem_append_left _ hx, rfl⟩
  · rintro ⟨x, hx, rfl⟩
    rcases List.mem_append.1 hx with h | h
    · exact .inr ⟨x, h, rfl⟩
    · rw [List.mem_singleton] at h; exact .inl (by rw [h])
theorem litsD.has {L : List Int} {k : Nat} {M : List Lit} {x : Int} (h : litsD L k M) : Lit.int .i64 x ∈ M ↔ x ∈ L.take k := by
  rw [h]
  constructor
  · rintro ⟨y, hy, e⟩
    simp only [Lit.int.injEq, true_and] at e
    rw [e]; exact hy
  · exact fun hx => ⟨x, hx, rfl⟩
set_option maxRecDepth 100000 in
set_option maxHeartbeats 4000000 in
theorem areDiffD_impl (fa : Option Addr) (nf fc : Nat) (gv : Value) (L : List Int) (R : Bool) (w : World) (hn : nf ≤ 1048576) (hR : R = true ↔ diffP nf L) (hg : IntRow w gv L.length (getI L)) (hl6 : L.length ≤ 1048576) :
    Calls Try.prog 48 #[.agg #[.slice fa nf fc, .int .i64 0, .int .i64 0, .int .i64 0, .slice none 0 0, .bool false, .slice none 0 0, .slice none 0 0, .slice none 0 0], gv] w fun e w' => e = .returned (.bool R) ∧ Below w.heap.size w w' := by
  obtain ⟨xa, xc, rfl, hx64, _⟩ := hg.form
  obtain ⟨m, hm⟩ : ∃ m, L.length = m := ⟨_, rfl⟩
  have HM := Lib.hid hm
  have HN : Hid (¬ diffP nf L → R = false) := boolF hR
  have HY : Hid (diffP nf L → R = true) := boolT hR
  have HDF : Hid (diffP nf L ↔ ∀ i, i < m → (0 ≤ getI L i ∧ getI L i ≤ (nf : Int) - 1) ∧ ¬ getI L i ∈ L.take i) := by show diffP _ _ ↔ _; rw [← hm]; exact Iff.rfl
  have HG := Lib.hid hg
  rw [hm] at HG hx64 hl6 ⊢
  obtain ⟨W0, hW0⟩ : ∃ W0, w.alloc (.cells #[.slice fa nf fc, .int .i64 0, .int .i64 0, .int .i64 0, .slice none 0 0, .bool false, .slice none 0 0, .slice none 0 0, .slice none 0 0] 73) = W0 := ⟨_, rfl⟩
  have HB : Hid (Below w.heap.size w W0) := by rw [← hW0]; exact (Below.refl _ _).alloc (Nat.le_refl _) _
  have HX : Hid (BoxN W0 w.heap.size [.slice fa nf fc, .int .i64 0, .int .i64 0, .int .i64 0, .slice none 0 0, .bool false, .slice none 0 0, .slice none 0 0, .slice none 0 0]) := by rw [← hW0]; exact BoxN.made (Below.refl _ _) rfl
  have HM0 : Hid (BoolMap Try.prog (W0.alloc (.map #[] 0)) 3 4 W0.heap.size 0 []) := BoolMap.made _ _ _ _
  have hmm := @run_makeMap Try.prog
  clear hR hg hm
  have hz0 : w.heap.size < W0.heap.size := HX.out.1
  go_enter Try.func48, Try.ntmps48
  go_wp2
  clear hW0
  go_loopw [11] (fun i wr => ∃ (k : Nat) (M : List Lit), k ≤ m ∧ i = .int .i64 k ∧ Hid (BoolMap Try.prog wr 3 4 W0.heap.size k M) ∧ Hid (litsD L k M) ∧ Hid (∀ j, j < k → (0 ≤ getI L j ∧ getI L j ≤ (nf : Int) - 1) ∧ ¬ getI L j ∈ L.take j) ∧ Hid (Below W0.heap.size W0 wr)) (fun i _ => m - (RowKit.intOf i).toNat)
  case atStart => exact ⟨0, [], Nat.zero_le _, rfl, HM0, fun kl => by simp, fun j hj => absurd hj (by omega), (Below.refl _ _).alloc (Nat.le_refl _) _⟩
  case round =>
    clear HM0
    obtain ⟨k, M, hk, rfl, HMM, HL, HOK, HBr⟩ := hrel
    by_cases hlt : k < m
    · have hIR := HG.out.below (HB.out.trans (HBr.out.mono HB.out.size)) (Nat.le_refl _)
      obtain ⟨bo, off, rfl, hcap, c1⟩ := int_at hIR hlt
      have hj1 : (k : Int) < (m : Int) := by omega
      have HXr := Lib.hid (HX.out.below HBr.out)
      have HLk := Lib.hid (HL.out.next (by rw [HM.out]; exact hlt))
      have HH : Hid (Lit.int .i64 (getI L k) ∈ M ↔ getI L k ∈ L.take k) := HL.out.has
      have HNk : Hid (¬ ((0 ≤ getI L k ∧ getI L k ≤ (nf : Int) - 1) ∧ ¬ getI L k ∈ L.take k) → R = false) := fun h => HN.out fun hp => h (HDF.out.1 hp k hlt)
      have HSk : Hid ((0 ≤ getI L k ∧ getI L k ≤ (nf : Int) - 1) ∧ ¬ getI L k ∈ L.take k → ∀ j, j < k + 1 → (0 ≤ getI L j ∧ getI L j ≤ (nf : Int) - 1) ∧ ¬ getI L j ∈ L.take j) := fun h j hj => by
        by_cases hjk : j = k
        · subst hjk; exact h
        · exact HOK.out j (by omega)
      clear hIR HL HOK
      obtain ⟨hp, hhp⟩ : ∃ hp : Prop, getI L k ∈ L.take k ↔ hp := ⟨_, Iff.rfl⟩
      have HHP := Lib.hid hhp
      have HH2 : Hid (Lit.int .i64 (getI L k) ∈ M ↔ hp) := HH.out.trans HHP.out
      have HNk2 : Hid (¬ ((0 ≤ getI L k ∧ getI L k ≤ (nf : Int) - 1) ∧ ¬ hp) → R = false) := fun h => HNk.out fun h2 => h ⟨h2.1, fun h3 => h2.2 (HHP.out.2 h3)⟩
      have HSk2 : Hid ((0 ≤ getI L k ∧ getI L k ≤ (nf : Int) - 1) ∧ ¬ hp → ∀ j, j < k + 1 → (0 ≤ getI L j ∧ getI L j ≤ (nf : Int) - 1) ∧ ¬ getI L j ∈ L.take j) := fun h => HSk.out ⟨h.1, fun h3 => h.2 (HHP.out.1 h3)⟩
      clear hhp HHP HH HNk HSk
      obtain ⟨x, hx⟩ : ∃ x, getI L k = x := ⟨_, rfl⟩
      rw [hx] at c1 HLk HH2 HNk2 HSk2
      clear hx
      have d0 := HXr.out.2 0 _ rfl
      have d1 := HXr.out.2 1 _ rfl
      have d2 := HXr.out.2 2 _ rfl
      have d3 := HXr.out.2 3 _ rfl
      have d4 := HXr.out.2 4 _ rfl
      have d5 := HXr.out.2 5 _ rfl
      have d6 := HXr.out.2 6 _ rfl
      have d7 := HXr.out.2 7 _ rfl
      have d8 := HXr.out.2 8 _ rfl
      have hmt := HMM.out.lt
      by_cases hin : 0 ≤ x ∧ x ≤ (nf : Int) - 1
      case neg =>
        obtain rfl := HNk2.out fun h => hin h.1
        have C1 := isTeamD_impl fa nf fc x wr (by omega)
        have e2 : decide (0 ≤ x ∧ x < (nf : Int)) = false := decide_eq_false (by omega)
        rw [e2] at C1
        have HC1 := Lib.hid C1
        clear C1 HN HY HNk2 HSk2 HLk HH2 hin e2
        go_wp2_with fail
        refine HC1.out.mono ?_
        rintro e w2 ⟨rfl, b2⟩
        have HE := Lib.hid (HB.out.trans ((HBr.out.trans (b2.mono HBr.out.size)).mono HB.out.size))
        clear b2 HC1
        go_wp2
        go_ret
        exact ⟨rfl, HE.out⟩
      have C1 := isTeamD_impl fa nf fc x wr (by omega)
      have e2 : decide (0 ≤ x ∧ x < (nf : Int)) = true := decide_eq_true (by omega)
      rw [e2] at C1
      have HC1 := Lib.hid C1
      have hwf : (Lit.int .i64 x).wf = true := WalkArith.wf_i64 (by omega)
      have HK : Hid (keyOf Try.prog 3 (.int .i64 x) = some (.int .i64 x)) := keyOf_int_mk Try.underlying3 hwf
      have HIN := Lib.hid hin
      clear C1 e2 hwf hin
      by_cases hps : hp
      case pos =>
        obtain rfl := HNk2.out fun h => h.2 hps
        have HR := Lib.hid (HH2.out.2 hps)
        clear HN HY HNk2 HSk2 HLk HH2
        go_wp2_with fail
        refine HC1.out.mono ?_
        rintro e w2 ⟨rfl, b2⟩
        have hrun := ((HMM.out.below b2 (Nat.le_refl _)).run kInt Try.underlying123 Try.underlying4 (zBool _) HK.out).1 HR.out
        have HE := Lib.hid (HB.out.trans ((HBr.out.trans (b2.mono HBr.out.size)).mono HB.out.size))
        clear b2 HC1 HR
        go_wp2
        go_ret
        exact ⟨rfl, HE.out⟩
      have HR : Hid (Lit.int .i64 x ∉ M) := fun h => hps (HH2.out.1 h)
      have HS := Lib.hid (HSk2.out ⟨HIN.out, hps⟩)
      clear HNk2 HSk2 HH2 hps
      go_wp2_with fail
      refine HC1.out.mono ?_
      rintro e w2 ⟨rfl, b2⟩
      have HM2 := Lib.hid (HMM.out.below b2 (Nat.le_refl _))
      have hrun := (HM2.out.run kInt Try.underlying123 Try.underlying4 (zBool _) HK.out).2 HR.out
      have HB2 := Lib.hid (HBr.out.trans (b2.mono HBr.out.size))
      have hm2 := HM2.out.lt
      have hsz2 := HB2.out.size
      clear b2 HC1 HR HBr HXr d0 d1 d2 d3 d4 d5 d6 d7 d8 c1 HMM
      have kk1 : WideAt.IsKeyLit (.int .i64 x) := trivial
      go_wp2_with (at_mapUpdate; refine wpList_boolTrue rfl (.tmp 24) (.tmp 25) (.const (.bool true)) 123 rfl 3 4 kInt Try.underlying123 Try.underlying4 W0.heap.size k M rfl HM2.out (by unfold maxLen; omega) _ (.int .i64 x) rfl rfl HK.out kk1 ?_; intro w3 m3 g3)
      have HB3 : Hid (Below W0.heap.size W0 w3) := HB2.out.grown g3 hsz2 (fun q hq => by simp only [Option.some.injEq] at hq; omega)
      have HM3 := Lib.hid m3
      clear m3 g3 hrun
      go_roundw
      case rel => exact ⟨k + 1, _, by omega, by go_num, HM3, HLk, HS, HB3⟩
      case measure => simp [RowKit.intOf]; omega
    · obtain rfl : k = m := by omega
      obtain rfl := HY.out (HDF.out.2 HOK.out)
      have HE := Lib.hid (HB.out.trans (HBr.out.mono HB.out.size))
      clear HN HY HOK HBr
      go_wp2
      go_ret
      exact ⟨rfl, HE.out⟩
theorem fieldP_small {nf : Nat} {F : Nat → TeamD} (h : fieldP nf F) : nf ≤ 8 := by have := h.1; omega
set_option maxRecDepth 100000 in
set_option maxHeartbeats 8000000 in
theorem potsOk_impl (vf : Value) (nf : Nat) (F : Nat → TeamD) (vp : Value) (gr most : Int) (T : List (List Int)) (R : Bool) (w : World) (hR : R = true ↔ potsP nf F T gr most) (hf : TeamRow w vf nf F) (hs : ∀ i, (F i).nm.size ≤ maxLen) (h : RdA tIntSS w [vp] T) (hw : tIntSS.wt T ≤ 1048576) :
    Calls Try.prog 14 #[vf, .agg #[vp, .int .i64 gr, .int .i64 most]] w fun e w' => e = .returned (.bool R) ∧ Below w.heap.size w w' := by
  obtain ⟨pa, pc, rfl, hpn⟩ := pots_form h
  obtain ⟨fa, fc, rfl, hfn, _⟩ := hf.form
  have hfl6 := Nat.le_trans (flat_wt (T := T)) hw
  obtain ⟨np, hnp⟩ : ∃ np, List.length (α := List Int) T = np := ⟨_, rfl⟩
  have HNP := Lib.hid hnp
  obtain ⟨r1, hr1⟩ := boolEx (fieldP nf F)
  obtain ⟨r5, hr5⟩ := boolEx (∃ j, j < T.length ∧ noPotB gr (T.getD j []).length = true)
  obtain ⟨r6, hr6⟩ := boolEx (diffP nf T.flatten)
  obtain ⟨U, hU⟩ : ∃ U, w.alloc (.cells #[.slice pa (List.length (α := List Int) T) pc, .int .i64 gr, .int .i64 most] 26) = U := ⟨_, rfl⟩
  have bU : Below w.heap.size w U := by rw [← hU]; exact (Below.refl _ _).alloc (Nat.le_refl _) _
  have HS : Hid (PotsAt U w.heap.size pa (List.length (α := List Int) T) pc gr most T) := by rw [← hU]; exact PotsAt.made h
  have HB := Lib.hid bU
  have CF := Lib.hid (fieldOk_impl (.slice fa nf fc) nf F r1 U (hf.below bU (Nat.le_refl _)) hs hr1)
  have CC : Hid (∀ wa, RdA tIntSS wa [.slice pa (List.length (α := List Int) T) pc] T → Calls Try.prog 46 #[.slice pa (List.length (α := List Int) T) pc, .func (.func 47) #[.agg #[.slice pa (List.length (α := List Int) T) pc, .int .i64 gr, .int .i64 most]] #[]] wa fun e w' => e = .returned (.bool r5) ∧ Below wa.heap.size wa w') :=
    fun wa h => anyRowsB 47 (enters_of Try.func47 (by kernel_rfl) rfl) (.agg #[.slice pa (List.length (α := List Int) T) pc, .int .i64 gr, .int .i64 most]) (.slice pa (List.length (α := List Int) T) pc) T (fun r => noPotB gr r.length) r5 wa hr5 h
      (fun r x k wb _ hrow => isNoPot_impl pa _ pc gr most x r.length k wb (by obtain ⟨_, _, _, h9, _⟩ := hrow.form; exact h9))
  have CT : Hid (∀ wa, RdA tIntSS wa [.slice pa (List.length (α := List Int) T) pc] T → Calls Try.prog 49 #[.slice pa (List.length (α := List Int) T) pc] wa (IntsL wa T.flatten)) := fun wa h => concatInts _ T wa h hw
  have CD : Hid (nf ≤ 1048576 → ∀ gv wa, IntRow wa gv T.flatten.length (getI T.flatten) → Calls Try.prog 48 #[.agg #[.slice fa nf fc, .int .i64 0, .int .i64 0, .int .i64 0, .slice none 0 0, .bool false, .slice none 0 0, .slice none 0 0, .slice none 0 0], gv] wa fun e w' => e = .returned (.bool r6) ∧ Below wa.heap.size wa w') :=
    fun hn gv wa hg => areDiffD_impl fa nf fc gv T.flatten r6 wa hn hr6 hg hfl6
  have HN8 : Hid (r1 = true → nf ≤ 8) := fun h => fieldP_small (hr1.1 h)
  have HQ : Hid (R = true ↔ r1 = true ∧ (1 ≤ gr ∧ gr ≤ 4) ∧ (1 ≤ most ∧ most ≤ 8) ∧ (1 ≤ (np : Int) ∧ (np : Int) ≤ 3) ∧ r5 = false ∧ r6 = true) := by
    refine hR.trans ?_
    unfold potsP
    rw [hr1, ← hnp, hr6]
    have key : (r5 = false) ↔ (∀ i, i < T.length → 1 ≤ ((T.getD i []).length : Int) ∧ ((T.getD i []).length : Int) ≤ gr) := by
      rw [← Bool.not_eq_true, hr5]
      constructor
      · intro h i hi
        have h2 : ¬ noPotB gr (T.getD i []).length = true := fun h3 => h ⟨i, hi, h3⟩
        unfold noPotB at h2
        simp only [Bool.or_eq_true, decide_eq_true_eq] at h2
        omega
      · rintro h ⟨j, hj, h3⟩
        have h2 := h j hj
        unfold noPotB at h3
        simp only [Bool.or_eq_true, decide_eq_true_eq] at h3
        omega
    rw [key]
  have HF := Lib.hid (boolF HQ.out)
  have HT := Lib.hid (boolT HQ.out)
  rw [hnp] at hpn hU HS CC CT ⊢
  clear h hf hR hr1 hr5 hr6 hnp bU hw hs HQ
  have c0 := HS.out.1.2 0 _ rfl
  have c1 := HS.out.1.2 1 _ rfl
  have c2 := HS.out.1.2 2 _ rfl
  go_enter Try.func14, Try.ntmps14
  go_wp2_with fail
  clear hU c0 c1 c2
  refine CF.out.mono ?_
  rintro e w1 ⟨rfl, b⟩
  have HS1 := Lib.hid (HS.out.below b)
  have HB1 := Lib.hid (HB.out.trans (b.mono HB.out.size))
  clear b HS HB CF
  have c0 := HS1.out.1.2 0 _ rfl
  have c1 := HS1.out.1.2 1 _ rfl
  have c2 := HS1.out.1.2 2 _ rfl
  cases r1 with
  | false =>
    obtain rfl := HF.out (fun h => by have := h.1; cases this)
    go_wp2
    go_ret
    exact ⟨rfl, HB1.out⟩
  | true =>
  by_cases qb1 : 1 ≤ gr
  case neg =>
    obtain rfl := HF.out (fun h => qb1 h.2.1.1)
    have gb1 : decide (1 ≤ gr) = false := decide_eq_false qb1
    clear qb1
    go_wp2
    go_ret
    exact ⟨rfl, HB1.out⟩
  have gb1 : decide (1 ≤ gr) = true := decide_eq_true qb1
  by_cases qb2 : gr ≤ 4
  case neg =>
    obtain rfl := HF.out (fun h => qb2 h.2.1.2)
    have gb2 : decide (gr ≤ 4) = false := decide_eq_false qb2
    clear qb2
    go_wp2
    go_ret
    exact ⟨rfl, HB1.out⟩
  have gb2 : decide (gr ≤ 4) = true := decide_eq_true qb2
  by_cases qb3 : 1 ≤ most
  case neg =>
    obtain rfl := HF.out (fun h => qb3 h.2.2.1.1)
    have gb3 : decide (1 ≤ most) = false := decide_eq_false qb3
    clear qb3
    go_wp2
    go_ret
    exact ⟨rfl, HB1.out⟩
  have gb3 : decide (1 ≤ most) = true := decide_eq_true qb3
  by_cases qb4 : most ≤ 8
  case neg =>
    obtain rfl := HF.out (fun h => qb4 h.2.2.1.2)
    have gb4 : decide (most ≤ 8) = false := decide_eq_false qb4
    clear qb4
    go_wp2
    go_ret
    exact ⟨rfl, HB1.out⟩
  have gb4 : decide (most ≤ 8) = true := decide_eq_true qb4
  by_cases qb5 : 1 ≤ (np : Int)
  case neg =>
    obtain rfl := HF.out (fun h => qb5 h.2.2.2.1.1)
    have gb5 : decide (1 ≤ (np : Int)) = false := decide_eq_false qb5
    have kb5 : decide (1 ≤ np) = false := decide_eq_false (by omega)
    clear qb5
    go_wp2
    go_ret
    exact ⟨rfl, HB1.out⟩
  have gb5 : decide (1 ≤ (np : Int)) = true := decide_eq_true qb5
  have kb5 : decide (1 ≤ np) = true := decide_eq_true (by omega)
  by_cases qb6 : (np : Int) ≤ 3
  case neg =>
    obtain rfl := HF.out (fun h => qb6 h.2.2.2.1.2)
    have gb6 : decide ((np : Int) ≤ 3) = false := decide_eq_false qb6
    have kb6 : decide (np ≤ 3) = false := decide_eq_false (by omega)
    clear qb6
    go_wp2
    go_ret
    exact ⟨rfl, HB1.out⟩
  have gb6 : decide ((np : Int) ≤ 3) = true := decide_eq_true qb6
  have kb6 : decide (np ≤ 3) = true := decide_eq_true (by omega)
  have HF2 : Hid (¬ (r5 = false ∧ r6 = true) → R = false) := fun h => HF.out fun hp => h hp.2.2.2.2
  have HT2 : Hid ((r5 = false ∧ r6 = true) → R = true) := fun h => HT.out ⟨by first | rfl | trivial, ⟨qb1, qb2⟩, ⟨qb3, qb4⟩, ⟨qb5, qb6⟩, h⟩
  have hn8 := HN8.out (by first | rfl | trivial)
  have HN9 : Hid (nf ≤ 1048576) := by show _ ≤ _; omega
  clear HF HT HN8 hn8 qb1 qb2 qb3 qb4 qb5 qb6
  have CC1 := Lib.hid (CC.out w1 HS1.out.2)
  clear CC
  go_wp2_with fail
  clear c0 c1 c2
  refine CC1.out.mono ?_
  rintro e w2 ⟨rfl, b⟩
  have HS2 := Lib.hid (HS1.out.below b)
  have HB2 := Lib.hid (HB1.out.trans (b.mono HB1.out.size))
  clear b HS1 HB1 CC1
  have c0 := HS2.out.1.2 0 _ rfl
  cases r5 with
  | true =>
    obtain rfl := HF2.out (fun h => by cases h.1)
    go_wp2
    go_ret
    exact ⟨rfl, HB2.out⟩
  | false =>
  have CT1 := Lib.hid (CT.out w2 HS2.out.2)
  clear CT
  go_wp2_with fail
  clear c0
  refine CT1.out.mono ?_
  rintro e w3 h9
  obtain ⟨vt, rfl, htr, hown, b⟩ := IntsL.made h9 (by omega)
  have HB3 := Lib.hid (HB2.out.trans (b.mono HB2.out.size))
  have CD1 := Lib.hid (CD.out HN9.out _ _ htr)
  clear h9 htr hown b CT1 CD HB2 HS2
  go_wp2_with fail
  refine CD1.out.mono ?_
  rintro e w4 ⟨rfl, b⟩
  have HB4 := Lib.hid (HB3.out.trans (b.mono HB3.out.size))
  clear b CD1 HB3
  cases r6 with
  | true =>
    obtain rfl := HT2.out ⟨by first | rfl | trivial, by first | rfl | trivial⟩
    go_wp2
    go_ret
    exact ⟨rfl, HB4.out⟩
  | false =>
    obtain rfl := HF2.out (fun h => by cases h.2)
    go_wp2
    go_ret
    exact ⟨rfl, HB4.out⟩
end Go.Proofs.Ytmhkkdnopcdibaa
