/-
  Packed: Orders, HasMem, Lists2, TyIntSS.
-/
import Derived.OneCell
import Derived.Test.YtmhkkdnopcdibaaQ1
import Derived.Test.YtmhkkdnopcdibaaQ4
import Derived.Test.YtmhkkdnopcdibaaQ5
set_option linter.unusedVariables false
namespace Go.Proofs.Ytmhkkdnopcdibaa
open Go.RowKit

def hasP (g : Nat → Int) (x : Int) (n : Nat) : Prop := ∃ j, j < n ∧ g j = x
theorem hasP_at {g : Nat → Int} {x : Int} {n j : Nat} (h : j < n) (hg : g j = x) : hasP g x n := ⟨j, h, hg⟩
theorem l02Has_yes (v : Value) (n : Nat) (g : Nat → Int) (x : Int) (w : World) (h : IntRow w v n g) (hp : hasP g x n) :
    Calls Try.prog 60 #[v, .int .i64 x] w fun e w' => e = .returned (.bool true) ∧ w = w' := by
  obtain ⟨a, cap, rfl, hn, hv⟩ := h.form
  have HV := Lib.hid hv
  have HP := Lib.hid hp
  clear hv h hp
  go_enter Try.func60, Try.ntmps60
  go_wp2
  go_loop [9] (fun i => ∃ k : Nat, k ≤ n ∧ i = .int .i64 k ∧ Hid (∀ j, j < k → g j ≠ x)) (fun i => n - (RowKit.intOf i).toNat)
  case atStart => exact ⟨0, Nat.zero_le _, rfl, fun j hj => absurd hj (by omega)⟩
  case round =>
    obtain ⟨k, hk, rfl, hno⟩ := hrel
    by_cases hlt : k < n
    · obtain ⟨b, off, rfl, hc⟩ := HV.out (by omega)
      have c1 := hc k hlt
      have HK := Lib.hid (rfl : g k = g k)
      have HN : ∀ y, g k = y → y ≠ x → Hid (∀ j, j < k + 1 → g j ≠ x) := fun y hy hx j hj => by
        by_cases hjk : j = k
        · rw [hjk, hy]; exact hx
        · exact hno.out j (by omega)
      have HN := Lib.hid HN
      generalize hy : g k = y at *
      have HY := Lib.hid hy
      clear hc HV hno hy HK
      by_cases hx : y = x
      · subst hx
        go_wp2
        go_ret
        exact ⟨rfl, rfl⟩
      · have g1 : (y == x) = false := by simpa using hx
        have HX := Lib.hid hx
        clear hx
        go_wp2
        go_round
        case rel => exact ⟨k + 1, by omega, by go_num, HN.out _ rfl HX.out⟩
        case measure => simp [RowKit.intOf]; omega
    · obtain ⟨j, hj, hjx⟩ := HP.out
      exact absurd hjx (hno.out j (by omega))
theorem l02Has_no (v : Value) (n : Nat) (g : Nat → Int) (x : Int) (w : World) (h : IntRow w v n g) (hp : ¬ hasP g x n) :
    Calls Try.prog 60 #[v, .int .i64 x] w fun e w' => e = .returned (.bool false) ∧ w = w' := by
  obtain ⟨a, cap, rfl, hn, hv⟩ := h.form
  have HV := Lib.hid hv
  have HP := Lib.hid hp
  clear hv h hp
  go_enter Try.func60, Try.ntmps60
  go_wp2
  go_loop [9] (fun i => ∃ k : Nat, k ≤ n ∧ i = .int .i64 k) (fun i => n - (RowKit.intOf i).toNat)
  case atStart => exact ⟨0, Nat.zero_le _, rfl⟩
  case round =>
    obtain ⟨k, hk, rfl⟩ := hrel
    by_cases hlt : k < n
    · obtain ⟨b, off, rfl, hc⟩ := HV.out (by omega)
      have c1 := hc k hlt
      have g1 : (g k == x) = false := by
        simp only [beq_eq_false_iff_ne, ne_eq]
        exact fun h => HP.out (hasP_at hlt h)
      clear hc HV
      generalize g k = y at *
      go_wp2
      go_round
      case rel => exact ⟨k + 1, by omega, by go_num⟩
      case measure => simp [RowKit.intOf]; omega
    · go_wp2
      go_ret
      exact ⟨rfl, rfl⟩

def placeI (g : Nat → Int) (x : Int) : Nat → Nat → Int
  | 0, _ => -1
  | r + 1, k => if g k = x then (k : Int) else placeI g x r (k + 1)
theorem placeOf_spec (v : Value) (n : Nat) (g : Nat → Int) (x : Int) (w : World) (h : IntRow w v n g) :
    Calls Try.prog 73 #[v, .int .i64 x] w fun e w' => e = .returned (.int .i64 (placeI g x n 0)) ∧ w = w' := by
  obtain ⟨a, cap, rfl, hn, hv⟩ := h.form
  have HV := Lib.hid hv
  clear hv h
  generalize hr : placeI g x n 0 = R
  have HR := Lib.hid hr
  clear hr
  go_enter Try.func73, Try.ntmps73
  go_wp2
  go_loop [9] (fun i => ∃ k : Nat, k ≤ n ∧ i = .int .i64 k ∧ Hid (placeI g x (n - k) k = R)) (fun i => n - (RowKit.intOf i).toNat)
  case atStart => exact ⟨0, Nat.zero_le _, rfl, HR.out⟩
  case round =>
    obtain ⟨k, hk, rfl, hp⟩ := hrel
    by_cases hlt : k < n
    · obtain ⟨b, off, rfl, hc⟩ := HV.out (by omega)
      have c1 := hc k hlt
      have hstep : (if g k = x then (k : Int) else placeI g x (n - (k + 1)) (k + 1)) = R := by
        have := hp.out
        rw [show n - k = n - (k + 1) + 1 by omega] at this
        exact this
      clear hc HV hp
      by_cases hx : g k = x
      · rw [if_pos hx] at hstep
        subst hstep
        clear HR
        rw [hx] at c1
        clear hx
        go_wp2
        go_ret
        exact ⟨rfl, rfl⟩
      · rw [if_neg hx] at hstep
        have HS := Lib.hid hstep
        have g1 : (g k == x) = false := by simpa using hx
        clear hx hstep
        generalize g k = y at c1 g1
        go_wp2
        go_round
        case rel => exact ⟨k + 1, by omega, by go_num, HS.out⟩
        case measure => simp [RowKit.intOf]; omega
    · obtain rfl : k = n := by omega
      have hR : R = -1 := by rw [← hp.out, Nat.sub_self]; rfl
      subst hR
      clear hp HR
      go_wp2
      go_ret
      exact ⟨rfl, rfl⟩

def orderP (m : Int) (n : Nat) (g : Nat → Int) : Prop := (0 ≤ m ∧ m ≤ 8) ∧ (n : Int) = m ∧ ∀ i, i < n → (0 ≤ g i ∧ g i ≤ m - 1) ∧ ¬ hasP g (g i) i
theorem IntRow.take {w : World} {b off cap n : Nat} {g : Nat → Int} (k : Nat) (hk : k ≤ n) (hn : n ≤ 9223372036854775807) (hcap : n ≤ cap) (h : ∀ i, i < n → w.cell? ⟨b, off + i, none⟩ = some (.int .i64 (g i))) :
    IntRow w (.slice (some ⟨b, off, none⟩) k cap) k g := by
  by_cases h0 : k = 0
  · subst h0; exact .inl ⟨_, _, rfl, rfl⟩
  · exact .inr ⟨b, off, cap, rfl, by omega, by omega, fun i hi => h i (by omega), by omega⟩
end Go.Proofs.Ytmhkkdnopcdibaa
set_option linter.unusedVariables false
namespace Go.Proofs.Ytmhkkdnopcdibaa
open Go.RowKit

theorem hasP_mem (L : List Int) (x : Int) : hasP (getI L) x L.length ↔ x ∈ L := by
  constructor
  · rintro ⟨j, hj, rfl⟩
    simp only [getI, List.getD_eq_getElem?_getD, List.getElem?_eq_getElem hj, Option.getD_some]
    exact List.getElem_mem hj
  · intro h
    obtain ⟨j, hj, he⟩ := List.getElem_of_mem h
    exact ⟨j, hj, by simp only [getI, List.getD_eq_getElem?_getD, List.getElem?_eq_getElem hj, Option.getD_some]; exact he⟩
theorem owns_form {w : World} {base : Nat} {e : TypeId} {size : Nat} {v : Value} {n : Nat} {xs : List Value} (h : w.ownsRow base e size v n xs) : ∃ a c, v = .slice a n c := by
  rcases h.2 with ⟨rfl, h0⟩ | ⟨b, cap, cur, rfl, _⟩
  · exact ⟨none, 0, by rw [h0]⟩
  · exact ⟨_, _, rfl⟩
end Go.Proofs.Ytmhkkdnopcdibaa
set_option linter.unusedVariables false
namespace Go.Proofs.Ytmhkkdnopcdibaa
open Go.RowKit

theorem pairwise_set {α : Type} {R : α → α → Prop} (hs : ∀ a b, R a b → R b a) : ∀ (l : List α) (i : Nat) (x : α), l.Pairwise R → (∀ j y, j ≠ i → l[j]? = some y → R x y) → (l.set i x).Pairwise R
  | [], _, _, h, _ => by simp
  | y :: l, 0, x, h, hx => by
    rw [List.set_cons_zero, List.pairwise_cons]
    exact ⟨fun z hz => by obtain ⟨j, hj⟩ := List.mem_iff_getElem?.1 hz; exact hx (j + 1) z (by omega) (by simpa using hj), (List.pairwise_cons.1 h).2⟩
  | y :: l, i + 1, x, h, hx => by
    rw [List.set_cons_succ, List.pairwise_cons]
    refine ⟨fun z hz => ?_, pairwise_set hs l i x (List.pairwise_cons.1 h).2 fun j z hj hz => hx (j + 1) z (by omega) (by simpa using hz)⟩
    rcases List.mem_or_eq_of_mem_set hz with hz | rfl
    · exact (List.pairwise_cons.1 h).1 z hz
    · exact hs _ _ (hx 0 y (by omega) rfl)
theorem pairwise_at {α : Type} {R : α → α → Prop} (hs : ∀ a b, R a b → R b a) : ∀ (l : List α) (i j : Nat) (x y : α), l.Pairwise R → l[i]? = some x → l[j]? = some y → i ≠ j → R x y
  | [], _, _, _, _, _, h, _, _ => by simp at h
  | z :: l, 0, 0, _, _, _, _, _, hn => absurd rfl hn
  | z :: l, 0, j + 1, x, y, h, h1, h2, _ => by
    simp only [List.getElem?_cons_zero, Option.some.injEq] at h1
    subst h1
    exact (List.pairwise_cons.1 h).1 y (List.mem_of_getElem? (by simpa using h2))
  | z :: l, i + 1, 0, x, y, h, h1, h2, _ => by
    simp only [List.getElem?_cons_zero, Option.some.injEq] at h2
    subst h2
    exact hs _ _ ((List.pairwise_cons.1 h).1 x (List.mem_of_getElem? (by simpa using h1)))
  | z :: l, i + 1, j + 1, x, y, h, h1, h2, hn => pairwise_at hs l i j x y (List.pairwise_cons.1 h).2 (by simpa using h1) (by simpa using h2) (by omega)
def SplitSt (w : World) (B : Nat) (ov av : Value) (T : List (Int × Value × List Int)) : Prop :=
  w.ownsRow B 31 1 ov T.length (T.map fun x => x.2.1) ∧ w.ownsRow B 3 1 av T.length (T.map fun x => Value.int .i64 x.1) ∧ OwnT w B 3 T ∧ ApartL (ov :: av :: T.map fun x => x.2.1)
theorem SplitSt.below {w w' : World} {B C : Nat} {ov av : Value} {T : List (Int × Value × List Int)} (h : SplitSt w B ov av T) (hb : Below C w w') (hC : w.heap.size ≤ C) : SplitSt w' B ov av T :=
  ⟨owns_below h.1 hb hC, owns_below h.2.1 hb hC, h.2.2.1.below hb hC, h.2.2.2⟩
theorem apart_ne {v : Value} {g : Nat} {n c : Nat} (h : ApartV (.slice (some ⟨g, 0, none⟩) n c) v) : v.ownBlock ≠ some g := h g rfl
theorem SplitSt.old {w w' : World} {B og oc ld gg m c' : Nat} {av iv : Value} {v t : Int} {p : List Int} {T : List (Int × Value × List Int)}
    (h : SplitSt w B (.slice (some ⟨og, 0, none⟩) T.length oc) av T) (hx : T[ld]? = some (v, iv, p)) (hg : w.grownBy w' iv.ownBlock)
    (ho : w'.ownsRow B 3 1 (.slice (some ⟨gg, 0, none⟩) (p.length + 1) c') (p.length + 1) (p.map (Value.int .i64) ++ [.int .i64 t])) (hat : iv.ownBlock = some gg ∨ w.heap.size ≤ gg) :
    SplitSt (w'.setCell ⟨og, ld, none⟩ (.slice (some ⟨gg, 0, none⟩) (p.length + 1) c')) B (.slice (some ⟨og, 0, none⟩) T.length oc) av (T.set ld (v, .slice (some ⟨gg, 0, none⟩) (p.length + 1) c', p ++ [t])) := by
  obtain ⟨h1, h2, h3, h4⟩ := h
  have hld : ld < T.length := (List.getElem?_eq_some_iff.1 hx).1
  have ha := List.pairwise_cons.1 h4
  have hb := List.pairwise_cons.1 ha.2
  have hm : ∀ x ∈ T, x.2.1 ∈ T.map fun x => x.2.1 := fun x hx => List.mem_map.2 ⟨x, hx, rfl⟩
  have hxm : (v, iv, p) ∈ T := List.mem_of_getElem? hx
  have hoi : ∀ k, iv.ownBlock = some k → og ≠ k := fun k hk e => ha.1 iv (List.mem_cons_of_mem _ (hm _ hxm)) og rfl (by rw [e]; exact hk)
  have hai : ∀ k, iv.ownBlock = some k → av.ownBlock ≠ some k := fun k hk e => hb.1 iv (hm _ hxm) k e hk
  have hoL := h1.lt og rfl
  have hgo : gg ≠ og := by
    rcases hat with h | h
    · exact fun e => hoi gg h e.symm
    · omega
  have hblk : ∀ k, (Value.slice (some ⟨gg, 0, none⟩) (p.length + 1) c').ownBlock = some k → k = gg := fun k hk => by simpa [Value.ownBlock] using hk.symm
  have hao : av.ownBlock ≠ some og := ha.1 av (List.mem_cons_self ..) og rfl
  have hmap : (T.set ld (v, Value.slice (some ⟨gg, 0, none⟩) (p.length + 1) c', p ++ [t])).map (fun x => x.2.1) = (T.map fun x => x.2.1).set ld (.slice (some ⟨gg, 0, none⟩) (p.length + 1) c') := by rw [List.map_set]
  refine ⟨?_, ?_, ?_, ?_⟩
  · rw [hmap, List.length_set]
    exact ((h1.kept hg (.inr (by cases hk : iv.ownBlock with
      | none => simp [Value.ownBlock]
      | some k => have := hoi k hk; simp [Value.ownBlock]; exact this))).stored ld _).1
  · rw [List.length_set]
    have hmap2 : (T.set ld (v, Value.slice (some ⟨gg, 0, none⟩) (p.length + 1) c', p ++ [t])).map (fun x => Value.int .i64 x.1) = T.map fun x => Value.int .i64 x.1 := by
      rw [List.map_set]
      apply List.ext_getElem?
      intro j
      by_cases e : ld = j
      · subst e
        rw [List.getElem?_set_self (by simpa using hld), List.getElem?_map, hx]
        rfl
      · rw [List.getElem?_set_ne e]
    rw [hmap2]
    refine ownsRow_setCell_other (h2.kept hg ?_) hao _
    cases hk : iv.ownBlock with
    | none => cases hk2 : av.ownBlock with
      | none => exact .inl rfl
      | some k2 => exact .inr (by simp)
    | some k => exact .inr fun e => hai k hk e
  · intro x hxs
    obtain ⟨j, hj⟩ := List.mem_iff_getElem?.1 hxs
    by_cases e : ld = j
    · subst e
      rw [List.getElem?_set_self hld, Option.some.injEq] at hj
      subst hj
      refine ownsRow_setCell_other ?_ ?_ _
      · simpa using ho
      · exact fun e => hgo (hblk og e).symm
    · rw [List.getElem?_set_ne e] at hj
      have hxT := List.mem_of_getElem? hj
      refine ownsRow_setCell_other ((h3 x hxT).kept hg ?_) ?_ _
      · have hap := pairwise_at (fun a b => ApartV.symm) _ ld j iv x.2.1 hb.2 (by rw [List.getElem?_map, hx]; rfl) (by rw [List.getElem?_map, hj]; rfl) e
        cases hk : iv.ownBlock with
        | none => cases hk2 : x.2.1.ownBlock with
          | none => exact .inl rfl
          | some k2 => exact .inr (by simp)
        | some k => exact .inr (hap k hk)
      · exact ha.1 x.2.1 (List.mem_cons_of_mem _ (hm x hxT)) og rfl
  · rw [hmap]
    refine List.pairwise_cons.2 ⟨fun z hz => ?_, List.pairwise_cons.2 ⟨fun z hz => ?_, ?_⟩⟩
    · rcases List.mem_cons.1 hz with rfl | hz
      · exact ha.1 _ (List.mem_cons_self ..)
      · rcases List.mem_or_eq_of_mem_set hz with hz | rfl
        · exact ha.1 z (List.mem_cons_of_mem _ hz)
        · exact fun k h1 h2 => hgo ((hblk k h2).symm.trans (by simpa [Value.ownBlock] using h1.symm))
    · rcases List.mem_or_eq_of_mem_set hz with hz | rfl
      · exact hb.1 z hz
      · intro k h1 h2'
        have := hblk k h2'
        subst this
        rcases hat with h | h
        · exact hai k h h1
        · have := (h2.lt k h1).2; omega
    · refine pairwise_set (fun a b => ApartV.symm) _ _ _ hb.2 fun j y hj hy => ?_
      intro k h1 h2'
      have := hblk k h1
      subst this
      rcases hat with h | h
      · exact pairwise_at (fun a b => ApartV.symm) _ ld j iv y hb.2 (by rw [List.getElem?_map, hx]; rfl) hy (by omega) k h h2'
      · rw [List.getElem?_map] at hy
        cases hT : T[j]? with
        | none => rw [hT] at hy; cases hy
        | some z =>
          rw [hT] at hy
          simp only [Option.map_some, Option.some.injEq] at hy
          subst hy
          have := (h3.lt (List.mem_of_getElem? hT) h2').2
          omega
theorem SplitSt.new {w w' : World} {B ga ca go co D ld : Nat} {v t : Int} {T : List (Int × Value × List Int)}
    (h1 : w.ownsRow B 31 1 (.slice (some ⟨go, 0, none⟩) (T.length + 1) co) (T.length + 1) (gapA (T.map fun x => x.2.1) ld (.slice (some ⟨D, 0, none⟩) 1 1)))
    (h2 : w.ownsRow B 3 1 (.slice (some ⟨ga, 0, none⟩) (T.length + 1) ca) (T.length + 1) ((gapA (T.map Prod.fst) ld v).map (Value.int .i64)))
    (h3 : OwnT w B 3 T) (h4 : ApartL (T.map fun x => x.2.1)) (h5 : w.ownsRow B 3 1 (.slice (some ⟨D, 0, none⟩) 1 1) 1 [.int .i64 t])
    (hgo : ∀ x ∈ T, x.2.1.ownBlock ≠ some go) (hga : ∀ x ∈ T, x.2.1.ownBlock ≠ some ga) (hD : ∀ x ∈ T, x.2.1.ownBlock ≠ some D) (hn1 : go ≠ ga) (hn2 : go ≠ D) (hn3 : ga ≠ D) (hld : ld ≤ T.length) :
    SplitSt w B (.slice (some ⟨go, 0, none⟩) (T.length + 1) co) (.slice (some ⟨ga, 0, none⟩) (T.length + 1) ca) (gapA T ld (v, .slice (some ⟨D, 0, none⟩) 1 1, [t])) := by
  have hl : (gapA T ld (v, Value.slice (some ⟨D, 0, none⟩) 1 1, [t])).length = T.length + 1 := gapA_len hld
  have hb : ∀ (g n c k : Nat), (Value.slice (some ⟨g, 0, none⟩) n c).ownBlock = some k → k = g := fun g n c k hk => by simpa [Value.ownBlock] using hk.symm
  have hin : ∀ y ∈ gapA (T.map fun x => x.2.1) ld (Value.slice (some ⟨D, 0, none⟩) 1 1), y = .slice (some ⟨D, 0, none⟩) 1 1 ∨ ∃ x ∈ T, x.2.1 = y := fun y hy => by
    rcases gapA_mem hy with h | h
    · exact .inl h
    · exact .inr (List.mem_map.1 h)
  refine ⟨by rw [hl, gapA_map]; exact h1, ?_, ?_, ?_⟩
  · rw [hl, gapA_map]
    rw [gapA_map, List.map_map] at h2
    exact h2
  · intro x hx
    rcases gapA_mem hx with rfl | hx
    · exact h5
    · exact h3 x hx
  · rw [gapA_map]
    refine List.pairwise_cons.2 ⟨fun z hz => ?_, List.pairwise_cons.2 ⟨fun z hz => ?_, gapA_pairwise h4 (fun y hy => ?_) fun y hy => ?_⟩⟩
    · rcases List.mem_cons.1 hz with rfl | hz
      · intro k e1 e2
        exact hn1 ((hb _ _ _ _ e1).symm.trans (hb _ _ _ _ e2))
      · rcases hin z hz with rfl | ⟨x, hx, rfl⟩
        · intro k e1 e2
          exact hn2 ((hb _ _ _ _ e1).symm.trans (hb _ _ _ _ e2))
        · intro k e1 e2
          have := hb _ _ _ _ e1
          subst this
          exact hgo x hx e2
    · rcases hin z hz with rfl | ⟨x, hx, rfl⟩
      · intro k e1 e2
        exact hn3 ((hb _ _ _ _ e1).symm.trans (hb _ _ _ _ e2))
      · intro k e1 e2
        have := hb _ _ _ _ e1
        subst this
        exact hga x hx e2
    · obtain ⟨x, hx, rfl⟩ := List.mem_map.1 hy
      intro k e1 e2
      have := hb _ _ _ _ e2
      subst this
      exact hD x hx e1
    · obtain ⟨x, hx, rfl⟩ := List.mem_map.1 hy
      intro k e1 e2
      have := hb _ _ _ _ e1
      subst this
      exact hD x hx e2
theorem OwnT.store {w : World} {B : Nat} {e : TypeId} {T : List (Int × Value × List Int)} (h : OwnT w B e T) {a : Addr} (ha : ∀ x ∈ T, x.2.1.ownBlock ≠ some a.block) (u : Value) : OwnT (w.setCell a u) B e T :=
  fun x hx => ownsRow_setCell_other (h x hx) (ha x hx) u
def LL (w : World) (B : Nat) (v : Value) (T : List (Value × List Int)) : Prop :=
  w.ownsRow B 31 1 v T.length (T.map Prod.fst) ∧ (∀ x ∈ T, w.ownsRow B 3 1 x.1 x.2.length (x.2.map (Value.int .i64))) ∧ ApartL (v :: T.map Prod.fst)
theorem LL.below {w w' : World} {B C : Nat} {v : Value} {T : List (Value × List Int)} (h : LL w B v T) (hb : Below C w w') (hC : w.heap.size ≤ C) : LL w' B v T :=
  ⟨owns_below h.1 hb hC, fun x hx => owns_below (h.2.1 x hx) hb hC, h.2.2⟩
theorem LL.mono {w : World} {B B' : Nat} {v : Value} {T : List (Value × List Int)} (h : LL w B v T) (hb : B' ≤ B) : LL w B' v T :=
  ⟨owns_mono h.1 hb, fun x hx => owns_mono (h.2.1 x hx) hb, h.2.2⟩
theorem SplitSt.ll {w : World} {B : Nat} {ov av : Value} {T : List (Int × Value × List Int)} (h : SplitSt w B ov av T) : LL w B ov (T.map Prod.snd) := by
  obtain ⟨h1, _, h3, h4⟩ := h
  refine ⟨by rw [List.length_map, List.map_map]; exact h1, fun x hx => ?_, ?_⟩
  · obtain ⟨y, hy, rfl⟩ := List.mem_map.1 hx
    exact h3 y hy
  · rw [List.map_map]
    have ha := List.pairwise_cons.1 h4
    exact List.pairwise_cons.2 ⟨fun z hz => ha.1 z (List.mem_cons_of_mem _ hz), (List.pairwise_cons.1 ha.2).2⟩
theorem wpList_appendR {P : Program} {w : World} {ops : Array Oper} {rest : List Oper} {o : Oper} {a : Act} {Q : Exit → Act → World → Prop} (hgd : o.guard = none) (s x : Operand) (t : TypeId)
    (ho : o.op = .call { callee := .builtin .append, args := #[s, x], argTypes := #[t, t] })
    (base : Nat) (e : TypeId) {i : TypeInfo} {z : Value} {k bytes : Nat} (ht : P.underlying t = some (.slice e)) (hi : P.info? e = some i) (hz : i.zero = some z) (hsize : i.size = k) (hby : i.bytes = bytes) (hzs : z.cells.size = k) (hk0 : 0 < k)
    {v u : Value} {n m : Nat} {xs : List Value} {g : Nat → List Value} (hs : a.eval s = v) (hown : w.ownsRow base e k v n xs) (hx : a.eval x = u) (hrow : RecRow k w u m g) (hgl : ∀ i, i < m → (g i).length = k) (h1 : ∀ i, i < m → ∀ u ∈ g i, u.oneCell' = true)
    (hm : n + m ≤ 1048576) (hb : bytes ≤ 1048576) (hbase : base ≤ w.heap.size)
    (h : ∀ vv w', w'.ownsRow base e k vv (n + m) (xs ++ flatR g m) → w.grownBy w' v.ownBlock → (∀ q, vv.ownBlock = some q → v.ownBlock = some q ∨ w.heap.size ≤ q) → wpList P ops Q rest (a.put o.dst vv) w') : wpList P ops Q (o :: rest) a w := by
  rcases hrow with ⟨ad, cap, rfl, rfl⟩ | ⟨b, off, c, rfl, h0, _, hc, _⟩
  · exact wpList_appendZero hgd s x t ho base e i k ht hi v n xs hs hown ad cap hx (h _ _ (by simpa [flatR] using hown) ⟨rfl, rfl, rfl, Nat.le_refl _, fun _ _ _ => rfl⟩ fun q hq => .inl hq)
  · have hmul : (n + m) * bytes ≤ 1048576 * 1048576 := Nat.mul_le_mul hm hb
    refine wpList_append_lies _ hgd s x t ho base e i z k bytes ht hi hz hsize hby hzs hk0 v n xs hs hown ⟨b, off, none⟩ m c (flatR g m) hx (flatR_len k g m hgl) ?_ ?_ h0 (by unfold maxLen; omega) (by omega) hbase _ rfl ?_
    · intro j u hu
      obtain ⟨hj, hv⟩ := flatR_get k g m hgl hk0 j u hu
      have hadd : (⟨b, off, none⟩ : Addr).add j = ⟨b, off + j, none⟩ := by unfold Addr.add; split <;> simp_all
      have hq := (hc _ hj).2 _ u hv
      rw [show off + j / k * k + j % k = off + j by rw [Nat.add_assoc, Nat.mul_comm, Nat.div_add_mod]] at hq
      rw [hadd]
      exact hq
    · intro u hu
      unfold flatR at hu
      rw [List.mem_flatMap] at hu
      obtain ⟨j, hj, hu⟩ := hu
      exact h1 j (List.mem_range.1 hj) u hu
    · intro gg cap w' ho' hg' hat hlt
      refine h _ w' ho' hg' fun q hq => ?_
      have hq' : gg = q := by simpa [Value.ownBlock] using hq
      subst hq'
      rcases hat with h5 | h5
      · exact .inl h5
      · exact .inr (by omega)
theorem OwnT_nil {w : World} {B : Nat} {e : TypeId} : OwnT w B e [] := fun x hx => by cases hx
theorem one_of_slice {v : Value} {w : World} {base : Nat} {e : TypeId} {size n : Nat} {xs : List Value} (h : w.ownsRow base e size v n xs) : v.oneCell' = true := by
  obtain ⟨a, c, rfl⟩ := owns_form h
  rfl
theorem LL.append {w w0 w' : World} {B B' : Nat} {v v2 vv : Value} {T T2 : List (Value × List Int)} (h : LL w0 B v T) (hw : Below w0.heap.size w0 w) (h2 : LL w B' v2 T2) (hB : B ≤ B') (hB2 : w0.heap.size ≤ B')
    (ho : w'.ownsRow B 31 1 vv (T.length + T2.length) (T.map Prod.fst ++ T2.map Prod.fst)) (hg : w.grownBy w' v.ownBlock) (hat : ∀ q, vv.ownBlock = some q → v.ownBlock = some q ∨ w.heap.size ≤ q) : LL w' B vv (T ++ T2) := by
  have h' := h.below hw (Nat.le_refl _)
  have hA := List.pairwise_cons.1 h.2.2
  have hA2 := List.pairwise_cons.1 h2.2.2
  have k1 : ∀ x ∈ T, v.ownBlock = none ∨ ∀ k, x.1.ownBlock = some k → v.ownBlock ≠ some k := fun x hx => .inr fun k hk e => hA.1 x.1 (List.mem_map.2 ⟨x, hx, rfl⟩) k e hk
  have lt0 : ∀ k, v.ownBlock = some k → k < w0.heap.size := fun k hk => (h.1.lt k hk).2
  refine ⟨by rw [List.length_append, List.map_append]; exact ho, fun x hx => ?_, ?_⟩
  · rcases List.mem_append.1 hx with hx | hx
    · refine (h'.2.1 x hx).kept hg ?_
      cases hk : x.1.ownBlock with
      | none => exact .inl rfl
      | some k => exact .inr fun e => hA.1 x.1 (List.mem_map.2 ⟨x, hx, rfl⟩) k e.symm hk
    · refine owns_mono ((h2.2.1 x hx).kept hg ?_) hB
      cases hk : x.1.ownBlock with
      | none => exact .inl rfl
      | some k =>
        refine .inr fun e => ?_
        have := lt0 k e.symm
        have := ((h2.2.1 x hx).lt k hk).1
        omega
  · rw [List.map_append]
    refine List.pairwise_cons.2 ⟨fun z hz => ?_, List.pairwise_append.2 ⟨hA.2, hA2.2, fun a ha b hb => ?_⟩⟩
    · rcases List.mem_append.1 hz with hz | hz
      · intro k e1 e2
        rcases hat k e1 with h5 | h5
        · exact hA.1 z hz k h5 e2
        · obtain ⟨x, hx, rfl⟩ := List.mem_map.1 hz
          have := ((h'.2.1 x hx).lt k e2).2
          omega
      · intro k e1 e2
        obtain ⟨x, hx, rfl⟩ := List.mem_map.1 hz
        have h6 := (h2.2.1 x hx).lt k e2
        rcases hat k e1 with h5 | h5
        · have := lt0 k h5; omega
        · omega
    · intro k e1 e2
      obtain ⟨x, hx, rfl⟩ := List.mem_map.1 ha
      obtain ⟨y, hy, rfl⟩ := List.mem_map.1 hb
      have := ((h.2.1 x hx).lt k e1).2
      have := ((h2.2.1 y hy).lt k e2).1
      omega
def ListsL (w : World) (L : List (List Int)) (e : Ending) (w' : World) : Prop :=
  ∃ v T, e = .returned v ∧ T.map Prod.snd = L ∧ LL w' w.heap.size v T ∧ Below w.heap.size w w'
end Go.Proofs.Ytmhkkdnopcdibaa
set_option linter.unusedVariables false
namespace Go.Proofs.Ytmhkkdnopcdibaa
open Go.RowKit

def tIntSS : Ty := tSl 31 tIntS
theorem opens_IntSS : Opens Try.prog 24 tIntSS := opens_sl Try.underlying24 (by kernel_rfl) opens_IntS
set_option maxRecDepth 100000 in
set_option maxHeartbeats 2000000 in
theorem y_eq_IntSS (v v' : Value) (d : List tIntS.D) (w : World) (h : RdA tIntSS w [v] d) (h' : RdA tIntSS w [v'] d) : Calls Try.prog 64 #[v, v'] w fun e w' => e = .returned (.bool true) ∧ Below w.heap.size w w' := by
  obtain ⟨a, cap, rfl, hn⟩ := rd_row_form h
  obtain ⟨a', cap', rfl, _⟩ := rd_row_form h'
  have HV := Lib.hid h
  have HV' := Lib.hid h'
  clear h h'
  obtain ⟨n, hd⟩ : ∃ n, d.length = n := ⟨_, rfl⟩
  have HD := Lib.hid hd
  rw [hd] at hn HV HV'
  rw [hd]
  clear hd
  go_enter Try.func64, Try.ntmps64
  go_wp2
  go_loopw [5] (fun i wr => ∃ j : Nat, j ≤ n ∧ i = .int .i64 j ∧ Hid (Below w.heap.size w wr)) (fun i _ => n - (RowKit.intOf i).toNat)
  case atStart => exact ⟨0, Nat.zero_le _, rfl, Below.refl _ _⟩
  case round =>
    obtain ⟨j, hj, rfl, hb⟩ := hrel
    by_cases hlt : j < n
    · obtain ⟨y, hy⟩ : ∃ y, d[j]? = some y := ⟨_, List.getElem?_eq_getElem (by have := HD.out; omega)⟩
      obtain ⟨b, off, k, u, hv, hcap, hc, hu⟩ := rd_cell rfl (RdA.below HV.out hb.out) hy
      obtain ⟨b', off', k', u', hv', hcap', hc', hu'⟩ := rd_cell rfl (RdA.below HV'.out hb.out) hy
      simp only [Value.slice.injEq] at hv hv'
      obtain ⟨rfl, hv2, rfl⟩ := hv
      obtain ⟨rfl, hv2', rfl⟩ := hv'
      clear hv2 hv2'
      rw [HD.out] at hcap hcap'
      have hj0 : (0 : Int) ≤ (j : Int) := by omega
      have hj1 : (j : Int) < (n : Int) := by omega
      have HC := Lib.hid (And.intro hc (And.intro hu (And.intro hc' (And.intro hu' hb.out))))
      clear hc hu hc' hu' HV HV' hy hb
      obtain ⟨S, HSd⟩ : ∃ S : World → Prop, S = fun w' => CellsAt w' b (off + j) [u] ∧ RdA tIntS w' [u] y ∧ CellsAt w' b' (off' + j) [u'] ∧ RdA tIntS w' [u'] y ∧ Below w.heap.size w w' := ⟨_, rfl⟩
      have KS : Hid (∀ wa wb, S wa → Below wa.heap.size wa wb → S wb) := by subst HSd; exact fun wa wb h b => ⟨h.1.below b, h.2.1.below b, h.2.2.1.below b, h.2.2.2.1.below b, h.2.2.2.2.trans (b.mono h.2.2.2.2.size)⟩
      have OS : Hid (∀ wa, S wa → CellsAt wa b (off + j) [u] ∧ RdA tIntS wa [u] y ∧ CellsAt wa b' (off' + j) [u'] ∧ RdA tIntS wa [u'] y ∧ Below w.heap.size w wa) := by subst HSd; exact fun wa h => h
      have IS : Hid (∀ wa, CellsAt wa b (off + j) [u] ∧ RdA tIntS wa [u] y ∧ CellsAt wa b' (off' + j) [u'] ∧ RdA tIntS wa [u'] y ∧ Below w.heap.size w wa → S wa) := by subst HSd; exact fun wa h => h
      clear HSd
      go_wp2_with fail
      refine wp_region_held_drew (S := S) (by kernel_rfl) ?_ (fun hHeld => ?_)
      · exact IS.out _ ((fun (h : CellsAt wr b (off + j) [u] ∧ RdA tIntS wr [u] y ∧ CellsAt wr b' (off' + j) [u'] ∧ RdA tIntS wr [u'] y ∧ Below w.heap.size w wr) (b : Below wr.heap.size wr _) => ⟨h.1.below b, h.2.1.below b, h.2.2.1.below b, h.2.2.2.1.below b, h.2.2.2.2.trans (b.mono h.2.2.2.2.size)⟩) HC.out (Below.refl _ _).drew)
      refine wpAnyH_take (i := 0) (v := ?_) rfl (by kernel_rfl) (by kernel_rfl) (by kernel_rfl) (fun _ _ _ h => h) (Or.inl ⟨by rfl, ?_⟩) hHeld ?_
      rotate_left
      · (intro wa hSw; go_simp; try with_reducible rfl)
      simp only [Act.put, List.getElem_toArray, List.getElem_cons_zero, List.setIfInBounds_toArray, List.set_cons_zero, List.set_cons_succ]
      refine wpAnyH_take (i := 1) (v := ?_) rfl (by kernel_rfl) (by kernel_rfl) (by kernel_rfl) (fun _ _ _ h => h) (Or.inl ⟨by rfl, ?_⟩) hHeld ?_
      rotate_left
      · (intro wa hSw; go_simp; try with_reducible rfl)
      simp only [Act.put, List.getElem_toArray, List.getElem_cons_zero, List.getElem_cons_succ, List.setIfInBounds_toArray, List.set_cons_zero, List.set_cons_succ]
      refine wpAnyH_take (i := 2) (v := ?_) rfl (by kernel_rfl) (by kernel_rfl) (by kernel_rfl) (fun _ _ _ h => h) (Or.inl ⟨by rfl, ?_⟩) hHeld ?_
      rotate_left
      · (intro wa hSw; go_simp; try with_reducible rfl)
      simp only [Act.put, List.getElem_toArray, List.getElem_cons_zero, List.getElem_cons_succ, List.setIfInBounds_toArray, List.set_cons_zero, List.set_cons_succ]
      refine wpAnyH_take (i := 3) (v := ?_) rfl (by kernel_rfl) (by kernel_rfl) (by kernel_rfl) (fun _ _ _ h => h) (Or.inl ⟨by rfl, ?_⟩) hHeld ?_
      rotate_left
      · (intro wa hSw; have K := OS.out _ hSw; have c0 : wa.cell? ⟨b, off + j, none⟩ = some u := K.1.2 0 _ rfl; have c1 : wa.cell? ⟨b', off' + j, none⟩ = some u' := K.2.2.1.2 0 _ rfl; go_simp; try with_reducible rfl)
      simp only [Act.put, List.getElem_toArray, List.getElem_cons_zero, List.getElem_cons_succ, List.setIfInBounds_toArray, List.set_cons_zero, List.set_cons_succ]
      refine wpAnyH_take (i := 4) (v := ?_) rfl (by kernel_rfl) (by kernel_rfl) (by kernel_rfl) (fun _ _ _ h => h) (Or.inl ⟨by rfl, ?_⟩) hHeld ?_
      rotate_left
      · (intro wa hSw; go_simp; try with_reducible rfl)
      simp only [Act.put, List.getElem_toArray, List.getElem_cons_zero, List.getElem_cons_succ, List.setIfInBounds_toArray, List.set_cons_zero, List.set_cons_succ]
      refine wpAnyH_take (i := 5) (v := ?_) rfl (by kernel_rfl) (by kernel_rfl) (by kernel_rfl) (fun _ _ _ h => h) (Or.inl ⟨by rfl, ?_⟩) hHeld ?_
      rotate_left
      · (intro wa hSw; go_simp; try with_reducible rfl)
      simp only [Act.put, List.getElem_toArray, List.getElem_cons_zero, List.getElem_cons_succ, List.setIfInBounds_toArray, List.set_cons_zero, List.set_cons_succ]
      refine wpAnyH_take (i := 6) (v := ?_) rfl (by kernel_rfl) (by kernel_rfl) (by kernel_rfl) (fun _ _ _ h => h) (Or.inl ⟨by rfl, ?_⟩) hHeld ?_
      rotate_left
      · (intro wa hSw; go_simp; try with_reducible rfl)
      simp only [Act.put, List.getElem_toArray, List.getElem_cons_zero, List.getElem_cons_succ, List.setIfInBounds_toArray, List.set_cons_zero, List.set_cons_succ]
      refine wpAnyH_take (i := 7) (v := ?_) rfl (by kernel_rfl) (by kernel_rfl) (by kernel_rfl) (fun _ _ _ h => h) (Or.inl ⟨by rfl, ?_⟩) hHeld ?_
      rotate_left
      · (intro wa hSw; have K := OS.out _ hSw; have c0 : wa.cell? ⟨b, off + j, none⟩ = some u := K.1.2 0 _ rfl; have c1 : wa.cell? ⟨b', off' + j, none⟩ = some u' := K.2.2.1.2 0 _ rfl; go_simp; try with_reducible rfl)
      simp only [Act.put, List.getElem_toArray, List.getElem_cons_zero, List.getElem_cons_succ, List.setIfInBounds_toArray, List.set_cons_zero, List.set_cons_succ]
      refine wpAnyH_ready (rs := [8]) (by kernel_rfl) (by simp) ?_
      refine AllReadyH.cons (o := _) rfl (fun K hK => ?_) AllReadyH.nil
      go_simp
      have KK := OS.out _ hHeld
      refine (y_eq_IntS u u' y _ KK.2.1 KK.2.2.2.1).mono ?_
      rintro e w101 ⟨rfl, b101⟩
      clear KK
      (try go_wp2_with fail)
      refine hK.out _ _ ?_ (fun hHeld101 => ?_)
      · exact KS.out _ _ hHeld b101
      clear hK K
      refine wpAnyH_take (i := 9) (v := ?_) rfl (by kernel_rfl) (by kernel_rfl) (by kernel_rfl) (fun _ _ _ h => h) (Or.inl ⟨by rfl, ?_⟩) hHeld101 ?_
      rotate_left
      · (intro wa hSw; go_simp; try with_reducible rfl)
      simp only [Act.put, List.getElem_toArray, List.getElem_cons_zero, List.getElem_cons_succ, List.setIfInBounds_toArray, List.set_cons_zero, List.set_cons_succ]
      refine wpAnyH_done (by kernel_rfl) ?_ _
      have KE := Lib.hid (OS.out _ hHeld101)
      clear KS OS IS hHeld hHeld101
      have HE := Lib.hid KE.out.2.2.2.2
      clear KE HC
      go_wp2
      go_roundw
      case rel => exact ⟨j + 1, by omega, by go_num, HE.out⟩
      case measure => simp [RowKit.intOf]; omega
    · obtain rfl : j = n := by omega
      go_wp2
      go_ret
      exact ⟨rfl, hb.out⟩
set_option maxRecDepth 100000 in
set_option maxHeartbeats 2000000 in
theorem yb_mk_IntSS (v : Value) (d : List tIntS.D) (k : Int) (lo : Nat) (bs : List Nat) (w : World) (h : tIntSS.Ow w lo [v] d bs) (hnd : bs.Nodup) (h0 : 0 < k) (hk : k + tIntSS.mks d ≤ 1000000000000) : Calls Try.prog 70 #[v, .int .i64 k] w (MarkC tIntSS [v] (tIntSS.mkd k d) (tIntSS.mks d) k bs w) := by
  obtain ⟨f, us, R⟩ := RowsOw.of rfl h hnd
  obtain ⟨a, cap, rfl, hn⟩ := rd_row_form (tIntSS.ow_rd h)
  have HR := Lib.hid R
  have HM : Hid (tIntSS.mks d = (d.map tIntS.mks).sum) := rfl
  have HK := Lib.hid hk
  clear R h hnd hk
  obtain ⟨n, hd⟩ : ∃ n, d.length = n := ⟨_, rfl⟩
  have HD := Lib.hid hd
  rw [hd] at hn HR
  rw [hd]
  clear hd
  go_enter Try.func70, Try.ntmps70
  go_wp2
  go_loopw [1, 5] (fun kv i wr => ∃ j : Nat, j ≤ n ∧ i = .int .i64 j ∧ Hid (kv = .int .i64 (k + (((d.take j).map tIntS.mks).sum : Nat))) ∧ Hid (KeepB ((List.range j).flatMap f) w wr) ∧ Hid (∀ i y, i < j → d[i]? = some y → tIntS.Rd wr (fun q => q ∈ f i) [us i] (tIntS.mkd (k + (((d.take i).map tIntS.mks).sum : Nat)) y))) (fun _ i _ => n - (RowKit.intOf i).toNat)
  case atStart => exact ⟨0, Nat.zero_le _, rfl, (by show _ = _; simp), KeepB.refl _ _, fun i y hi => absurd hi (Nat.not_lt_zero _)⟩
  case round =>
    obtain ⟨j, hj, rfl, hkv, hkb, hrd⟩ := hrel
    by_cases hlt : j < n
    · obtain ⟨y, hy⟩ : ∃ y, d[j]? = some y := ⟨_, List.getElem?_eq_getElem (by have := HD.out; omega)⟩
      have hjl : j < d.length := (List.getElem?_eq_some_iff.1 hy).1
      have hin : ∀ q, q ∈ (List.range j).flatMap f → ∃ i, i < j ∧ q ∈ f i := fun q hq => by obtain ⟨i, hi, hqi⟩ := List.mem_flatMap.1 hq; exact ⟨i, List.mem_range.1 hi, hqi⟩
      obtain ⟨b, off, c, hv, hcap, hc⟩ := HR.out.cell hkb.out (fun q hq hqf => by obtain ⟨i, hi, hqi⟩ := hin q hqf; exact (HR.out.outer q hq).2 i (by omega) hqi) hjl
      have how := KeepB.ow (HR.out.own j y hy) hkb.out (fun q hq hqf => by obtain ⟨i, hi, hqi⟩ := hin q hqf; exact HR.out.apart i j (by omega) hjl (by omega) q hqi hq)
      have HW := Lib.hid how
      simp only [Value.slice.injEq] at hv
      obtain ⟨rfl, hv2, rfl⟩ := hv
      clear hv2
      rw [HD.out] at hcap
      have hts := take_sum (f := tIntS.mks) hy
      have hle := take_sum_le (f := tIntS.mks) (L := d) (j + 1)
      obtain ⟨K, hK⟩ : ∃ K : Int, k + (((d.take j).map tIntS.mks).sum : Nat) = K := ⟨_, rfl⟩
      have hkk := HK.out
      rw [HM.out] at hkk
      have hK0 : 0 < K := by omega
      have hKk : K + (tIntS.mks y : Nat) ≤ 1000000000000 := by omega
      have HK2 : Hid (K + (tIntS.mks y : Nat) = k + (((d.take (j + 1)).map tIntS.mks).sum : Nat)) := (by show _ = _; omega)
      have HKj : Hid (k + (((d.take j).map tIntS.mks).sum : Nat) = K) := hK
      have hkv2 := hkv.out
      rw [hK] at hkv2
      subst hkv2
      clear hts hle hkk hK hin how hkv
      go_wp2_with fail
      refine (yb_mk_IntS (us j) y K lo (f j) wr HW.out (HR.out.nodup j hjl) hK0 hKk).mono ?_
      rintro e w1 ⟨rfl, hr1, hk1⟩
      have HR1 := Lib.hid hr1
      have HKB := Lib.hid (hkb.out.trans hk1)
      have HK1 := Lib.hid hk1
      clear hr1 hk1 hc
      go_wp2
      go_roundw
      case rel =>
        refine ⟨j + 1, by omega, by go_num, (by show _ = _; rw [HK2.out]), (by show KeepB _ _ _; rw [range_flat_succ]; exact HKB.out), fun i z hi hz => ?_⟩
        by_cases hij : i = j
        · subst hij
          rw [hy] at hz
          cases hz
          rw [HKj.out]
          exact HR1.out
        · exact KeepB.rd (hrd.out i z (by omega) hz) HK1.out (HR.out.apart i j (by omega) hjl hij)
      case measure => simp [RowKit.intOf]; omega
    · obtain rfl : j = n := by omega
      have hdone := RowsOw.done rfl (HR.out) (k := k) (w' := wr) (by rw [HD.out]; exact hkb.out) (fun i y hy => hrd.out i y (by have := (List.getElem?_eq_some_iff.1 hy).1; have := HD.out; omega) hy)
      have HF := Lib.hid hdone
      have hkv2 := hkv.out
      rw [List.take_of_length_le (by have := HD.out; omega)] at hkv2
      subst hkv2
      clear hdone hkv
      go_wp2
      go_ret
      exact ⟨(congrArg (fun z : Nat => Ending.returned (.int .i64 (k + (z : Int)))) HM.out).symm, HF.out.1, HF.out.2⟩
theorem y_mk_IntSS (v : Value) (d : List tIntS.D) (k : Int) (lo hi : Nat) (w : World) (h : OwN tIntSS w lo hi [v] d) (h0 : 0 < k) (hk : k + tIntSS.mks d ≤ 1000000000000) : Calls Try.prog 70 #[v, .int .i64 k] w (MarkT tIntSS [v] d k lo hi w) :=
  mark_windowC h fun bs ho hnd => yb_mk_IntSS v d k lo bs w ho hnd h0 hk
theorem LL.owN {w : World} {B : Nat} {v : Value} {T : List (Value × List Int)} (h : LL w B v T) : OwN tIntSS w B w.heap.size [v] (T.map Prod.snd) := by
  obtain ⟨h1, h2, h3⟩ := h
  have hl : (T.map Prod.snd).length = T.length := List.length_map ..
  have hfl : (List.range (T.map Prod.snd).length).flatMap (fun i => ((T[i]?).map fun x => x.1.ownBlock.toList).getD []) = (T.map Prod.fst).flatMap fun v => v.ownBlock.toList := by
    rw [hl, List.flatMap_def, List.flatMap_def, List.map_map]
    congr 1
    refine List.ext_getElem? fun i => ?_
    rw [List.getElem?_map, List.getElem?_map]
    by_cases hi : i < T.length
    · rw [List.getElem?_range hi, List.getElem?_eq_getElem hi]; simp [List.getElem?_eq_getElem hi]
    · rw [List.getElem?_eq_none (by simpa using hi), List.getElem?_eq_none (by omega)]; rfl
  have hnd := nodup_blocks _ h3
  have h1' : w.ownsRow B 31 1 v (T.map Prod.snd).length (T.map Prod.fst) := by rw [hl]; exact h1
  rw [List.flatMap_cons] at hnd
  have how : tIntSS.Ow w B [v] (T.map Prod.snd) (v.ownBlock.toList ++ (T.map Prod.fst).flatMap fun v => v.ownBlock.toList) := by
    refine ⟨v, T.map Prod.fst, fun i => ((T[i]?).map fun x => x.1.ownBlock.toList).getD [], rfl, h1', fun i y hy => ?_, congrArg (fun z => v.ownBlock.toList ++ z) hfl.symm⟩
    have hy' : Option.map (Prod.snd (α := Value) (β := List Int)) T[i]? = some y := (List.getElem?_map (f := Prod.snd (α := Value) (β := List Int)) (l := T) (i := i)).symm.trans hy
    obtain ⟨x, hx, rfl⟩ := Option.map_eq_some_iff.1 hy'
    have hi := (List.getElem?_eq_some_iff.1 hx).1
    have hx2 : T[i] = x := (List.getElem?_eq_some_iff.1 hx).2
    have hc : ((T.map Prod.fst).drop (i * tIntS.n)).take tIntS.n = [x.1] := by
      show ((T.map Prod.fst).drop (i * 1)).take 1 = [x.1]
      rw [Nat.mul_one, List.drop_eq_getElem_cons (by rw [List.length_map]; exact hi), List.getElem_map, hx2]; rfl
    rw [hc]
    have hfi : (fun i => ((T[i]?).map fun x => x.1.ownBlock.toList).getD []) i = x.1.ownBlock.toList := by simp [hx]
    rw [hfi]
    have ho := h2 x (List.mem_of_getElem? hx)
    have hown : OwN tIntS w B w.heap.size [x.1] x.2 := own_ints ho (fun q hq => (ho.lt q hq).2) (Nat.le_refl _)
    obtain ⟨bs, e1, _⟩ := hown
    have := flat_blocks flat_int e1
    subst this
    exact e1
  exact ⟨_, how, hnd, fun q hq => (tIntSS.ow_lt how q hq).2, Nat.le_refl _⟩
theorem ListsL.owN {w w' : World} {L : List (List Int)} {e : Ending} (h : ListsL w L e w') : MadeT tIntSS L w e w' := by
  obtain ⟨v, T, he, rfl, hl, hb⟩ := h
  exact ⟨v, he, hl.owN, hb⟩
end Go.Proofs.Ytmhkkdnopcdibaa
