/-
  Packed: RankRec, IntRec, RankSpec2.
-/
import Derived.Test.YtakbolkdbpehoaaGreatQ1
import Derived.Test.YtakbolkdbpehoaaGreatQ10
import Derived.Test.YtakbolkdbpehoaaGreatQ11
import Derived.Test.YtakbolkdbpehoaaGreatQ17
set_option linter.unusedVariables false
namespace Go.Proofs.YtakbolkdbpehoaaGreat
open Go.RowKit

/-- the call makes the lists L; an inner list is the slice gv handed in, or lies in memory of the call's own -/
def RankedL (w : World) (D : Nat) (gv : Value) (L : List (List Int)) (e : Ending) (w' : World) : Prop :=
  ∃ (v : Value) (T : List (Value × List Int)), e = .returned v ∧ T.map Prod.snd = L ∧ w'.ownsRow w.heap.size 24 1 v T.length (T.map Prod.fst) ∧ (∀ x ∈ T, w'.ownsRow D 3 1 x.1 x.2.length (x.2.map (Value.int .i64))) ∧ ApartL (v :: T.map Prod.fst) ∧
    (∀ x ∈ T, ∀ q, x.1.ownBlock = some q → gv.ownBlock = some q ∨ w.heap.size ≤ q) ∧ Below w.heap.size w w'
/-- the first k of the parts T0 are ranked -/
structure RankSt (w6 wr : World) (D : Nat) (T0 : List (Value × List Int)) (k : Nat) (ov : Value) (R : List (Value × List Int)) : Prop where
  outer : wr.ownsRow w6.heap.size 24 1 ov R.length (R.map Prod.fst)
  inner : ∀ x ∈ R, wr.ownsRow D 3 1 x.1 x.2.length (x.2.map (Value.int .i64))
  apart : ApartL (R.map Prod.fst)
  src : ∀ x ∈ R, ∀ q, x.1.ownBlock = some q → (∃ y ∈ T0.take k, y.1.ownBlock = some q) ∨ (w6.heap.size ≤ q ∧ ov.ownBlock ≠ some q)
  bel : Below w6.heap.size w6 wr
theorem RankSt.start (w6 : World) (D : Nat) (T0 : List (Value × List Int)) : RankSt w6 w6 D T0 0 (.slice none 0 0) [] :=
  ⟨World.ownsRow_nil _ _ _ _, fun x hx => (by cases hx), List.Pairwise.nil, fun x hx => (by cases hx), Below.refl _ _⟩
theorem mem_take_at {α : Type} {L : List α} {k : Nat} {x : α} (h : L[k]? = some x) : x ∈ L.take (k + 1) := List.mem_iff_getElem?.2 ⟨k, by rw [List.getElem?_take_of_lt (by omega)]; exact h⟩
theorem mem_take_more {α : Type} {L : List α} {k : Nat} {x : α} (h : x ∈ L.take k) : x ∈ L.take (k + 1) := by
  rw [List.take_add_one]
  exact List.mem_append_left _ h
theorem RankSt.step {w6 wr w7 w8 : World} {B D k : Nat} {T0 R T1 : List (Value × List Int)} {v0 ov v1 ov' : Value} {y : Value × List Int} {L : List (List Int)} (h : RankSt w6 wr D T0 k ov R)
    (h0 : LL w6 B v0 T0) (hy : T0[k]? = some y) (h1 : w7.ownsRow wr.heap.size 24 1 v1 T1.length (T1.map Prod.fst)) (h2 : ∀ x ∈ T1, w7.ownsRow D 3 1 x.1 x.2.length (x.2.map (Value.int .i64))) (h3 : ApartL (v1 :: T1.map Prod.fst))
    (h4 : ∀ x ∈ T1, ∀ q, x.1.ownBlock = some q → y.1.ownBlock = some q ∨ wr.heap.size ≤ q) (hb : Below wr.heap.size wr w7)
    (ho : w8.ownsRow w6.heap.size 24 1 ov' (R.length + T1.length) (R.map Prod.fst ++ T1.map Prod.fst)) (hg : w7.grownBy w8 ov.ownBlock) (hat : ∀ q, ov'.ownBlock = some q → ov.ownBlock = some q ∨ w7.heap.size ≤ q) :
    RankSt w6 w8 D T0 (k + 1) ov' (R ++ T1) := by
  have hyT : y ∈ T0 := List.mem_iff_getElem?.2 ⟨k, hy⟩
  have hsz6 := h.bel.size
  have hsz7 := hb.size
  have ovb : ∀ q, ov.ownBlock = some q → w6.heap.size ≤ q ∧ q < wr.heap.size := fun q hq => h.outer.lt q hq
  have t0b : ∀ z ∈ T0, ∀ q, z.1.ownBlock = some q → q < w6.heap.size := fun z hz q hq => ((h0.2.1 z hz).lt q hq).2
  have rb : ∀ x ∈ R, ∀ q, x.1.ownBlock = some q → q < wr.heap.size := fun x hx q hq => ((h.inner x hx).lt q hq).2
  have rne : ∀ x ∈ R, ∀ q, x.1.ownBlock = some q → ov.ownBlock ≠ some q := fun x hx q hq e => by
    rcases h.src x hx q hq with ⟨z, hz, hzq⟩ | ⟨_, hne⟩
    · have := t0b z (List.mem_of_mem_take hz) q hzq
      have := (ovb q e).1
      omega
    · exact hne e
  have tne : ∀ x ∈ T1, ∀ q, x.1.ownBlock = some q → ov.ownBlock ≠ some q := fun x hx q hq e => by
    have := ovb q e
    rcases h4 x hx q hq with h5 | h5
    · have := t0b y hyT q h5; omega
    · omega
  refine ⟨by rw [List.length_append, List.map_append]; exact ho, fun x hx => ?_, ?_, fun x hx q hq => ?_, (h.bel.trans (hb.mono hsz6)).grown hg (by omega) (fun q hq => (ovb q hq).1)⟩
  · rcases List.mem_append.1 hx with hx | hx
    · refine (owns_below (h.inner x hx) hb (Nat.le_refl _)).kept hg ?_
      cases hk : x.1.ownBlock with
      | none => exact .inl rfl
      | some q => exact .inr fun e => rne x hx q hk e.symm
    · refine (h2 x hx).kept hg ?_
      cases hk : x.1.ownBlock with
      | none => exact .inl rfl
      | some q => exact .inr fun e => tne x hx q hk e.symm
  · rw [List.map_append]
    refine List.pairwise_append.2 ⟨h.apart, (List.pairwise_cons.1 h3).2, fun a ha b hb2 => ?_⟩
    obtain ⟨x, hx, rfl⟩ := List.mem_map.1 ha
    obtain ⟨z, hz, rfl⟩ := List.mem_map.1 hb2
    intro q hq e
    have hqr := rb x hx q hq
    rcases h4 z hz q e with h5 | h5
    · have hy6 := t0b y hyT q h5
      rcases h.src x hx q hq with ⟨u, hu, huq⟩ | ⟨h6, _⟩
      · obtain ⟨j, hj⟩ := List.mem_iff_getElem?.1 hu
        have hjk : j < k := by
          have := (List.getElem?_eq_some_iff.1 hj).1
          rw [List.length_take] at this
          omega
        rw [List.getElem?_take_of_lt hjk] at hj
        exact pairwise_at (fun a b h => h.symm) _ j k u.1 y.1 (List.pairwise_cons.1 h0.2.2).2 (by rw [List.getElem?_map, hj]; rfl) (by rw [List.getElem?_map, hy]; rfl) (by omega) q huq h5
      · omega
    · omega
  · rcases List.mem_append.1 hx with hx | hx
    · rcases h.src x hx q hq with ⟨u, hu, huq⟩ | ⟨h6, h7⟩
      · exact .inl ⟨u, mem_take_more hu, huq⟩
      · refine .inr ⟨h6, fun e => ?_⟩
        rcases hat q e with h8 | h8
        · exact h7 h8
        · have := rb x hx q hq; omega
    · rcases h4 x hx q hq with h5 | h5
      · exact .inl ⟨y, mem_take_at hy, h5⟩
      · refine .inr ⟨by omega, fun e => ?_⟩
        rcases hat q e with h8 | h8
        · have := (ovb q h8).2; omega
        · have := ((h2 x hx).lt q hq).2; omega
theorem RankSt.done {w w6 wr : World} {D : Nat} {T0 R : List (Value × List Int)} {v0 ov gv : Value} (h : RankSt w6 wr w.heap.size T0 T0.length ov R) (h0 : LL w6 w.heap.size v0 T0) (hb : Below w.heap.size w w6) (hD : D ≤ w.heap.size) :
    RankedL w D gv (R.map Prod.snd) (.returned ov) wr := by
  have hsz := hb.size
  refine ⟨ov, R, rfl, rfl, owns_mono h.outer hsz, fun x hx => owns_mono (h.inner x hx) hD, List.pairwise_cons.2 ⟨fun z hz => ?_, h.apart⟩, fun x hx q hq => ?_, hb.trans (h.bel.mono hsz)⟩
  · obtain ⟨x, hx, rfl⟩ := List.mem_map.1 hz
    intro q hq e
    rcases h.src x hx q e with ⟨u, hu, huq⟩ | ⟨_, h7⟩
    · have := ((h0.2.1 u (List.mem_of_mem_take hu)).lt q huq).2
      have := (h.outer.lt q hq).1
      omega
    · exact h7 hq
  · rcases h.src x hx q hq with ⟨u, hu, huq⟩ | ⟨h6, _⟩
    · exact .inr ((h0.2.1 u (List.mem_of_mem_take hu)).lt q huq).1
    · exact .inr (by omega)
theorem RankedL.one {w w1 : World} {D B : Nat} {gv : Value} {G : List Int} (ho : w1.ownsRow D 3 1 gv G.length (G.map (Value.int .i64))) (hb : Below w.heap.size w w1) (hB : w1.heap.size = B) (hD : D ≤ w.heap.size) :
    RankedL w D gv [G] (.returned (.slice (some ⟨B, 0, none⟩) 1 1)) (w1.alloc (.cells #[gv] 24)) := by
  subst hB
  have HLL := LL.one (B := D) ho (Nat.le_trans hD hb.size)
  refine ⟨_, [(gv, G)], rfl, rfl, ⟨HLL.1.1, ?_⟩, HLL.2.1, HLL.2.2, fun x hx q hq => ?_, hb.alloc hb.size _⟩
  · rcases HLL.1.2 with ⟨h', hh⟩ | ⟨g', cap', cur, h', h2, h3⟩
    · simp at h'
    · refine .inr ⟨g', cap', cur, h', ?_, h3⟩
      simp only [Value.slice.injEq, Option.some.injEq, Addr.mk.injEq, and_true] at h'
      have := hb.size
      omega
  · simp only [List.mem_singleton] at hx
    subst hx
    exact .inl hq
theorem RankedL.lists {w : World} {D : Nat} {gv : Value} {L : List (List Int)} {e : Ending} {w' : World} (h : RankedL w D gv L e w') (hD : D ≤ w.heap.size) : ∃ v T, e = .returned v ∧ T.map Prod.snd = L ∧ LL w' D v T ∧ Below w.heap.size w w' := by
  obtain ⟨v, T, h1, h2, h3, h4, h5, h6, h7⟩ := h
  exact ⟨v, T, h1, h2, ⟨owns_mono h3 hD, h4, h5⟩, h7⟩

set_option maxRecDepth 100000 in
set_option maxHeartbeats 4000000 in
theorem rank_impl (fa : Option Addr) (fc : Nat) (la : Option Addr) (lc : Nat) (ga : Option Addr) (gc : Nat) (qa : Option Addr) (qc : Nat) (ta : Option Addr) (tc : Nat) (b : BookD) (ra : Option Addr) (rc : Nat) (hp : bookP b) : ∀ (m : Nat) (G : List Int) (s : Nat) (gv : Value) (D : Nat) (w : World), rankM b.nl G.length s < m → BookRow w (.slice fa b.nf fc) (.slice la b.nl lc) (.slice ga b.m gc) (.slice qa b.nfa qc) (.slice ta b.nta tc) b → RowRow w (.slice ra b.nf rc) b.nf (tabAll b) → w.ownsRow D 3 1 gv G.length (G.map (Value.int .i64)) → teamsP b.nf G.length (getI G) → G.length ≤ 1048576 → (s : Int) ≤ 9223372036854775807 →
    Calls Tryz.prog 69 #[.agg #[.slice fa b.nf fc, .int .i64 b.win, .int .i64 b.draw, .int .i64 b.loss, .slice la b.nl lc, .bool b.again, .slice ga b.m gc, .slice qa b.nfa qc, .slice ta b.nta tc, .slice ra b.nf rc], gv, .int .i64 s] w (RankedL w D gv (rankP b G s)) := by
  intro m
  induction m with
  | zero => intro G s gv D w hm; exact absurd hm (Nat.not_lt_zero _)
  | succ m IH =>
  intro G s gv D w hm h htab hown ht hn6 hs63
  obtain ⟨l0, li, lz0, lz1, lz2⟩ := info_parts Tryz.infoL
  have hrow : IntRow w gv G.length (getI G) := IntRow.of_list hown (by omega)
  obtain ⟨xa, xc, rfl, hx64, _⟩ := hrow.form
  have hsix := h.sixty
  by_cases h0 : G = []
  · subst h0
    rw [rankP_nil]
    have K0 := Lib.hid (JgAt.made h htab 74)
    obtain ⟨d0, d1, d2, d3, d4, d5, d6, d7, d8, d9⟩ := K0.out.cells
    have HB := Lib.hid K0.out.bel
    simp only [List.length_nil]
    clear h htab hrow hown ht K0
    go_enter Tryz.func69, Tryz.ntmps69
    go_wp2
    go_ret
    exact ⟨_, [], rfl, rfl, World.ownsRow_nil _ _ _ _, (fun x hx => by cases hx), by unfold ApartL; simp, (fun x hx => by cases hx), HB.out⟩
  have hpos := List.length_pos_iff.2 h0
  obtain ⟨gq, rfl⟩ : ∃ gq, xa = some ⟨gq, 0, none⟩ := by
    rcases hown.2 with ⟨h', hh⟩ | ⟨g', cap', cur, h', _⟩
    · omega
    · simp only [Value.slice.injEq] at h'
      exact ⟨g', h'.1⟩
  have hDg := hown.lt gq rfl
  obtain ⟨n, hn⟩ : ∃ n, G.length = n := ⟨_, rfl⟩
  have HN := Lib.hid hn
  have hpos' : 0 < n := by omega
  have hn6' : n ≤ 1048576 := by omega
  have g0 : ((n : Int) == 0) = false := beq_eq_false_iff_ne.2 (by omega)
  have g0' : (n == 0) = false := beq_eq_false_iff_ne.2 (by omega)
  by_cases h1 : n = 1 ∨ b.nl ≤ s
  · rw [rankP_one b h0 (by rw [hn]; exact h1)]
    have hways : ((n : Int) == 1) = true ∨ ((n : Int) == 1) = false ∧ decide ((b.nl : Int) ≤ s) = true ∧ decide (b.nl ≤ s) = true := by
      rcases h1 with h1 | h1
      · exact .inl (beq_iff_eq.2 (by omega))
      · by_cases h2 : n = 1
        · exact .inl (beq_iff_eq.2 (by omega))
        · exact .inr ⟨beq_eq_false_iff_ne.2 (by omega), decide_eq_true (by omega), decide_eq_true h1⟩
    have K0 := Lib.hid (JgAt.made h htab 74)
    obtain ⟨d0, d1, d2, d3, d4, d5, d6, d7, d8, d9⟩ := K0.out.cells
    have HB := Lib.hid K0.out.bel
    have HO := Lib.hid hown
    have HDG := Lib.hid hDg
    rw [hn]
    clear h htab hrow hown ht K0 IH h1 h0 hm hn hDg hpos hn6
    go_enter Tryz.func69, Tryz.ntmps69
    rcases hways with g1 | ⟨g1, g2, g3⟩
    all_goals
      go_wp2
      go_ret
      exact RankedL.one (by rw [← HN.out]; exact owns_below HO.out HB.out (Nat.le_refl _)) HB.out (by simp) (by have := HDG.out; omega)
  have hn1 : n ≠ 1 := fun e => h1 (.inl e)
  have hsl : s < b.nl := by omega
  have hsl' : (s : Int) < b.nl := by omega
  have g1 : ((n : Int) == 1) = false := beq_eq_false_iff_ne.2 (by omega)
  have g2 : decide ((b.nl : Int) ≤ s) = false := decide_eq_false (by omega)
  have g3 : decide (b.nl ≤ s) = false := decide_eq_false (by omega)
  obtain ⟨lb, lof, rfl, hlc, _⟩ := int_at h.2.1 hsl
  have HR0 := Lib.hid h
  have HT0 := Lib.hid htab
  have HCL : Hid (∀ wa, Below w.heap.size w wa → wa.cell? ⟨lb, lof + s, none⟩ = some (.int .i64 (b.l s))) := fun wa hb => by
    obtain ⟨q1, q2, hq, _, hc⟩ := int_at (HR0.out.2.1.below hb (Nat.le_refl _)) hsl
    simp only [Option.some.injEq, Addr.mk.injEq, and_true] at hq
    obtain ⟨rfl, rfl⟩ := hq
    exact hc
  have HR : Hid (rankP b G s = (partsL b (b.l s) (getI G) n).flatMap fun p => rankP b p (nextS b (partsL b (b.l s) (getI G) n).length s)) := by
    have := rankP_step b h0 (by rw [hn]; exact hn1) hsl
    rw [hn] at this
    exact this
  have HLT : Hid (∀ p ∈ partsL b (b.l s) (getI G) n, rankM b.nl p.length (nextS b (partsL b (b.l s) (getI G) n).length s) < m) := fun p hp => by
    have := rankM_lt (b := b) (G := G) hsl (by rw [hn]; exact hp)
    have hm2 := hm
    rw [hn] at this hm2
    omega
  have hrl := rankP_len b G s
  rw [hn] at hrl
  have HRL : Hid ((rankP b G s).length ≤ n) := hrl
  rw [HR.out]
  rw [HR.out] at HRL
  have HNX : Hid (nextS b (partsL b (b.l s) (getI G) n).length s = if 1 < (partsL b (b.l s) (getI G) n).length ∧ b.again = true ∧ mutualB (b.l s) = true then 0 else s + 1) := rfl
  have HPL : Hid (∀ p ∈ partsL b (b.l s) (getI G) n, p.length ≤ n ∧ teamsP b.nf p.length (getI p)) := fun p hp => ⟨partsL_le hp, fun i hi => by
    obtain ⟨j, hj, e⟩ := partsL_mem hp (getI p i) (by simp [getI, hi])
    rw [e]
    exact ht j (by omega)⟩
  have CMU := Lib.hid (fun wa => isMutual_impl (b.l s) wa)
  rw [hn] at hrow ht
  have CSP : Hid (∀ wa, Below w.heap.size w wa → Calls Tryz.prog 59 #[.agg #[.slice fa b.nf fc, .int .i64 b.win, .int .i64 b.draw, .int .i64 b.loss, .slice (some ⟨lb, lof, none⟩) b.nl lc, .bool b.again, .slice ga b.m gc, .slice qa b.nfa qc, .slice ta b.nta tc, .slice ra b.nf rc], .int .i64 (b.l s), .slice (some ⟨gq, 0, none⟩) n xc] wa (ListsL wa (partsL b (b.l s) (getI G) n))) := fun wa hb => split_impl fa fc (some ⟨lb, lof, none⟩) lc ga gc qa qc ta tc b ra rc (b.l s) _ n (getI G) wa hp (HR0.out.below hb (Nat.le_refl _)) (HT0.out.below hb (Nat.le_refl _)) (hrow.below hb (Nat.le_refl _)) ht hn6'
  have hpn := partsL_len (b := b) (key := b.l s) (gg := getI G) (n := n)
  have HDW : Hid (D ≤ w.heap.size) := (by show _ ≤ _; omega)
  rw [hn]
  clear HR h1 hrl h htab hrow ht hm h0 hn1 hown hn hDg hpos hn6
  generalize partsL b (b.l s) (getI G) n = PL at *
  generalize mutualB (b.l s) = mu at *
  generalize b.l s = key at *
  generalize nextS b PL.length s = nx at *
  have CR : Hid (∀ z : Int, z = (nx : Int) → ∀ p ∈ PL, ∀ D2 pv wa, Below w.heap.size w wa → wa.ownsRow D2 3 1 pv p.length (p.map (Value.int .i64)) → Calls Tryz.prog 69 #[.agg #[.slice fa b.nf fc, .int .i64 b.win, .int .i64 b.draw, .int .i64 b.loss, .slice (some ⟨lb, lof, none⟩) b.nl lc, .bool b.again, .slice ga b.m gc, .slice qa b.nfa qc, .slice ta b.nta tc, .slice ra b.nf rc], pv, .int .i64 z] wa (RankedL wa D2 pv (rankP b p nx))) := by
    intro z hz p hp2 D2 pv wa hb h2
    subst hz
    refine IH p nx pv D2 wa (HLT.out p hp2) (HR0.out.below hb (Nat.le_refl _)) (HT0.out.below hb (Nat.le_refl _)) h2 (HPL.out p hp2).2 (by have := (HPL.out p hp2).1; omega) ?_
    have := HNX.out
    split at this <;> omega
  clear IH HLT
  obtain ⟨ag, hag⟩ : ∃ ag, b.again = ag := ⟨_, rfl⟩
  have HAG := Lib.hid hag
  rw [hag] at HNX
  have hw : ¬ 1 < PL.length ∨ (1 < PL.length ∧ ag = false) ∨ (1 < PL.length ∧ ag = true ∧ mu = false) ∨ (1 < PL.length ∧ ag = true ∧ mu = true) := by
    by_cases h : 1 < PL.length
    · cases ag <;> cases mu <;> simp [h]
    · exact .inl h
  clear hag
  rcases hw with hA | ⟨hA, rfl⟩ | ⟨hA, rfl, rfl⟩ | ⟨hA, rfl, rfl⟩
  · have HZ : Hid ((s : Int) + 1 = nx) := by have := HNX.out; rw [if_neg (fun h => hA h.1)] at this; show _ = _; omega
    clear HNX
    have K00 := Lib.hid (JgAt.made HR0.out HT0.out 74)
    obtain ⟨d0, d1, d2, d3, d4, d5, d6, d7, d8, d9⟩ := K00.out.cells
    clear K00
    go_enter Tryz.func69, Tryz.ntmps69
    obtain ⟨S, HSd⟩ : ∃ S : World → Prop, S = fun w' => (fun x => JgAt w x w.heap.size fa fc (some ⟨lb, lof, none⟩) lc ga gc qa qc ta tc b ra rc (tabAll b)) w' := ⟨_, rfl⟩
    have KS : Hid (∀ wa wb, S wa → Below wa.heap.size wa wb → S wb) := by subst HSd; exact fun wa wb h b => h.next b
    have OS : Hid (∀ wa, S wa → (fun x => JgAt w x w.heap.size fa fc (some ⟨lb, lof, none⟩) lc ga gc qa qc ta tc b ra rc (tabAll b)) wa) := by subst HSd; exact fun wa h => h
    have IS : Hid (∀ wa, (fun x => JgAt w x w.heap.size fa fc (some ⟨lb, lof, none⟩) lc ga gc qa qc ta tc b ra rc (tabAll b)) wa → S wa) := by subst HSd; exact fun wa h => h
    clear HSd
    go_wp2_with fail
    refine wp_region_held_drew (S := S) (by kernel_rfl) ?_ (fun hHeld => ?_)
    · exact IS.out _ ((JgAt.made HR0.out HT0.out 74).drew)
    refine wpAnyH_take (i := 0) (v := ?_) rfl (by kernel_rfl) (by kernel_rfl) (by kernel_rfl) (fun _ _ _ h => h) (Or.inl ⟨by rfl, ?_⟩) hHeld ?_
    rotate_left
    · (intro wa hSw; have K := OS.out _ hSw; obtain ⟨d0, d1, d2, d3, d4, d5, d6, d7, d8, d9⟩ := K.cells; have z0 := HCL.out _ K.bel; go_simp; try with_reducible rfl)
    simp only [Act.put, List.getElem_toArray, List.getElem_cons_zero, List.setIfInBounds_toArray, List.set_cons_zero, List.set_cons_succ]
    refine wpAnyH_take (i := 1) (v := ?_) rfl (by kernel_rfl) (by kernel_rfl) (by kernel_rfl) (fun _ _ _ h => h) (Or.inl ⟨by rfl, ?_⟩) hHeld ?_
    rotate_left
    · (intro wa hSw; go_simp; try with_reducible rfl)
    simp only [Act.put, List.getElem_toArray, List.getElem_cons_zero, List.getElem_cons_succ, List.setIfInBounds_toArray, List.set_cons_zero, List.set_cons_succ]
    refine wpAnyH_take (i := 2) (v := ?_) rfl (by kernel_rfl) (by kernel_rfl) (by kernel_rfl) (fun _ _ _ h => h) (Or.inl ⟨by rfl, ?_⟩) hHeld ?_
    rotate_left
    · (intro wa hSw; go_simp; try with_reducible rfl)
    simp only [Act.put, List.getElem_toArray, List.getElem_cons_zero, List.getElem_cons_succ, List.setIfInBounds_toArray, List.set_cons_zero, List.set_cons_succ]
    refine wpAnyH_take (i := 3) (v := ?_) rfl (by kernel_rfl) (by kernel_rfl) (by kernel_rfl) (fun _ _ _ h => h) (Or.inl ⟨by rfl, ?_⟩) hHeld ?_
    rotate_left
    · (intro wa hSw; go_simp; try with_reducible rfl)
    simp only [Act.put, List.getElem_toArray, List.getElem_cons_zero, List.getElem_cons_succ, List.setIfInBounds_toArray, List.set_cons_zero, List.set_cons_succ]
    refine wpAnyH_take (i := 4) (v := ?_) rfl (by kernel_rfl) (by kernel_rfl) (by kernel_rfl) (fun _ _ _ h => h) (Or.inl ⟨by rfl, ?_⟩) hHeld ?_
    rotate_left
    · (intro wa hSw; have K := OS.out _ hSw; obtain ⟨d0, d1, d2, d3, d4, d5, d6, d7, d8, d9⟩ := K.cells; have z0 := HCL.out _ K.bel; go_simp; try with_reducible rfl)
    simp only [Act.put, List.getElem_toArray, List.getElem_cons_zero, List.getElem_cons_succ, List.setIfInBounds_toArray, List.set_cons_zero, List.set_cons_succ]
    refine wpAnyH_take (i := 5) (v := ?_) rfl (by kernel_rfl) (by kernel_rfl) (by kernel_rfl) (fun _ _ _ h => h) (Or.inl ⟨by rfl, ?_⟩) hHeld ?_
    rotate_left
    · (intro wa hSw; go_simp; try with_reducible rfl)
    simp only [Act.put, List.getElem_toArray, List.getElem_cons_zero, List.getElem_cons_succ, List.setIfInBounds_toArray, List.set_cons_zero, List.set_cons_succ]
    refine wpAnyH_ready (rs := [6]) (by kernel_rfl) (by simp) ?_
    refine AllReadyH.cons (o := _) rfl (fun K hK => ?_) AllReadyH.nil
    go_simp
    have KK := OS.out _ hHeld
    refine (CSP.out _ KK.bel).mono ?_
    rintro e w101 ⟨v8, T, rfl, hT, hLL, b101⟩
    clear KK
    have HPT := Lib.hid hT
    have HL2 := Lib.hid hLL
    obtain ⟨pa, pc, hvf⟩ := owns_form hLL.1
    subst hvf
    have HTL : Hid (T.length = PL.length) := (by show _ = _; rw [← hT, List.length_map])
    have HBQ := Lib.hid ((OS.out _ hHeld).bel.size)
    clear hT hLL
    (try go_wp2_with fail)
    refine hK.out _ _ ?_ (fun hHeld101 => ?_)
    · exact KS.out _ _ hHeld b101
    clear hK K
    refine wpAnyH_take (i := 7) (v := ?_) rfl (by kernel_rfl) (by kernel_rfl) (by kernel_rfl) (fun _ _ _ h => h) (Or.inl ⟨by rfl, ?_⟩) hHeld101 ?_
    rotate_left
    · (intro wa hSw; go_simp; try with_reducible rfl)
    simp only [Act.put, List.getElem_toArray, List.getElem_cons_zero, List.getElem_cons_succ, List.setIfInBounds_toArray, List.set_cons_zero, List.set_cons_succ]
    refine wpAnyH_done (by kernel_rfl) ?_ _
    have KE := Lib.hid (OS.out _ hHeld101)
    clear KS OS IS hHeld hHeld101
    obtain ⟨d0, d1, d2, d3, d4, d5, d6, d7, d8, d9⟩ := KE.out.cells
    have z0 := HCL.out _ KE.out.bel
    have hTn : T.length ≤ 1048576 := by have := HTL.out; omega
    have HL6 := Lib.hid (LL.mono HL2.out HBQ.out)
    have HB6 := Lib.hid KE.out.bel
    have g4 : decide ((1 : Int) < (T.length : Int)) = false := by have := HTL.out; first | exact decide_eq_true (by omega) | exact decide_eq_false (by omega)
    have g5 : decide (1 < T.length) = false := by have := HTL.out; first | exact decide_eq_true (by omega) | exact decide_eq_false (by omega)
    go_wp2
    clear g4 g5 d0 d1 d2 d3 d4 d5 d6 d7 d8 d9 z0
    go_loopw [10, 58] (fun ov iv wr => ∃ (k : Nat) (R : List (Value × List Int)), k ≤ T.length ∧ iv = .int .i64 k ∧ Hid (R.map Prod.snd = (PL.take k).flatMap fun p => rankP b p nx) ∧ Hid (RankSt w101 wr w.heap.size T k ov R)) (fun _ iv _ => T.length - (RowKit.intOf iv).toNat)
    case atStart => exact ⟨0, [], Nat.zero_le _, rfl, rfl, RankSt.start _ _ _⟩
    case round =>
      obtain ⟨k, R, hk, rfl, hR, HS⟩ := hrel
      have hDr := HS.out.bel.size
      by_cases hlt : k < T.length
      · obtain ⟨y, hy⟩ : ∃ y, T[k]? = some y := ⟨_, List.getElem?_eq_getElem hlt⟩
        have hyp : PL[k]? = some y.2 := by rw [← HPT.out, List.getElem?_map, hy]; rfl
        have hyP : y.2 ∈ PL := List.mem_of_getElem? hyp
        have LLr := HL6.out.below HS.out.bel (Nat.le_refl _)
        have hrow := LLr.2.1 _ (List.mem_of_getElem? hy)
        have hpn2 : y.2.length ≤ n := (HPL.out _ hyP).1
        obtain ⟨pg, pcap, he, hpc, _, cp⟩ := vals_at (x := y.1) (j := k) LLr.1 (by rw [List.getElem?_map, hy]; rfl)
        simp only [Value.slice.injEq, true_and] at he
        obtain ⟨rfl, rfl⟩ := he
        have HBr := Lib.hid (HB6.out.trans (HS.out.bel.mono HB6.out.size))
        have CRk := Lib.hid (CR.out _ HZ.out _ hyP w.heap.size y.1 _ HBr.out hrow)
        have HSU : Hid ((PL.take (k + 1)).flatMap (fun p => rankP b p nx) = R.map Prod.snd ++ rankP b y.2 nx) := by show _ = _; rw [take_flat_succ _ _ _ hyp, hR.out]
        have HRk : Hid (R.length + (rankP b y.2 nx).length ≤ n) := by
          have e1 := congrArg List.length HSU.out
          rw [List.length_append, List.length_map] at e1
          have e2 := take_flat (fun p => rankP b p nx) PL (k + 1)
          have e3 := HRL.out
          show _ ≤ _
          omega
        have hklt : (k : Int) < T.length := by omega
        have HY := Lib.hid hy
        obtain ⟨ya, yc, hyf⟩ := owns_form hrow
        obtain ⟨d0, d1, d2, d3, d4, d5, d6, d7, d8, d9⟩ := (KE.out.next (HS.out.bel)).cells
        clear hyp hyP LLr hrow hR hy
        obtain ⟨p, hp2⟩ : ∃ p, y.2 = p := ⟨_, rfl⟩
        rw [hp2] at hyf CRk HSU HRk hpn2
        have HYF := Lib.hid hyf
        rw [hyf] at CRk cp
        clear hyf hp2
        go_wp2_with fail
        refine CRk.out.mono ?_
        rintro e w7 ⟨rv, T2, rfl, hT2, a1, a2, a3, a4, b4⟩
        have HT2 := Lib.hid hT2
        have hl2 : T2.length = (rankP b p nx).length := by rw [← hT2, List.length_map]
        have hRm : R.length + T2.length ≤ 1048576 := by have := HRk.out; omega
        obtain ⟨gR, hg1, hg2, hg3, hg4⟩ := LL.rec (B := w.heap.size) ⟨owns_mono a1 (by have := HBr.out.size; omega), a2, a3⟩ (by omega)
        have HG1 := Lib.hid hg1
        have HG2 := Lib.hid hg2
        have HG3 := Lib.hid hg3
        have HG4 := Lib.hid hg4
        have HA1 := Lib.hid a1
        have HA2 := Lib.hid a2
        have HA3 := Lib.hid a3
        rw [← HYF.out] at a4
        have HA4 := Lib.hid a4
        have HB4 := Lib.hid b4
        have HLr := Lib.hid (owns_below HS.out.outer b4 (Nat.le_refl _))
        have hsz4 : w101.heap.size ≤ w7.heap.size := Nat.le_trans hDr b4.size
        obtain ⟨rra, rrc, hrf⟩ := owns_form a1
        subst hrf
        clear d0 d1 d2 d3 d4 d5 d6 d7 d8 d9 hT2 a1 a2 a3 a4 b4 hg1 hg2 hg3 hg4 hl2 CRk HRk HBr cp
        go_wp2_with (at_builtin; refine wpList_appendR rfl (.tmp 62) (.tmp 66) 34 rfl w101.heap.size 24 Tryz.underlying34 li lz0 lz1 lz2 rfl (by decide) rfl HLr.out rfl HG1.out HG2.out HG3.out hRm (by omega) hsz4 ?_; intro vv w8 o5 gr5 at5; have O5 := Lib.hid o5; have G5 := Lib.hid gr5; have A5 := Lib.hid at5; clear o5 gr5 at5)
        have O6 := O5.out
        rw [HG4.out] at O6
        have HS8 := Lib.hid (RankSt.step (L := []) HS.out HL6.out HY.out HA1.out HA2.out HA3.out HA4.out HB4.out O6 G5.out A5.out)
        clear O6 O5 G5 A5 HA1 HA2 HA3 HA4 HB4 HLr HS
        go_roundw
        case rel => exact ⟨k + 1, R ++ T2, by omega, by go_num, Lib.hid (by rw [List.map_append, HT2.out]; exact HSU.out.symm), HS8⟩
        case measure => simp [RowKit.intOf]; omega
      · obtain rfl : T.length = k := by omega
        have HRD := Lib.hid (RankSt.done (gv := .slice (some ⟨gq, 0, none⟩) n xc) HS.out HL6.out HB6.out HDW.out)
        rw [hR.out, HTL.out, List.take_length] at HRD
        clear HS hR
        go_wp2
        go_ret
        exact HRD.out
  · have HZ : Hid ((s : Int) + 1 = nx) := by have := HNX.out; rw [if_neg (fun h => by cases h.2.1)] at this; show _ = _; omega
    clear HNX
    have K00 := Lib.hid (JgAt.made HR0.out HT0.out 74)
    obtain ⟨d0, d1, d2, d3, d4, d5, d6, d7, d8, d9⟩ := K00.out.cells
    clear K00
    go_enter Tryz.func69, Tryz.ntmps69
    obtain ⟨S, HSd⟩ : ∃ S : World → Prop, S = fun w' => (fun x => JgAt w x w.heap.size fa fc (some ⟨lb, lof, none⟩) lc ga gc qa qc ta tc b ra rc (tabAll b)) w' := ⟨_, rfl⟩
    have KS : Hid (∀ wa wb, S wa → Below wa.heap.size wa wb → S wb) := by subst HSd; exact fun wa wb h b => h.next b
    have OS : Hid (∀ wa, S wa → (fun x => JgAt w x w.heap.size fa fc (some ⟨lb, lof, none⟩) lc ga gc qa qc ta tc b ra rc (tabAll b)) wa) := by subst HSd; exact fun wa h => h
    have IS : Hid (∀ wa, (fun x => JgAt w x w.heap.size fa fc (some ⟨lb, lof, none⟩) lc ga gc qa qc ta tc b ra rc (tabAll b)) wa → S wa) := by subst HSd; exact fun wa h => h
    clear HSd
    go_wp2_with fail
    refine wp_region_held_drew (S := S) (by kernel_rfl) ?_ (fun hHeld => ?_)
    · exact IS.out _ ((JgAt.made HR0.out HT0.out 74).drew)
    refine wpAnyH_take (i := 0) (v := ?_) rfl (by kernel_rfl) (by kernel_rfl) (by kernel_rfl) (fun _ _ _ h => h) (Or.inl ⟨by rfl, ?_⟩) hHeld ?_
    rotate_left
    · (intro wa hSw; have K := OS.out _ hSw; obtain ⟨d0, d1, d2, d3, d4, d5, d6, d7, d8, d9⟩ := K.cells; have z0 := HCL.out _ K.bel; go_simp; try with_reducible rfl)
    simp only [Act.put, List.getElem_toArray, List.getElem_cons_zero, List.setIfInBounds_toArray, List.set_cons_zero, List.set_cons_succ]
    refine wpAnyH_take (i := 1) (v := ?_) rfl (by kernel_rfl) (by kernel_rfl) (by kernel_rfl) (fun _ _ _ h => h) (Or.inl ⟨by rfl, ?_⟩) hHeld ?_
    rotate_left
    · (intro wa hSw; go_simp; try with_reducible rfl)
    simp only [Act.put, List.getElem_toArray, List.getElem_cons_zero, List.getElem_cons_succ, List.setIfInBounds_toArray, List.set_cons_zero, List.set_cons_succ]
    refine wpAnyH_take (i := 2) (v := ?_) rfl (by kernel_rfl) (by kernel_rfl) (by kernel_rfl) (fun _ _ _ h => h) (Or.inl ⟨by rfl, ?_⟩) hHeld ?_
    rotate_left
    · (intro wa hSw; go_simp; try with_reducible rfl)
    simp only [Act.put, List.getElem_toArray, List.getElem_cons_zero, List.getElem_cons_succ, List.setIfInBounds_toArray, List.set_cons_zero, List.set_cons_succ]
    refine wpAnyH_take (i := 3) (v := ?_) rfl (by kernel_rfl) (by kernel_rfl) (by kernel_rfl) (fun _ _ _ h => h) (Or.inl ⟨by rfl, ?_⟩) hHeld ?_
    rotate_left
    · (intro wa hSw; go_simp; try with_reducible rfl)
    simp only [Act.put, List.getElem_toArray, List.getElem_cons_zero, List.getElem_cons_succ, List.setIfInBounds_toArray, List.set_cons_zero, List.set_cons_succ]
    refine wpAnyH_take (i := 4) (v := ?_) rfl (by kernel_rfl) (by kernel_rfl) (by kernel_rfl) (fun _ _ _ h => h) (Or.inl ⟨by rfl, ?_⟩) hHeld ?_
    rotate_left
    · (intro wa hSw; have K := OS.out _ hSw; obtain ⟨d0, d1, d2, d3, d4, d5, d6, d7, d8, d9⟩ := K.cells; have z0 := HCL.out _ K.bel; go_simp; try with_reducible rfl)
    simp only [Act.put, List.getElem_toArray, List.getElem_cons_zero, List.getElem_cons_succ, List.setIfInBounds_toArray, List.set_cons_zero, List.set_cons_succ]
    refine wpAnyH_take (i := 5) (v := ?_) rfl (by kernel_rfl) (by kernel_rfl) (by kernel_rfl) (fun _ _ _ h => h) (Or.inl ⟨by rfl, ?_⟩) hHeld ?_
    rotate_left
    · (intro wa hSw; go_simp; try with_reducible rfl)
    simp only [Act.put, List.getElem_toArray, List.getElem_cons_zero, List.getElem_cons_succ, List.setIfInBounds_toArray, List.set_cons_zero, List.set_cons_succ]
    refine wpAnyH_ready (rs := [6]) (by kernel_rfl) (by simp) ?_
    refine AllReadyH.cons (o := _) rfl (fun K hK => ?_) AllReadyH.nil
    go_simp
    have KK := OS.out _ hHeld
    refine (CSP.out _ KK.bel).mono ?_
    rintro e w101 ⟨v8, T, rfl, hT, hLL, b101⟩
    clear KK
    have HPT := Lib.hid hT
    have HL2 := Lib.hid hLL
    obtain ⟨pa, pc, hvf⟩ := owns_form hLL.1
    subst hvf
    have HTL : Hid (T.length = PL.length) := (by show _ = _; rw [← hT, List.length_map])
    have HBQ := Lib.hid ((OS.out _ hHeld).bel.size)
    clear hT hLL
    (try go_wp2_with fail)
    refine hK.out _ _ ?_ (fun hHeld101 => ?_)
    · exact KS.out _ _ hHeld b101
    clear hK K
    refine wpAnyH_take (i := 7) (v := ?_) rfl (by kernel_rfl) (by kernel_rfl) (by kernel_rfl) (fun _ _ _ h => h) (Or.inl ⟨by rfl, ?_⟩) hHeld101 ?_
    rotate_left
    · (intro wa hSw; go_simp; try with_reducible rfl)
    simp only [Act.put, List.getElem_toArray, List.getElem_cons_zero, List.getElem_cons_succ, List.setIfInBounds_toArray, List.set_cons_zero, List.set_cons_succ]
    refine wpAnyH_done (by kernel_rfl) ?_ _
    have KE := Lib.hid (OS.out _ hHeld101)
    clear KS OS IS hHeld hHeld101
    obtain ⟨d0, d1, d2, d3, d4, d5, d6, d7, d8, d9⟩ := KE.out.cells
    have z0 := HCL.out _ KE.out.bel
    have hTn : T.length ≤ 1048576 := by have := HTL.out; omega
    have HL6 := Lib.hid (LL.mono HL2.out HBQ.out)
    have HB6 := Lib.hid KE.out.bel
    have g4 : decide ((1 : Int) < (T.length : Int)) = true := by have := HTL.out; first | exact decide_eq_true (by omega) | exact decide_eq_false (by omega)
    have g5 : decide (1 < T.length) = true := by have := HTL.out; first | exact decide_eq_true (by omega) | exact decide_eq_false (by omega)
    rw [HAG.out] at d5
    go_wp2
    clear g4 g5 d0 d1 d2 d3 d4 d5 d6 d7 d8 d9 z0
    go_loopw [10, 58] (fun ov iv wr => ∃ (k : Nat) (R : List (Value × List Int)), k ≤ T.length ∧ iv = .int .i64 k ∧ Hid (R.map Prod.snd = (PL.take k).flatMap fun p => rankP b p nx) ∧ Hid (RankSt w101 wr w.heap.size T k ov R)) (fun _ iv _ => T.length - (RowKit.intOf iv).toNat)
    case atStart => exact ⟨0, [], Nat.zero_le _, rfl, rfl, RankSt.start _ _ _⟩
    case round =>
      obtain ⟨k, R, hk, rfl, hR, HS⟩ := hrel
      have hDr := HS.out.bel.size
      by_cases hlt : k < T.length
      · obtain ⟨y, hy⟩ : ∃ y, T[k]? = some y := ⟨_, List.getElem?_eq_getElem hlt⟩
        have hyp : PL[k]? = some y.2 := by rw [← HPT.out, List.getElem?_map, hy]; rfl
        have hyP : y.2 ∈ PL := List.mem_of_getElem? hyp
        have LLr := HL6.out.below HS.out.bel (Nat.le_refl _)
        have hrow := LLr.2.1 _ (List.mem_of_getElem? hy)
        have hpn2 : y.2.length ≤ n := (HPL.out _ hyP).1
        obtain ⟨pg, pcap, he, hpc, _, cp⟩ := vals_at (x := y.1) (j := k) LLr.1 (by rw [List.getElem?_map, hy]; rfl)
        simp only [Value.slice.injEq, true_and] at he
        obtain ⟨rfl, rfl⟩ := he
        have HBr := Lib.hid (HB6.out.trans (HS.out.bel.mono HB6.out.size))
        have CRk := Lib.hid (CR.out _ HZ.out _ hyP w.heap.size y.1 _ HBr.out hrow)
        have HSU : Hid ((PL.take (k + 1)).flatMap (fun p => rankP b p nx) = R.map Prod.snd ++ rankP b y.2 nx) := by show _ = _; rw [take_flat_succ _ _ _ hyp, hR.out]
        have HRk : Hid (R.length + (rankP b y.2 nx).length ≤ n) := by
          have e1 := congrArg List.length HSU.out
          rw [List.length_append, List.length_map] at e1
          have e2 := take_flat (fun p => rankP b p nx) PL (k + 1)
          have e3 := HRL.out
          show _ ≤ _
          omega
        have hklt : (k : Int) < T.length := by omega
        have HY := Lib.hid hy
        obtain ⟨ya, yc, hyf⟩ := owns_form hrow
        obtain ⟨d0, d1, d2, d3, d4, d5, d6, d7, d8, d9⟩ := (KE.out.next (HS.out.bel)).cells
        clear hyp hyP LLr hrow hR hy
        obtain ⟨p, hp2⟩ : ∃ p, y.2 = p := ⟨_, rfl⟩
        rw [hp2] at hyf CRk HSU HRk hpn2
        have HYF := Lib.hid hyf
        rw [hyf] at CRk cp
        clear hyf hp2
        go_wp2_with fail
        refine CRk.out.mono ?_
        rintro e w7 ⟨rv, T2, rfl, hT2, a1, a2, a3, a4, b4⟩
        have HT2 := Lib.hid hT2
        have hl2 : T2.length = (rankP b p nx).length := by rw [← hT2, List.length_map]
        have hRm : R.length + T2.length ≤ 1048576 := by have := HRk.out; omega
        obtain ⟨gR, hg1, hg2, hg3, hg4⟩ := LL.rec (B := w.heap.size) ⟨owns_mono a1 (by have := HBr.out.size; omega), a2, a3⟩ (by omega)
        have HG1 := Lib.hid hg1
        have HG2 := Lib.hid hg2
        have HG3 := Lib.hid hg3
        have HG4 := Lib.hid hg4
        have HA1 := Lib.hid a1
        have HA2 := Lib.hid a2
        have HA3 := Lib.hid a3
        rw [← HYF.out] at a4
        have HA4 := Lib.hid a4
        have HB4 := Lib.hid b4
        have HLr := Lib.hid (owns_below HS.out.outer b4 (Nat.le_refl _))
        have hsz4 : w101.heap.size ≤ w7.heap.size := Nat.le_trans hDr b4.size
        obtain ⟨rra, rrc, hrf⟩ := owns_form a1
        subst hrf
        clear d0 d1 d2 d3 d4 d5 d6 d7 d8 d9 hT2 a1 a2 a3 a4 b4 hg1 hg2 hg3 hg4 hl2 CRk HRk HBr cp
        go_wp2_with (at_builtin; refine wpList_appendR rfl (.tmp 62) (.tmp 66) 34 rfl w101.heap.size 24 Tryz.underlying34 li lz0 lz1 lz2 rfl (by decide) rfl HLr.out rfl HG1.out HG2.out HG3.out hRm (by omega) hsz4 ?_; intro vv w8 o5 gr5 at5; have O5 := Lib.hid o5; have G5 := Lib.hid gr5; have A5 := Lib.hid at5; clear o5 gr5 at5)
        have O6 := O5.out
        rw [HG4.out] at O6
        have HS8 := Lib.hid (RankSt.step (L := []) HS.out HL6.out HY.out HA1.out HA2.out HA3.out HA4.out HB4.out O6 G5.out A5.out)
        clear O6 O5 G5 A5 HA1 HA2 HA3 HA4 HB4 HLr HS
        go_roundw
        case rel => exact ⟨k + 1, R ++ T2, by omega, by go_num, Lib.hid (by rw [List.map_append, HT2.out]; exact HSU.out.symm), HS8⟩
        case measure => simp [RowKit.intOf]; omega
      · obtain rfl : T.length = k := by omega
        have HRD := Lib.hid (RankSt.done (gv := .slice (some ⟨gq, 0, none⟩) n xc) HS.out HL6.out HB6.out HDW.out)
        rw [hR.out, HTL.out, List.take_length] at HRD
        clear HS hR
        go_wp2
        go_ret
        exact HRD.out
  · have HZ : Hid ((s : Int) + 1 = nx) := by have := HNX.out; rw [if_neg (fun h => by cases h.2.2)] at this; show _ = _; omega
    clear HNX
    have K00 := Lib.hid (JgAt.made HR0.out HT0.out 74)
    obtain ⟨d0, d1, d2, d3, d4, d5, d6, d7, d8, d9⟩ := K00.out.cells
    clear K00
    go_enter Tryz.func69, Tryz.ntmps69
    obtain ⟨S, HSd⟩ : ∃ S : World → Prop, S = fun w' => (fun x => JgAt w x w.heap.size fa fc (some ⟨lb, lof, none⟩) lc ga gc qa qc ta tc b ra rc (tabAll b)) w' := ⟨_, rfl⟩
    have KS : Hid (∀ wa wb, S wa → Below wa.heap.size wa wb → S wb) := by subst HSd; exact fun wa wb h b => h.next b
    have OS : Hid (∀ wa, S wa → (fun x => JgAt w x w.heap.size fa fc (some ⟨lb, lof, none⟩) lc ga gc qa qc ta tc b ra rc (tabAll b)) wa) := by subst HSd; exact fun wa h => h
    have IS : Hid (∀ wa, (fun x => JgAt w x w.heap.size fa fc (some ⟨lb, lof, none⟩) lc ga gc qa qc ta tc b ra rc (tabAll b)) wa → S wa) := by subst HSd; exact fun wa h => h
    clear HSd
    go_wp2_with fail
    refine wp_region_held_drew (S := S) (by kernel_rfl) ?_ (fun hHeld => ?_)
    · exact IS.out _ ((JgAt.made HR0.out HT0.out 74).drew)
    refine wpAnyH_take (i := 0) (v := ?_) rfl (by kernel_rfl) (by kernel_rfl) (by kernel_rfl) (fun _ _ _ h => h) (Or.inl ⟨by rfl, ?_⟩) hHeld ?_
    rotate_left
    · (intro wa hSw; have K := OS.out _ hSw; obtain ⟨d0, d1, d2, d3, d4, d5, d6, d7, d8, d9⟩ := K.cells; have z0 := HCL.out _ K.bel; go_simp; try with_reducible rfl)
    simp only [Act.put, List.getElem_toArray, List.getElem_cons_zero, List.setIfInBounds_toArray, List.set_cons_zero, List.set_cons_succ]
    refine wpAnyH_take (i := 1) (v := ?_) rfl (by kernel_rfl) (by kernel_rfl) (by kernel_rfl) (fun _ _ _ h => h) (Or.inl ⟨by rfl, ?_⟩) hHeld ?_
    rotate_left
    · (intro wa hSw; go_simp; try with_reducible rfl)
    simp only [Act.put, List.getElem_toArray, List.getElem_cons_zero, List.getElem_cons_succ, List.setIfInBounds_toArray, List.set_cons_zero, List.set_cons_succ]
    refine wpAnyH_take (i := 2) (v := ?_) rfl (by kernel_rfl) (by kernel_rfl) (by kernel_rfl) (fun _ _ _ h => h) (Or.inl ⟨by rfl, ?_⟩) hHeld ?_
    rotate_left
    · (intro wa hSw; go_simp; try with_reducible rfl)
    simp only [Act.put, List.getElem_toArray, List.getElem_cons_zero, List.getElem_cons_succ, List.setIfInBounds_toArray, List.set_cons_zero, List.set_cons_succ]
    refine wpAnyH_take (i := 3) (v := ?_) rfl (by kernel_rfl) (by kernel_rfl) (by kernel_rfl) (fun _ _ _ h => h) (Or.inl ⟨by rfl, ?_⟩) hHeld ?_
    rotate_left
    · (intro wa hSw; go_simp; try with_reducible rfl)
    simp only [Act.put, List.getElem_toArray, List.getElem_cons_zero, List.getElem_cons_succ, List.setIfInBounds_toArray, List.set_cons_zero, List.set_cons_succ]
    refine wpAnyH_take (i := 4) (v := ?_) rfl (by kernel_rfl) (by kernel_rfl) (by kernel_rfl) (fun _ _ _ h => h) (Or.inl ⟨by rfl, ?_⟩) hHeld ?_
    rotate_left
    · (intro wa hSw; have K := OS.out _ hSw; obtain ⟨d0, d1, d2, d3, d4, d5, d6, d7, d8, d9⟩ := K.cells; have z0 := HCL.out _ K.bel; go_simp; try with_reducible rfl)
    simp only [Act.put, List.getElem_toArray, List.getElem_cons_zero, List.getElem_cons_succ, List.setIfInBounds_toArray, List.set_cons_zero, List.set_cons_succ]
    refine wpAnyH_take (i := 5) (v := ?_) rfl (by kernel_rfl) (by kernel_rfl) (by kernel_rfl) (fun _ _ _ h => h) (Or.inl ⟨by rfl, ?_⟩) hHeld ?_
    rotate_left
    · (intro wa hSw; go_simp; try with_reducible rfl)
    simp only [Act.put, List.getElem_toArray, List.getElem_cons_zero, List.getElem_cons_succ, List.setIfInBounds_toArray, List.set_cons_zero, List.set_cons_succ]
    refine wpAnyH_ready (rs := [6]) (by kernel_rfl) (by simp) ?_
    refine AllReadyH.cons (o := _) rfl (fun K hK => ?_) AllReadyH.nil
    go_simp
    have KK := OS.out _ hHeld
    refine (CSP.out _ KK.bel).mono ?_
    rintro e w101 ⟨v8, T, rfl, hT, hLL, b101⟩
    clear KK
    have HPT := Lib.hid hT
    have HL2 := Lib.hid hLL
    obtain ⟨pa, pc, hvf⟩ := owns_form hLL.1
    subst hvf
    have HTL : Hid (T.length = PL.length) := (by show _ = _; rw [← hT, List.length_map])
    have HBQ := Lib.hid ((OS.out _ hHeld).bel.size)
    clear hT hLL
    (try go_wp2_with fail)
    refine hK.out _ _ ?_ (fun hHeld101 => ?_)
    · exact KS.out _ _ hHeld b101
    clear hK K
    refine wpAnyH_take (i := 7) (v := ?_) rfl (by kernel_rfl) (by kernel_rfl) (by kernel_rfl) (fun _ _ _ h => h) (Or.inl ⟨by rfl, ?_⟩) hHeld101 ?_
    rotate_left
    · (intro wa hSw; go_simp; try with_reducible rfl)
    simp only [Act.put, List.getElem_toArray, List.getElem_cons_zero, List.getElem_cons_succ, List.setIfInBounds_toArray, List.set_cons_zero, List.set_cons_succ]
    refine wpAnyH_done (by kernel_rfl) ?_ _
    have KE := Lib.hid (OS.out _ hHeld101)
    clear KS OS IS hHeld hHeld101
    obtain ⟨d0, d1, d2, d3, d4, d5, d6, d7, d8, d9⟩ := KE.out.cells
    have z0 := HCL.out _ KE.out.bel
    have hTn : T.length ≤ 1048576 := by have := HTL.out; omega
    have HL6 := Lib.hid (LL.mono HL2.out HBQ.out)
    have HB6 := Lib.hid KE.out.bel
    have g4 : decide ((1 : Int) < (T.length : Int)) = true := by have := HTL.out; first | exact decide_eq_true (by omega) | exact decide_eq_false (by omega)
    have g5 : decide (1 < T.length) = true := by have := HTL.out; first | exact decide_eq_true (by omega) | exact decide_eq_false (by omega)
    rw [HAG.out] at d5
    go_wp2_with fail
    refine (CMU.out _).mono ?_
    rintro e w2 ⟨rfl, hw2⟩
    subst hw2
    go_wp2
    clear g4 g5 d0 d1 d2 d3 d4 d5 d6 d7 d8 d9 z0
    go_loopw [10, 58] (fun ov iv wr => ∃ (k : Nat) (R : List (Value × List Int)), k ≤ T.length ∧ iv = .int .i64 k ∧ Hid (R.map Prod.snd = (PL.take k).flatMap fun p => rankP b p nx) ∧ Hid (RankSt w101 wr w.heap.size T k ov R)) (fun _ iv _ => T.length - (RowKit.intOf iv).toNat)
    case atStart => exact ⟨0, [], Nat.zero_le _, rfl, rfl, RankSt.start _ _ _⟩
    case round =>
      obtain ⟨k, R, hk, rfl, hR, HS⟩ := hrel
      have hDr := HS.out.bel.size
      by_cases hlt : k < T.length
      · obtain ⟨y, hy⟩ : ∃ y, T[k]? = some y := ⟨_, List.getElem?_eq_getElem hlt⟩
        have hyp : PL[k]? = some y.2 := by rw [← HPT.out, List.getElem?_map, hy]; rfl
        have hyP : y.2 ∈ PL := List.mem_of_getElem? hyp
        have LLr := HL6.out.below HS.out.bel (Nat.le_refl _)
        have hrow := LLr.2.1 _ (List.mem_of_getElem? hy)
        have hpn2 : y.2.length ≤ n := (HPL.out _ hyP).1
        obtain ⟨pg, pcap, he, hpc, _, cp⟩ := vals_at (x := y.1) (j := k) LLr.1 (by rw [List.getElem?_map, hy]; rfl)
        simp only [Value.slice.injEq, true_and] at he
        obtain ⟨rfl, rfl⟩ := he
        have HBr := Lib.hid (HB6.out.trans (HS.out.bel.mono HB6.out.size))
        have CRk := Lib.hid (CR.out _ HZ.out _ hyP w.heap.size y.1 _ HBr.out hrow)
        have HSU : Hid ((PL.take (k + 1)).flatMap (fun p => rankP b p nx) = R.map Prod.snd ++ rankP b y.2 nx) := by show _ = _; rw [take_flat_succ _ _ _ hyp, hR.out]
        have HRk : Hid (R.length + (rankP b y.2 nx).length ≤ n) := by
          have e1 := congrArg List.length HSU.out
          rw [List.length_append, List.length_map] at e1
          have e2 := take_flat (fun p => rankP b p nx) PL (k + 1)
          have e3 := HRL.out
          show _ ≤ _
          omega
        have hklt : (k : Int) < T.length := by omega
        have HY := Lib.hid hy
        obtain ⟨ya, yc, hyf⟩ := owns_form hrow
        obtain ⟨d0, d1, d2, d3, d4, d5, d6, d7, d8, d9⟩ := (KE.out.next (HS.out.bel)).cells
        clear hyp hyP LLr hrow hR hy
        obtain ⟨p, hp2⟩ : ∃ p, y.2 = p := ⟨_, rfl⟩
        rw [hp2] at hyf CRk HSU HRk hpn2
        have HYF := Lib.hid hyf
        rw [hyf] at CRk cp
        clear hyf hp2
        go_wp2_with fail
        refine CRk.out.mono ?_
        rintro e w7 ⟨rv, T2, rfl, hT2, a1, a2, a3, a4, b4⟩
        have HT2 := Lib.hid hT2
        have hl2 : T2.length = (rankP b p nx).length := by rw [← hT2, List.length_map]
        have hRm : R.length + T2.length ≤ 1048576 := by have := HRk.out; omega
        obtain ⟨gR, hg1, hg2, hg3, hg4⟩ := LL.rec (B := w.heap.size) ⟨owns_mono a1 (by have := HBr.out.size; omega), a2, a3⟩ (by omega)
        have HG1 := Lib.hid hg1
        have HG2 := Lib.hid hg2
        have HG3 := Lib.hid hg3
        have HG4 := Lib.hid hg4
        have HA1 := Lib.hid a1
        have HA2 := Lib.hid a2
        have HA3 := Lib.hid a3
        rw [← HYF.out] at a4
        have HA4 := Lib.hid a4
        have HB4 := Lib.hid b4
        have HLr := Lib.hid (owns_below HS.out.outer b4 (Nat.le_refl _))
        have hsz4 : w101.heap.size ≤ w7.heap.size := Nat.le_trans hDr b4.size
        obtain ⟨rra, rrc, hrf⟩ := owns_form a1
        subst hrf
        clear d0 d1 d2 d3 d4 d5 d6 d7 d8 d9 hT2 a1 a2 a3 a4 b4 hg1 hg2 hg3 hg4 hl2 CRk HRk HBr cp
        go_wp2_with (at_builtin; refine wpList_appendR rfl (.tmp 62) (.tmp 66) 34 rfl w101.heap.size 24 Tryz.underlying34 li lz0 lz1 lz2 rfl (by decide) rfl HLr.out rfl HG1.out HG2.out HG3.out hRm (by omega) hsz4 ?_; intro vv w8 o5 gr5 at5; have O5 := Lib.hid o5; have G5 := Lib.hid gr5; have A5 := Lib.hid at5; clear o5 gr5 at5)
        have O6 := O5.out
        rw [HG4.out] at O6
        have HS8 := Lib.hid (RankSt.step (L := []) HS.out HL6.out HY.out HA1.out HA2.out HA3.out HA4.out HB4.out O6 G5.out A5.out)
        clear O6 O5 G5 A5 HA1 HA2 HA3 HA4 HB4 HLr HS
        go_roundw
        case rel => exact ⟨k + 1, R ++ T2, by omega, by go_num, Lib.hid (by rw [List.map_append, HT2.out]; exact HSU.out.symm), HS8⟩
        case measure => simp [RowKit.intOf]; omega
      · obtain rfl : T.length = k := by omega
        have HRD := Lib.hid (RankSt.done (gv := .slice (some ⟨gq, 0, none⟩) n xc) HS.out HL6.out HB6.out HDW.out)
        rw [hR.out, HTL.out, List.take_length] at HRD
        clear HS hR
        go_wp2
        go_ret
        exact HRD.out
  · have HZ : Hid ((0 : Int) = nx) := by have := HNX.out; rw [if_pos ⟨hA, by first | rfl | trivial, by first | rfl | trivial⟩] at this; show _ = _; omega
    clear HNX
    have K00 := Lib.hid (JgAt.made HR0.out HT0.out 74)
    obtain ⟨d0, d1, d2, d3, d4, d5, d6, d7, d8, d9⟩ := K00.out.cells
    clear K00
    go_enter Tryz.func69, Tryz.ntmps69
    obtain ⟨S, HSd⟩ : ∃ S : World → Prop, S = fun w' => (fun x => JgAt w x w.heap.size fa fc (some ⟨lb, lof, none⟩) lc ga gc qa qc ta tc b ra rc (tabAll b)) w' := ⟨_, rfl⟩
    have KS : Hid (∀ wa wb, S wa → Below wa.heap.size wa wb → S wb) := by subst HSd; exact fun wa wb h b => h.next b
    have OS : Hid (∀ wa, S wa → (fun x => JgAt w x w.heap.size fa fc (some ⟨lb, lof, none⟩) lc ga gc qa qc ta tc b ra rc (tabAll b)) wa) := by subst HSd; exact fun wa h => h
    have IS : Hid (∀ wa, (fun x => JgAt w x w.heap.size fa fc (some ⟨lb, lof, none⟩) lc ga gc qa qc ta tc b ra rc (tabAll b)) wa → S wa) := by subst HSd; exact fun wa h => h
    clear HSd
    go_wp2_with fail
    refine wp_region_held_drew (S := S) (by kernel_rfl) ?_ (fun hHeld => ?_)
    · exact IS.out _ ((JgAt.made HR0.out HT0.out 74).drew)
    refine wpAnyH_take (i := 0) (v := ?_) rfl (by kernel_rfl) (by kernel_rfl) (by kernel_rfl) (fun _ _ _ h => h) (Or.inl ⟨by rfl, ?_⟩) hHeld ?_
    rotate_left
    · (intro wa hSw; have K := OS.out _ hSw; obtain ⟨d0, d1, d2, d3, d4, d5, d6, d7, d8, d9⟩ := K.cells; have z0 := HCL.out _ K.bel; go_simp; try with_reducible rfl)
    simp only [Act.put, List.getElem_toArray, List.getElem_cons_zero, List.setIfInBounds_toArray, List.set_cons_zero, List.set_cons_succ]
    refine wpAnyH_take (i := 1) (v := ?_) rfl (by kernel_rfl) (by kernel_rfl) (by kernel_rfl) (fun _ _ _ h => h) (Or.inl ⟨by rfl, ?_⟩) hHeld ?_
    rotate_left
    · (intro wa hSw; go_simp; try with_reducible rfl)
    simp only [Act.put, List.getElem_toArray, List.getElem_cons_zero, List.getElem_cons_succ, List.setIfInBounds_toArray, List.set_cons_zero, List.set_cons_succ]
    refine wpAnyH_take (i := 2) (v := ?_) rfl (by kernel_rfl) (by kernel_rfl) (by kernel_rfl) (fun _ _ _ h => h) (Or.inl ⟨by rfl, ?_⟩) hHeld ?_
    rotate_left
    · (intro wa hSw; go_simp; try with_reducible rfl)
    simp only [Act.put, List.getElem_toArray, List.getElem_cons_zero, List.getElem_cons_succ, List.setIfInBounds_toArray, List.set_cons_zero, List.set_cons_succ]
    refine wpAnyH_take (i := 3) (v := ?_) rfl (by kernel_rfl) (by kernel_rfl) (by kernel_rfl) (fun _ _ _ h => h) (Or.inl ⟨by rfl, ?_⟩) hHeld ?_
    rotate_left
    · (intro wa hSw; go_simp; try with_reducible rfl)
    simp only [Act.put, List.getElem_toArray, List.getElem_cons_zero, List.getElem_cons_succ, List.setIfInBounds_toArray, List.set_cons_zero, List.set_cons_succ]
    refine wpAnyH_take (i := 4) (v := ?_) rfl (by kernel_rfl) (by kernel_rfl) (by kernel_rfl) (fun _ _ _ h => h) (Or.inl ⟨by rfl, ?_⟩) hHeld ?_
    rotate_left
    · (intro wa hSw; have K := OS.out _ hSw; obtain ⟨d0, d1, d2, d3, d4, d5, d6, d7, d8, d9⟩ := K.cells; have z0 := HCL.out _ K.bel; go_simp; try with_reducible rfl)
    simp only [Act.put, List.getElem_toArray, List.getElem_cons_zero, List.getElem_cons_succ, List.setIfInBounds_toArray, List.set_cons_zero, List.set_cons_succ]
    refine wpAnyH_take (i := 5) (v := ?_) rfl (by kernel_rfl) (by kernel_rfl) (by kernel_rfl) (fun _ _ _ h => h) (Or.inl ⟨by rfl, ?_⟩) hHeld ?_
    rotate_left
    · (intro wa hSw; go_simp; try with_reducible rfl)
    simp only [Act.put, List.getElem_toArray, List.getElem_cons_zero, List.getElem_cons_succ, List.setIfInBounds_toArray, List.set_cons_zero, List.set_cons_succ]
    refine wpAnyH_ready (rs := [6]) (by kernel_rfl) (by simp) ?_
    refine AllReadyH.cons (o := _) rfl (fun K hK => ?_) AllReadyH.nil
    go_simp
    have KK := OS.out _ hHeld
    refine (CSP.out _ KK.bel).mono ?_
    rintro e w101 ⟨v8, T, rfl, hT, hLL, b101⟩
    clear KK
    have HPT := Lib.hid hT
    have HL2 := Lib.hid hLL
    obtain ⟨pa, pc, hvf⟩ := owns_form hLL.1
    subst hvf
    have HTL : Hid (T.length = PL.length) := (by show _ = _; rw [← hT, List.length_map])
    have HBQ := Lib.hid ((OS.out _ hHeld).bel.size)
    clear hT hLL
    (try go_wp2_with fail)
    refine hK.out _ _ ?_ (fun hHeld101 => ?_)
    · exact KS.out _ _ hHeld b101
    clear hK K
    refine wpAnyH_take (i := 7) (v := ?_) rfl (by kernel_rfl) (by kernel_rfl) (by kernel_rfl) (fun _ _ _ h => h) (Or.inl ⟨by rfl, ?_⟩) hHeld101 ?_
    rotate_left
    · (intro wa hSw; go_simp; try with_reducible rfl)
    simp only [Act.put, List.getElem_toArray, List.getElem_cons_zero, List.getElem_cons_succ, List.setIfInBounds_toArray, List.set_cons_zero, List.set_cons_succ]
    refine wpAnyH_done (by kernel_rfl) ?_ _
    have KE := Lib.hid (OS.out _ hHeld101)
    clear KS OS IS hHeld hHeld101
    obtain ⟨d0, d1, d2, d3, d4, d5, d6, d7, d8, d9⟩ := KE.out.cells
    have z0 := HCL.out _ KE.out.bel
    have hTn : T.length ≤ 1048576 := by have := HTL.out; omega
    have HL6 := Lib.hid (LL.mono HL2.out HBQ.out)
    have HB6 := Lib.hid KE.out.bel
    have g4 : decide ((1 : Int) < (T.length : Int)) = true := by have := HTL.out; first | exact decide_eq_true (by omega) | exact decide_eq_false (by omega)
    have g5 : decide (1 < T.length) = true := by have := HTL.out; first | exact decide_eq_true (by omega) | exact decide_eq_false (by omega)
    rw [HAG.out] at d5
    go_wp2_with fail
    refine (CMU.out _).mono ?_
    rintro e w2 ⟨rfl, hw2⟩
    subst hw2
    go_wp2
    clear g4 g5 d0 d1 d2 d3 d4 d5 d6 d7 d8 d9 z0
    go_loopw [10, 58] (fun ov iv wr => ∃ (k : Nat) (R : List (Value × List Int)), k ≤ T.length ∧ iv = .int .i64 k ∧ Hid (R.map Prod.snd = (PL.take k).flatMap fun p => rankP b p nx) ∧ Hid (RankSt w101 wr w.heap.size T k ov R)) (fun _ iv _ => T.length - (RowKit.intOf iv).toNat)
    case atStart => exact ⟨0, [], Nat.zero_le _, rfl, rfl, RankSt.start _ _ _⟩
    case round =>
      obtain ⟨k, R, hk, rfl, hR, HS⟩ := hrel
      have hDr := HS.out.bel.size
      by_cases hlt : k < T.length
      · obtain ⟨y, hy⟩ : ∃ y, T[k]? = some y := ⟨_, List.getElem?_eq_getElem hlt⟩
        have hyp : PL[k]? = some y.2 := by rw [← HPT.out, List.getElem?_map, hy]; rfl
        have hyP : y.2 ∈ PL := List.mem_of_getElem? hyp
        have LLr := HL6.out.below HS.out.bel (Nat.le_refl _)
        have hrow := LLr.2.1 _ (List.mem_of_getElem? hy)
        have hpn2 : y.2.length ≤ n := (HPL.out _ hyP).1
        obtain ⟨pg, pcap, he, hpc, _, cp⟩ := vals_at (x := y.1) (j := k) LLr.1 (by rw [List.getElem?_map, hy]; rfl)
        simp only [Value.slice.injEq, true_and] at he
        obtain ⟨rfl, rfl⟩ := he
        have HBr := Lib.hid (HB6.out.trans (HS.out.bel.mono HB6.out.size))
        have CRk := Lib.hid (CR.out _ HZ.out _ hyP w.heap.size y.1 _ HBr.out hrow)
        have HSU : Hid ((PL.take (k + 1)).flatMap (fun p => rankP b p nx) = R.map Prod.snd ++ rankP b y.2 nx) := by show _ = _; rw [take_flat_succ _ _ _ hyp, hR.out]
        have HRk : Hid (R.length + (rankP b y.2 nx).length ≤ n) := by
          have e1 := congrArg List.length HSU.out
          rw [List.length_append, List.length_map] at e1
          have e2 := take_flat (fun p => rankP b p nx) PL (k + 1)
          have e3 := HRL.out
          show _ ≤ _
          omega
        have hklt : (k : Int) < T.length := by omega
        have HY := Lib.hid hy
        obtain ⟨ya, yc, hyf⟩ := owns_form hrow
        obtain ⟨d0, d1, d2, d3, d4, d5, d6, d7, d8, d9⟩ := (KE.out.next (HS.out.bel)).cells
        clear hyp hyP LLr hrow hR hy
        obtain ⟨p, hp2⟩ : ∃ p, y.2 = p := ⟨_, rfl⟩
        rw [hp2] at hyf CRk HSU HRk hpn2
        have HYF := Lib.hid hyf
        rw [hyf] at CRk cp
        clear hyf hp2
        go_wp2_with fail
        refine CRk.out.mono ?_
        rintro e w7 ⟨rv, T2, rfl, hT2, a1, a2, a3, a4, b4⟩
        have HT2 := Lib.hid hT2
        have hl2 : T2.length = (rankP b p nx).length := by rw [← hT2, List.length_map]
        have hRm : R.length + T2.length ≤ 1048576 := by have := HRk.out; omega
        obtain ⟨gR, hg1, hg2, hg3, hg4⟩ := LL.rec (B := w.heap.size) ⟨owns_mono a1 (by have := HBr.out.size; omega), a2, a3⟩ (by omega)
        have HG1 := Lib.hid hg1
        have HG2 := Lib.hid hg2
        have HG3 := Lib.hid hg3
        have HG4 := Lib.hid hg4
        have HA1 := Lib.hid a1
        have HA2 := Lib.hid a2
        have HA3 := Lib.hid a3
        rw [← HYF.out] at a4
        have HA4 := Lib.hid a4
        have HB4 := Lib.hid b4
        have HLr := Lib.hid (owns_below HS.out.outer b4 (Nat.le_refl _))
        have hsz4 : w101.heap.size ≤ w7.heap.size := Nat.le_trans hDr b4.size
        obtain ⟨rra, rrc, hrf⟩ := owns_form a1
        subst hrf
        clear d0 d1 d2 d3 d4 d5 d6 d7 d8 d9 hT2 a1 a2 a3 a4 b4 hg1 hg2 hg3 hg4 hl2 CRk HRk HBr cp
        go_wp2_with (at_builtin; refine wpList_appendR rfl (.tmp 62) (.tmp 66) 34 rfl w101.heap.size 24 Tryz.underlying34 li lz0 lz1 lz2 rfl (by decide) rfl HLr.out rfl HG1.out HG2.out HG3.out hRm (by omega) hsz4 ?_; intro vv w8 o5 gr5 at5; have O5 := Lib.hid o5; have G5 := Lib.hid gr5; have A5 := Lib.hid at5; clear o5 gr5 at5)
        have O6 := O5.out
        rw [HG4.out] at O6
        have HS8 := Lib.hid (RankSt.step (L := []) HS.out HL6.out HY.out HA1.out HA2.out HA3.out HA4.out HB4.out O6 G5.out A5.out)
        clear O6 O5 G5 A5 HA1 HA2 HA3 HA4 HB4 HLr HS
        go_roundw
        case rel => exact ⟨k + 1, R ++ T2, by omega, by go_num, Lib.hid (by rw [List.map_append, HT2.out]; exact HSU.out.symm), HS8⟩
        case measure => simp [RowKit.intOf]; omega
      · obtain rfl : T.length = k := by omega
        have HRD := Lib.hid (RankSt.done (gv := .slice (some ⟨gq, 0, none⟩) n xc) HS.out HL6.out HB6.out HDW.out)
        rw [hR.out, HTL.out, List.take_length] at HRD
        clear HS hR
        go_wp2
        go_ret
        exact HRD.out

end Go.Proofs.YtakbolkdbpehoaaGreat
set_option linter.unusedVariables false
namespace Go.Proofs.YtakbolkdbpehoaaGreat
open Go.RowKit

theorem IntRow.rec {w : World} {v : Value} {n : Nat} {g : Nat → Int} (h : IntRow w v n g) : RecRow 1 w v n fun i => [.int .i64 (g i)] := by
  rcases h with ⟨a, c, rfl, rfl⟩ | ⟨b, off, c, rfl, h0, h1, hc, h2⟩
  · exact .inl ⟨_, _, rfl, rfl⟩
  · refine .inr ⟨b, off, c, rfl, h0, h1, fun i hi => ⟨World.block_lt_of_cell? w _ (hc i hi), fun j u hu => ?_⟩, h2⟩
    cases j with
    | zero =>
      simp only [List.getElem?_cons_zero, Option.some.injEq] at hu
      subst hu
      rw [Nat.mul_one, Nat.add_zero]
      exact hc i hi
    | succ j => simp at hu
theorem RecRow.ints {w : World} {v : Value} {n : Nat} {g : Nat → Int} (h : RecRow 1 w v n fun i => [.int .i64 (g i)]) : IntRow w v n g := by
  rcases h with ⟨a, c, rfl, rfl⟩ | ⟨b, off, c, rfl, h0, h1, hc, h2⟩
  · exact .inl ⟨_, _, rfl, rfl⟩
  · exact .inr ⟨b, off, c, rfl, h0, h1, fun i hi => by have := (hc i hi).2 0 _ rfl; simpa using this, h2⟩
end Go.Proofs.YtakbolkdbpehoaaGreat
set_option linter.unusedVariables false
namespace Go.Proofs.YtakbolkdbpehoaaGreat
open Go.RowKit

theorem rank_ne (b : BookD) : ∀ G s, ∀ p ∈ rankP b G s, p ≠ [] := by
  refine rankP_ind b (P := fun _ _ L => ∀ p ∈ L, p ≠ []) (fun s p hp => by cases hp) (fun G s hG _ p hp => ?_) (fun G s hG h1 hs ih p hp => ?_)
  · simp only [List.mem_singleton] at hp; subst hp; exact hG
  · rw [rankP_step b hG h1 hs] at hp
    obtain ⟨q, hq, hpq⟩ := List.mem_flatMap.1 hp
    exact ih q hq p hpq
theorem flat_take {α : Type} (L : List (List α)) (k : Nat) {x : List α} (h : L[k]? = some x) : (L.take (k + 1)).flatten = (L.take k).flatten ++ x := by
  simp [List.take_add_one, h, List.flatten_append]
theorem flat_take_le {α : Type} (L : List (List α)) (k : Nat) : (L.take k).flatten.length ≤ L.flatten.length := by
  have h := congrArg List.length (congrArg List.flatten (List.take_append_drop k L))
  rw [List.flatten_append, List.length_append] at h
  omega
theorem all_flat (b : BookD) : (rankP b (allL b.nf) 0).flatten.length = b.nf := by rw [(rank_perm b (allL b.nf) 0).length_eq, allL_len]

set_option maxRecDepth 100000 in
set_option maxHeartbeats 2000000 in
theorem splitBy_spec (vf vl vg vfa vta : Value) (b : BookD) (key : Int) (gv : Value) (ng : Nat) (gg : Nat → Int) (R : Bool) (w : World) (hR : R = true ↔ (bookP b ∧ teamsP b.nf ng gg)) (h : BookRow w vf vl vg vfa vta b) (hs : ∀ i, (b.f i).nm.size ≤ maxLen) (hgv : IntRow w gv ng gg) (hn6 : ng ≤ 1048576) :
    Calls Tryz.prog 18 #[.agg #[vf, .int .i64 b.win, .int .i64 b.draw, .int .i64 b.loss, vl, .bool b.again, vg, vfa, vta], .int .i64 key, gv] w (ListsL w (if R = true then (splitP (bookV b key gg ng) gg ng).map Prod.snd else [])) := by
  obtain ⟨fa, fc, la, lc, ga, gc, qa, qc, ta, tc, rfl, rfl, rfl, rfl, rfl⟩ := h.form
  obtain ⟨r1, hr1⟩ := boolEx (bookP b)
  obtain ⟨r2, hr2⟩ := boolEx (teamsP b.nf ng gg)
  have C1 := Lib.hid (fun wa h1 => bookOk_spec (.slice fa b.nf fc) (.slice la b.nl lc) (.slice ga b.m gc) (.slice qa b.nfa qc) (.slice ta b.nta tc) b r1 wa hr1 h1 hs)
  have C2 := Lib.hid (fun wa h1 h2 => l07Teams_spec (.slice fa b.nf fc) (.slice la b.nl lc) (.slice ga b.m gc) (.slice qa b.nfa qc) (.slice ta b.nta tc) b gv ng gg r2 wa hr2 h1 h2)
  have hall : R = true ↔ (r1 = true ∧ r2 = true) := by rw [hR, hr1, hr2]
  have HN := Lib.hid (boolF hall)
  have HY := Lib.hid (boolT hall)
  have HP1 : Hid (r1 = true → bookP b) := hr1.1
  have HP2 : Hid (r2 = true → teamsP b.nf ng gg) := hr2.1
  have HG := Lib.hid hgv
  obtain ⟨xa, xc, rfl, _, _⟩ := hgv.form
  obtain ⟨RES, hRES⟩ : ∃ RES, (if R = true then (splitP (bookV b key gg ng) gg ng).map Prod.snd else []) = RES := ⟨_, rfl⟩
  rw [hRES]
  have HRF : Hid (R = false → RES = []) := fun e => by rw [← hRES, e]; rfl
  have HRT : Hid (R = true → RES = (splitP (bookV b key gg ng) gg ng).map Prod.snd) := fun e => by rw [← hRES, e]; rfl
  have K0 := Lib.hid (BkAt.made h 29)
  have hsix := h.sixty
  clear hR hr1 hr2 hall h hgv hs hRES
  go_enter Tryz.func18, Tryz.ntmps18
  cases r1 with
  | false =>
    obtain rfl := HRF.out (HN.out fun h => by have := h.1; cases this)
    clear HN HY
    obtain ⟨d0, d1, d2, d3, d4, d5, d6, d7, d8⟩ := K0.out.cells
    go_wp2_with fail
    refine (C1.out _ K0.out.row).mono ?_
    rintro e w1 ⟨rfl, b1⟩
    have K1 := Lib.hid (K0.out.next b1)
    clear d0 d1 d2 d3 d4 d5 d6 d7 d8 K0 b1
    obtain ⟨d0, d1, d2, d3, d4, d5, d6, d7, d8⟩ := K1.out.cells
    have HE := Lib.hid K1.out.bel
    go_wp2
    go_ret
    exact ListsL.none HE.out
  | true =>
  obtain ⟨d0, d1, d2, d3, d4, d5, d6, d7, d8⟩ := K0.out.cells
  go_wp2_with fail
  refine (C1.out _ K0.out.row).mono ?_
  rintro e w1 ⟨rfl, b1⟩
  have K1 := Lib.hid (K0.out.next b1)
  clear d0 d1 d2 d3 d4 d5 d6 d7 d8 K0 b1
  obtain ⟨d0, d1, d2, d3, d4, d5, d6, d7, d8⟩ := K1.out.cells
  cases r2 with
  | false =>
    obtain rfl := HRF.out (HN.out fun h => by have := h.2; cases this)
    clear HN HY
    go_wp2_with fail
    refine (C2.out _ K1.out.row (HG.out.below K1.out.bel (Nat.le_refl _))).mono ?_
    rintro e w2 ⟨rfl, b2⟩
    have K2 := Lib.hid (K1.out.next b2)
    clear d0 d1 d2 d3 d4 d5 d6 d7 d8 K1 b2
    obtain ⟨d0, d1, d2, d3, d4, d5, d6, d7, d8⟩ := K2.out.cells
    have HE := Lib.hid K2.out.bel
    go_wp2
    go_ret
    exact ListsL.none HE.out
  | true =>
  go_wp2_with fail
  refine (C2.out _ K1.out.row (HG.out.below K1.out.bel (Nat.le_refl _))).mono ?_
  rintro e w2 ⟨rfl, b2⟩
  have K2 := Lib.hid (K1.out.next b2)
  clear d0 d1 d2 d3 d4 d5 d6 d7 d8 K1 b2
  obtain ⟨d0, d1, d2, d3, d4, d5, d6, d7, d8⟩ := K2.out.cells
  obtain rfl := HRT.out (HY.out ⟨by first | rfl | trivial, by first | rfl | trivial⟩)
  have HBP := Lib.hid (HP1.out (by first | rfl | trivial))
  have HTP := Lib.hid (HP2.out (by first | rfl | trivial))
  clear HN HY HRF HRT HP1 HP2 C1 C2
  go_wp2_with fail
  refine (l07Split_spec (.slice fa b.nf fc) (.slice la b.nl lc) (.slice ga b.m gc) (.slice qa b.nfa qc) (.slice ta b.nta tc) b key _ ng gg _ HBP.out K2.out.row (HG.out.below K2.out.bel (Nat.le_refl _)) HTP.out hn6).mono ?_
  rintro e w4 ⟨rv, T, rfl, hT, hL, b4⟩
  have HE := Lib.hid (K2.out.bel.trans (b4.mono K2.out.bel.size))
  have HL := Lib.hid (hL.mono K2.out.bel.size)
  have HT := Lib.hid hT
  clear hT hL b4 d0 d1 d2 d3 d4 d5 d6 d7 d8
  go_wp2
  go_ret
  exact ⟨_, T, rfl, HT.out, HL.out, HE.out⟩

set_option maxRecDepth 100000 in
set_option maxHeartbeats 2000000 in
theorem rankOf_spec (vf vl vg vfa vta : Value) (b : BookD) (team : Int) (R : Bool) (w : World) (hR : R = true ↔ bookP b) (h : BookRow w vf vl vg vfa vta b) (hs : ∀ i, (b.f i).nm.size ≤ maxLen) (hn6 : b.nf ≤ 1048576) :
    Calls Tryz.prog 34 #[.agg #[vf, .int .i64 b.win, .int .i64 b.draw, .int .i64 b.loss, vl, .bool b.again, vg, vfa, vta], .int .i64 team] w fun e w' => e = .returned (.int .i64 (rankAt team (if R = true then rankP b (allL b.nf) 0 else []) 1)) ∧ Below w.heap.size w w' := by
  obtain ⟨fa, fc, la, lc, ga, gc, qa, qc, ta, tc, rfl, rfl, rfl, rfl, rfl⟩ := h.form
  have K0 := Lib.hid (BkAt.made h 29)
  have hsix := h.sixty
  have C2 := Lib.hid (fun wa h1 => rankGroups_spec (.slice fa b.nf fc) (.slice la b.nl lc) (.slice ga b.m gc) (.slice qa b.nfa qc) (.slice ta b.nta tc) b R wa hR h1 hs hn6)
  obtain ⟨PL, hPL⟩ : ∃ PL, (if R = true then rankP b (allL b.nf) 0 else []) = PL := ⟨_, rfl⟩
  have HNE : Hid (∀ p ∈ PL, p ≠ []) := by
    rw [← hPL]; show ∀ p ∈ _, _
    split
    · exact rank_ne b _ _
    · intro p hp; cases hp
  have hflat : PL.flatten.length ≤ b.nf := by
    rw [← hPL]
    split
    · rw [all_flat]; exact Nat.le_refl _
    · simp
  have hPLl : PL.length ≤ 1048576 := by
    rw [← hPL]
    split
    · have := rankP_len b (allL b.nf) 0
      rw [allL_len] at this
      omega
    · simp
  rw [hPL] at C2
  rw [hPL]
  have hn7 : PL.flatten.length ≤ 1048576 := by omega
  clear h hR hs hPL hn6 hflat
  obtain ⟨d0, d1, d2, d3, d4, d5, d6, d7, d8⟩ := K0.out.cells
  go_enter Tryz.func34, Tryz.ntmps34
  go_wp2_with fail
  refine (C2.out _ K0.out.row).mono ?_
  rintro e w2 ⟨rv, T, rfl, hT, hL, b2⟩
  have HPT := Lib.hid hT
  have HL2 := Lib.hid hL
  have HTL : Hid (T.length = PL.length) := (by show _ = _; rw [← hT, List.length_map])
  have hTn : T.length ≤ 1048576 := by have := HTL.out; omega
  obtain ⟨pa, pc, hvf⟩ := owns_form hL.1
  subst hvf
  have HB2 := Lib.hid (K0.out.bel.trans (b2.mono K0.out.bel.size))
  clear hT hL b2 K0 C2 d0 d1 d2 d3 d4 d5 d6 d7 d8
  go_wp2
  go_loopw [5, 11] (fun nv iv wr => ∃ (k : Nat) (m : Nat), k ≤ T.length ∧ iv = .int .i64 k ∧ nv = .int .i64 m ∧ m = 1 + (PL.take k).flatten.length ∧ Hid (rankAt team (PL.drop k) m = rankAt team PL 1) ∧ Hid (Below w2.heap.size w2 wr)) (fun _ iv _ => T.length - (RowKit.intOf iv).toNat)
  case atStart => exact ⟨0, 1, Nat.zero_le _, rfl, rfl, rfl, Lib.hid rfl, Below.refl _ _⟩
  case round =>
    obtain ⟨k, m, hk, rfl, rfl, hm, HRA, HB⟩ := hrel
    by_cases hlt : k < T.length
    · obtain ⟨y, hy⟩ : ∃ y, T[k]? = some y := ⟨_, List.getElem?_eq_getElem hlt⟩
      have hyp : PL[k]? = some y.2 := by rw [← HPT.out, List.getElem?_map, hy]; rfl
      have hyP : y.2 ∈ PL := List.mem_of_getElem? hyp
      have LLr := HL2.out.below HB.out (Nat.le_refl _)
      have hrow := LLr.2.1 _ (List.mem_of_getElem? hy)
      obtain ⟨pg, pcap, he, hpc, _, cp⟩ := vals_at (x := y.1) (j := k) LLr.1 (by rw [List.getElem?_map, hy]; rfl)
      simp only [Value.slice.injEq, true_and] at he
      obtain ⟨rfl, rfl⟩ := he
      obtain ⟨ya, yc, hyf⟩ := owns_form hrow
      have hklt : (k : Int) < T.length := by omega
      obtain ⟨p, hp2⟩ : ∃ p, y.2 = p := ⟨_, rfl⟩
      rw [hp2] at hyf hyp hyP hrow
      rw [hyf] at cp hrow
      clear LLr hyf hp2 hy
      have hdrop : PL.drop k = p :: PL.drop (k + 1) := by
        have hkl := (List.getElem?_eq_some_iff.1 hyp).1
        rw [List.drop_eq_getElem_cons hkl, (List.getElem?_eq_some_iff.1 hyp).2]
      have HFT : Hid ((PL.take (k + 1)).flatten = (PL.take k).flatten ++ p) := flat_take PL k hyp
      have hfl := flat_take_le PL (k + 1)
      rw [HFT.out, List.length_append] at hfl
      have hmem : hasB (getI p) p.length team = true ↔ team ∈ p := by
        rw [hasB_iff]
        unfold hasP
        constructor
        · rintro ⟨j, hj, e⟩
          have e3 : getI p j = p[j] := by unfold getI; simp [hj]
          rw [← e, e3]
          exact List.getElem_mem hj
        · intro hin
          obtain ⟨j, hj, e⟩ := List.mem_iff_getElem.1 hin
          exact ⟨j, hj, by have e3 : getI p j = p[j] := by unfold getI; simp [hj]
                           rw [e3]; exact e⟩
      have hstep : rankAt team (PL.drop k) m = if team ∈ p then (m : Int) else rankAt team (PL.drop (k + 1)) (m + p.length) := by rw [hdrop]; rfl
      rw [HRA.out] at hstep
      have CH := Lib.hid (fun wa h1 => l02Has_any (.slice ya p.length yc) p.length (getI p) team wa h1)
      have HIR := Lib.hid (IntRow.of_list hrow (by omega))
      have HE := Lib.hid (HB2.out.trans (HB.out.mono HB2.out.size))
      have hm2 : m + p.length ≤ 1048577 := by omega
      have hm3 : m + p.length = 1 + (PL.take (k + 1)).flatten.length := by rw [HFT.out, List.length_append]; omega
      have HM3 := Lib.hid hm3
      by_cases hin : team ∈ p
      · have e1 := hmem.2 hin
        rw [e1] at CH
        rw [if_pos hin] at hstep
        have HST := Lib.hid hstep
        clear HRA hdrop HFT hfl hmem hstep hyp hyP hrow hin e1 hm3 HM3 HB hm
        go_wp2_with fail
        refine (CH.out _ HIR.out).mono ?_
        rintro e w3 ⟨rfl, hw3⟩
        subst hw3
        go_wp2
        go_ret
        exact ⟨by rw [HST.out]; rfl, HE.out⟩
      · have e1 : hasB (getI p) p.length team = false := by
          cases hc : hasB (getI p) p.length team with
          | false => rfl
          | true => exact absurd (hmem.1 hc) hin
        rw [e1] at CH
        rw [if_neg hin] at hstep
        have HST := Lib.hid hstep.symm
        clear HRA hdrop HFT hfl hmem hstep hyp hyP hrow hin e1 hm3 hm HE
        go_wp2_with fail
        refine (CH.out _ HIR.out).mono ?_
        rintro e w3 ⟨rfl, hw3⟩
        subst hw3
        go_wp2
        go_roundw
        case rel => exact ⟨k + 1, m + p.length, by omega, by go_num, by go_num, HM3.out, HST, HB⟩
        case measure => simp [RowKit.intOf]; omega
    · obtain rfl : T.length = k := by omega
      have HR0 : Hid (rankAt team PL 1 = 0) := by
        have h1 := HRA.out
        rw [HTL.out, List.drop_length] at h1
        exact h1.symm
      have HE := Lib.hid (HB2.out.trans (HB.out.mono HB2.out.size))
      clear HRA HB hm
      go_wp2
      go_ret
      exact ⟨by rw [HR0.out]; rfl, HE.out⟩

end Go.Proofs.YtakbolkdbpehoaaGreat
