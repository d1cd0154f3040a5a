/-
  Packed: Rank, RankFrom.
-/
import Derived.Test.YtojkonhhaamodaaQ9
import Derived.Test.YtojkonhhaamodaaQ10
set_option linter.unusedVariables false
namespace Go.Proofs.Ytojkonhhaamodaa
open Go.RowKit

theorem rankP_ind (b : BookD) {P : List Int → Nat → List (List Int) → Prop} (h0 : ∀ s, P [] s []) (h1 : ∀ G s, G ≠ [] → (G.length = 1 ∨ b.nl ≤ s) → P G s [G])
    (h2 : ∀ G s, G ≠ [] → G.length ≠ 1 → s < b.nl → (∀ p ∈ partsL b (b.l s) (getI G) G.length, P p (nextS b (partsL b (b.l s) (getI G) G.length).length s) (rankP b p (nextS b (partsL b (b.l s) (getI G) G.length).length s))) → P G s (rankP b G s)) : ∀ G s, P G s (rankP b G s) := by
  have H : ∀ m G s, rankM b.nl G.length s < m → P G s (rankP b G s) := by
    intro m
    induction m with
    | zero => intro G s h; exact absurd h (Nat.not_lt_zero _)
    | succ m ih =>
      intro G s h
      by_cases hG : G = []
      · subst hG; rw [rankP_nil]; exact h0 s
      by_cases hs : G.length = 1 ∨ b.nl ≤ s
      · rw [rankP_one b hG hs]; exact h1 G s hG hs
      · exact h2 G s hG (by omega) (by omega) fun p hp => ih p _ (by have := rankM_lt (b := b) (G := G) (s := s) (by omega) hp; omega)
  exact fun G s => H _ G s (Nat.lt_succ_self _)
theorem parts_sum (b : BookD) (key : Int) (gg : Nat → Int) (n : Nat) : ((partsL b key gg n).map List.length).sum = n := by
  have h := splitP_sum (bookV b key gg n) gg n
  unfold lenS at h
  unfold partsL
  rw [List.map_map]
  exact h
theorem flat_le {f g : List Int → Nat} : ∀ (L : List (List Int)), (∀ p ∈ L, f p ≤ g p) → (L.map f).sum ≤ (L.map g).sum
  | [], _ => Nat.le_refl _
  | p :: L, h => by
    have h1 := flat_le (f := f) (g := g) L fun q hq => h q (List.mem_cons_of_mem _ hq)
    have h2 := h p (List.mem_cons_self ..)
    simp only [List.map_cons, List.sum_cons]
    omega
theorem rankP_len (b : BookD) : ∀ G s, (rankP b G s).length ≤ G.length := by
  refine rankP_ind b (P := fun G _ L => L.length ≤ G.length) (fun s => by simp) (fun G s hG _ => ?_) fun G s hG h1 hs ih => ?_
  · have := List.length_pos_iff.2 hG
    simp; omega
  · show (rankP b G s).length ≤ G.length
    rw [rankP_step b hG h1 hs, List.length_flatMap]
    refine Nat.le_trans (flat_le (g := List.length) _ fun p hp => ih p hp) ?_
    rw [parts_sum]
    exact Nat.le_refl _
theorem take_flat {α β : Type} (f : α → List β) (L : List α) (k : Nat) : ((L.take k).flatMap f).length ≤ (L.flatMap f).length := by
  conv => rhs; rw [← List.take_append_drop k L, List.flatMap_append, List.length_append]
  omega
theorem take_flat_succ {α β : Type} (f : α → List β) (L : List α) (k : Nat) {x : α} (h : L[k]? = some x) : (L.take (k + 1)).flatMap f = (L.take k).flatMap f ++ f x := by
  obtain ⟨hk, rfl⟩ := List.getElem?_eq_some_iff.1 h
  rw [← List.take_append_getElem hk, List.flatMap_append]
  simp
theorem getI_range (G : List Int) : ((List.range G.length).map fun j => Value.int .i64 (getI G j)) = G.map (Value.int .i64) := by
  apply List.ext_getElem?
  intro j
  rw [List.getElem?_map, List.getElem?_map]
  by_cases hj : j < G.length
  · rw [List.getElem?_range hj, List.getElem?_eq_getElem hj]
    simp [getI, hj]
  · rw [List.getElem?_eq_none (by simp; omega), List.getElem?_eq_none (by omega)]
    rfl
theorem LL.rec {w : World} {B : Nat} {v : Value} {T : List (Value × List Int)} (h : LL w B v T) (hn : T.length ≤ 9223372036854775807) :
    ∃ g, RecRow 1 w v T.length g ∧ (∀ i, i < T.length → (g i).length = 1) ∧ (∀ i, i < T.length → ∀ u ∈ g i, u.oneCell' = true) ∧ flatR g T.length = T.map Prod.fst := by
  refine ⟨fun i => [(T.map Prod.fst).getD i undef], RecRow.of_owns h.1 hn (fun i hi j u hu => ?_) (fun _ _ => by simp), fun _ _ => by simp, fun i hi u hu => ?_, ?_⟩
  · cases j with
    | zero =>
      simp only [List.getElem?_cons_zero, Option.some.injEq] at hu
      subst hu
      rw [Nat.mul_one, Nat.add_zero, List.getD_eq_getElem?_getD, List.getElem?_eq_getElem (by simpa using hi)]
      rfl
    | succ j => simp at hu
  · rw [List.mem_singleton.1 hu, List.getD_eq_getElem?_getD, List.getElem?_eq_getElem (by simpa using hi)]
    simp only [List.getElem_map, Option.getD_some]
    exact one_of_slice (h.2.1 _ (List.getElem_mem hi))
  · unfold flatR
    apply List.ext_getElem?
    intro j
    have e : ∀ n, (List.range n).flatMap (fun i => [(T.map Prod.fst).getD i undef]) = (List.range n).map fun i => (T.map Prod.fst).getD i undef := fun n => by
      induction n with
      | zero => rfl
      | succ n ih => rw [List.range_succ, List.flatMap_append, List.map_append, ih]; simp
    rw [e, List.getElem?_map]
    by_cases hj : j < T.length
    · rw [List.getElem?_range hj]
      simp [hj]
    · rw [List.getElem?_eq_none (by simp; omega), List.getElem?_eq_none (by simp; omega)]
      rfl
theorem LL.nil {w : World} : LL (w.alloc (.cells #[] 24)) w.heap.size (.slice (some ⟨w.heap.size, 0, none⟩) 0 0) [] :=
  ⟨World.ownsRow_lit (e := 24) (size := 1) w #[] 0 (Nat.le_refl _) (by decide) rfl, ⟨(fun x hx => by cases hx), (by unfold ApartL; simp)⟩⟩
theorem LL.one {w : World} {B : Nat} {v : Value} {G : List Int} (h : w.ownsRow B 3 1 v G.length (G.map (Value.int .i64))) (hB : B ≤ w.heap.size) : LL (w.alloc (.cells #[v] 24)) B (.slice (some ⟨w.heap.size, 0, none⟩) 1 1) [(v, G)] := by
  refine ⟨owns_mono (World.ownsRow_lit (e := 24) (size := 1) w #[v] 1 (Nat.le_refl _) (by decide) rfl) hB, fun x hx => ?_, ?_⟩
  · rw [List.mem_singleton.1 hx]
    exact h.alloc _
  · refine List.pairwise_cons.2 ⟨fun z hz => ?_, by simp⟩
    rw [List.mem_singleton.1 hz]
    intro k h1 h2
    have := (h.lt k h2).2
    have h3 : w.heap.size = k := by simpa [Value.ownBlock] using h1
    omega
set_option maxRecDepth 100000 in
set_option maxHeartbeats 2000000 in
theorem l07Rank_spec (vf vl vg vfa vta : Value) (b : BookD) (hp : bookP b) : ∀ (m : Nat) (G : List Int) (s : Nat) (gv : Value) (w : World), rankM b.nl G.length s < m → BookRow w vf vl vg vfa vta b → IntRow w gv G.length (getI G) → teamsP b.nf G.length (getI G) → G.length ≤ 1048576 → (s : Int) ≤ 9223372036854775807 →
    Calls Try.prog 90 #[.agg #[vf, .int .i64 b.win, .int .i64 b.draw, .int .i64 b.loss, vl, .bool b.again, vg, vfa, vta], gv, .int .i64 s] w (ListsL w (rankP b G s)) := by
  intro m
  induction m with
  | zero => intro G s gv w hm; exact absurd hm (Nat.not_lt_zero _)
  | succ m IH =>
  intro G s gv w hm h hgv ht hn6 hs63
  obtain ⟨i0, hi, hz0, hz1, hz2⟩ := info_parts Try.infoI
  obtain ⟨l0, li, lz0, lz1, lz2⟩ := info_parts Try.infoL
  obtain ⟨fa, fc, la, lc, ga, gc, qa, qc, ta, tc, rfl, rfl, rfl, rfl, rfl⟩ := h.form
  obtain ⟨xa, xc, rfl, hx64, _⟩ := hgv.form
  have hn8 : b.nl ≤ 8 := by have := hp.2.1.2.2.2.1; omega
  have C2 := Lib.hid (fun key gv n wa h1 h2 h3 h4 => l07Split_spec (.slice fa b.nf fc) (.slice la b.nl lc) (.slice ga b.m gc) (.slice qa b.nfa qc) (.slice ta b.nta tc) b key gv n (getI G) wa hp h1 h2 h3 h4)
  have HP := Lib.hid hp
  have b0 := (Below.refl w.heap.size w).alloc (Nat.le_refl _) (.cells #[.slice fa b.nf fc, .int .i64 b.win, .int .i64 b.draw, .int .i64 b.loss, .slice la b.nl lc, .bool b.again, .slice ga b.m gc, .slice qa b.nfa qc, .slice ta b.nta tc] 29)
  have BX0 := Lib.hid (BoxN.made (Below.refl (w.alloc (.cells #[.slice fa b.nf fc, .int .i64 b.win, .int .i64 b.draw, .int .i64 b.loss, .slice la b.nl lc, .bool b.again, .slice ga b.m gc, .slice qa b.nfa qc, .slice ta b.nta tc] 29)).heap.size (w.alloc (.cells #[.slice fa b.nf fc, .int .i64 b.win, .int .i64 b.draw, .int .i64 b.loss, .slice la b.nl lc, .bool b.again, .slice ga b.m gc, .slice qa b.nfa qc, .slice ta b.nta tc] 29))) (B := w.heap.size) rfl)
  have BR0 := Lib.hid (h.below b0 (Nat.le_refl _))
  have GR0 := Lib.hid (hgv.below b0 (Nat.le_refl _))
  have HB0 := Lib.hid b0
  have es : (w.alloc (.cells #[.slice fa b.nf fc, .int .i64 b.win, .int .i64 b.draw, .int .i64 b.loss, .slice la b.nl lc, .bool b.again, .slice ga b.m gc, .slice qa b.nfa qc, .slice ta b.nta tc] 29)).heap.size = w.heap.size + 1 := by simp
  have ES := Lib.hid es
  have HT := Lib.hid ht
  have HM := Lib.hid hm
  clear h b0 hgv hp ht es hm
  have d0 := BX0.out.2 0 _ rfl
  have d1 := BX0.out.2 1 _ rfl
  have d2 := BX0.out.2 2 _ rfl
  have d3 := BX0.out.2 3 _ rfl
  have d4 := BX0.out.2 4 _ rfl
  have d5 := BX0.out.2 5 _ rfl
  have d6 := BX0.out.2 6 _ rfl
  have d7 := BX0.out.2 7 _ rfl
  have d8 := BX0.out.2 8 _ rfl
  by_cases h0 : G = []
  · subst h0
    simp only [List.length_nil] at GR0 hx64 ⊢
    rw [rankP_nil]
    go_enter Try.func90, Try.ntmps90
    go_wp2
    go_ret
    have L0 := LL.nil (w := w.alloc (.cells #[.slice fa b.nf fc, .int .i64 b.win, .int .i64 b.draw, .int .i64 b.loss, .slice la b.nl lc, .bool b.again, .slice ga b.m gc, .slice qa b.nfa qc, .slice ta b.nta tc] 29))
    rw [ES.out] at L0
    exact ⟨_, [], rfl, rfl, L0.mono (by omega), HB0.out.alloc (by simp) _⟩
  have hpos := List.length_pos_iff.2 h0
  obtain ⟨n, hn⟩ : ∃ n, G.length = n := ⟨_, rfl⟩
  rw [hn] at GR0 HT HM hx64 hn6 hpos ⊢
  have HN := Lib.hid hn
  have g0 : ((n : Int) == 0) = false := beq_eq_false_iff_ne.2 (by omega)
  have g0' : (n == 0) = false := beq_eq_false_iff_ne.2 (by omega)
  clear hn
  by_cases h1 : n = 1 ∨ b.nl ≤ s
  · rw [rankP_one b h0 (by rw [HN.out]; exact h1)]
    have HG : Hid (((List.range n).map fun j => Value.int .i64 (getI G j)) = G.map (Value.int .i64)) := by show _ = _; rw [← HN.out]; exact getI_range G
    have hways : ((n : Int) == 1) = true ∨ ((n : Int) == 1) = false ∧ decide ((b.nl : Int) ≤ s) = true ∧ decide (b.nl ≤ s) = true := by
      rcases h1 with h1 | h1
      · exact .inl (beq_iff_eq.2 (by omega))
      · by_cases h2 : n = 1
        · exact .inl (beq_iff_eq.2 (by omega))
        · exact .inr ⟨beq_eq_false_iff_ne.2 (by omega), decide_eq_true (by omega), decide_eq_true h1⟩
    clear C2 IH h1 HT HM
    go_enter Try.func90, Try.ntmps90
    rcases hways with g1 | ⟨g1, g2, g3⟩
    all_goals
      go_wp2_with (at_builtin; refine wpList_cloneI rfl (.tmp 28) (.tmp 29) 24 rfl 3 Try.underlying24 hi hz0 hz1 hz2 (by simp [go_sem]) rfl GR0.out hpos (by omega) ?_; intro gg5 c5 w5 o5 r5 b5 ge5 lt5; have O5 := Lib.hid o5; have HB5 := Lib.hid (HB0.out.trans (b5.mono HB0.out.size)); clear o5 r5 b5)

      go_ret
      have hO := O5.out
      rw [HG.out] at hO
      have hO2 : w5.ownsRow w.heap.size 3 1 (.slice (some ⟨gg5, 0, none⟩) n c5) G.length (G.map (Value.int .i64)) := by rw [HN.out]; exact owns_mono hO HB0.out.size
      exact ⟨_, [(_, G)], rfl, rfl, LL.one hO2 HB5.out.size, HB5.out.alloc HB5.out.size _⟩
  have hn1 : n ≠ 1 := fun e => h1 (.inl e)
  have hsl : s < b.nl := by omega
  have g1 : ((n : Int) == 1) = false := beq_eq_false_iff_ne.2 (by omega)
  have g2 : decide ((b.nl : Int) ≤ s) = false := decide_eq_false (by omega)
  have g3 : decide (b.nl ≤ s) = false := decide_eq_false (by omega)
  have hsl' : (s : Int) < b.nl := by omega
  obtain ⟨lb, lof, rfl, hlc, cl⟩ := int_at BR0.out.2.1 hsl
  have HR : Hid (rankP b G s = (partsL b (b.l s) (getI G) n).flatMap fun p => rankP b p (nextS b (partsL b (b.l s) (getI G) n).length s)) := by
    have := rankP_step b h0 (by rw [HN.out]; exact hn1) hsl
    rw [HN.out] at this
    exact this
  have HLT : Hid (∀ p ∈ partsL b (b.l s) (getI G) n, rankM b.nl p.length (nextS b (partsL b (b.l s) (getI G) n).length s) < m) := fun p hp => by
    have := rankM_lt (b := b) (G := G) hsl (by rw [HN.out]; exact hp)
    rw [HN.out] at this
    have := HM.out
    omega
  have hrl := rankP_len b G s
  rw [HN.out] at hrl
  have HRL : Hid ((rankP b G s).length ≤ n) := hrl
  rw [HR.out]
  rw [HR.out] at HRL
  have HNX : Hid (nextS b (partsL b (b.l s) (getI G) n).length s = if 1 < (partsL b (b.l s) (getI G) n).length ∧ b.again = true ∧ mutualB (b.l s) = true then 0 else s + 1) := rfl
  have HPL : Hid (∀ p ∈ partsL b (b.l s) (getI G) n, p.length ≤ n ∧ teamsP b.nf p.length (getI p)) := fun p hp => ⟨partsL_le hp, fun i hi => by
    obtain ⟨j, hj, e⟩ := partsL_mem hp (getI p i) (by simp [getI, hi])
    rw [e]
    exact HT.out j hj⟩
  have CMU : Hid (∀ wa, Calls Try.prog 94 #[.int .i64 (b.l s)] wa fun e w' => e = .returned (.bool (mutualB (b.l s))) ∧ Below wa.heap.size wa w') := fun wa => (isMutual_spec (b.l s) wa).mono fun _ _ h => ⟨h.1, by rw [← h.2]; exact Below.refl _ _⟩
  have CSP : Hid (∀ wa, BookRow wa (.slice fa b.nf fc) (.slice (some ⟨lb, lof, none⟩) b.nl lc) (.slice ga b.m gc) (.slice qa b.nfa qc) (.slice ta b.nta tc) b → IntRow wa (.slice xa n xc) n (getI G) → Calls Try.prog 93 #[.agg #[.slice fa b.nf fc, .int .i64 b.win, .int .i64 b.draw, .int .i64 b.loss, .slice (some ⟨lb, lof, none⟩) b.nl lc, .bool b.again, .slice ga b.m gc, .slice qa b.nfa qc, .slice ta b.nta tc], .int .i64 (b.l s), .slice xa n xc] wa (ListsL wa (partsL b (b.l s) (getI G) n))) := fun wa h1 h2 => C2.out _ _ _ _ h1 h2 HT.out hn6
  have hpn := partsL_len (b := b) (key := b.l s) (gg := getI G) (n := n)
  clear C2 HT HM HR h1 hrl
  generalize partsL b (b.l s) (getI G) n = PL at *
  generalize mutualB (b.l s) = mu at *
  generalize b.l s = key at *
  generalize nextS b PL.length s = nx at *
  have CR : Hid (∀ z : Int, z = (nx : Int) → ∀ p ∈ PL, ∀ pv wa, BookRow wa (.slice fa b.nf fc) (.slice (some ⟨lb, lof, none⟩) b.nl lc) (.slice ga b.m gc) (.slice qa b.nfa qc) (.slice ta b.nta tc) b → IntRow wa pv p.length (getI p) → Calls Try.prog 90 #[.agg #[.slice fa b.nf fc, .int .i64 b.win, .int .i64 b.draw, .int .i64 b.loss, .slice (some ⟨lb, lof, none⟩) b.nl lc, .bool b.again, .slice ga b.m gc, .slice qa b.nfa qc, .slice ta b.nta tc], pv, .int .i64 z] wa (ListsL wa (rankP b p nx))) := by
    intro z hz p hp pv wa h1 h2
    subst hz
    refine IH p nx pv wa (HLT.out p hp) h1 h2 (HPL.out p hp).2 (by have := (HPL.out p hp).1; omega) ?_
    have := HNX.out
    split at this <;> omega
  have HRS := Lib.hid (rankP_len b)
  clear IH HLT HP
  generalize b.again = ag at *
  have hw : ¬ 1 < PL.length ∨ (1 < PL.length ∧ ag = false) ∨ (1 < PL.length ∧ ag = true ∧ mu = false) ∨ (1 < PL.length ∧ ag = true ∧ mu = true) := by
    by_cases h : 1 < PL.length
    · cases ag <;> cases mu <;> simp [h]
    · exact .inl h
  go_enter Try.func90, Try.ntmps90
  rcases hw with hA | ⟨hA, rfl⟩ | ⟨hA, rfl, rfl⟩ | ⟨hA, rfl, rfl⟩
  · have HZ : Hid ((s : Int) + 1 = nx) := by have := HNX.out; rw [if_neg (fun h => hA h.1)] at this; show _ = _; omega
    clear HNX
    go_wp2_with fail
    refine (CSP.out _ BR0.out GR0.out).mono ?_
    rintro e w2 ⟨v8, T, rfl, hT, hLL, b1⟩
    have BX2 := Lib.hid (BoxN.below BX0.out b1)
    have BR2 := Lib.hid (BR0.out.below b1 (Nat.le_refl _))
    have HB2 := Lib.hid (HB0.out.trans (b1.mono HB0.out.size))
    have HL2 := Lib.hid hLL
    have HPT := Lib.hid hT
    obtain ⟨pa, pc, hvf⟩ := owns_form hLL.1
    subst hvf
    have hTl : T.length = PL.length := by rw [← hT, List.length_map]
    have hTn : T.length ≤ 1048576 := by omega
    have g4 : decide ((1 : Int) < (T.length : Int)) = false := by rw [hTl]; first | exact decide_eq_true (by omega) | exact decide_eq_false (by omega)
    have g5 : decide (1 < T.length) = false := by rw [hTl]; first | exact decide_eq_true (by omega) | exact decide_eq_false (by omega)
    have HTL := Lib.hid hTl
    clear d0 d1 d2 d3 d4 d5 d6 d7 d8 BX0 BR0 GR0 HB0 cl CSP hT hLL b1 hTl
    have d0 := BX2.out.2 0 _ rfl
    have d5 := BX2.out.2 5 _ rfl
    go_wp2
    clear g4 g5 d5
    obtain ⟨D, hD⟩ : ∃ D, w2.heap.size = D := ⟨_, rfl⟩
    have HD := Lib.hid hD
    have hDw : w.heap.size ≤ D := by have := HB2.out.size; omega
    have L0 : Hid (LL (w2.alloc (.cells #[] 24)) D (.slice (some ⟨D, 0, none⟩) 0 0) []) := by have := LL.nil (w := w2); rw [hD] at this; exact this
    have HB3 : Hid (Below D w2 (w2.alloc (.cells #[] 24))) := (Below.refl _ _).alloc (by omega) _
    rw [hD]
    clear hD
    go_loopw [10, 59] (fun ov iv wr => ∃ (k : Nat) (R : List (Value × List Int)), k ≤ T.length ∧ iv = .int .i64 k ∧ Hid (R.map Prod.snd = (PL.take k).flatMap fun p => rankP b p nx) ∧ Hid (LL wr D ov R) ∧ Hid (Below D w2 wr)) (fun _ iv _ => T.length - (intOf iv).toNat)
    case atStart => exact ⟨0, [], Nat.zero_le _, rfl, rfl, L0, HB3⟩
    case round =>
      clear L0 HB3
      obtain ⟨k, R, hk, rfl, hR, HL, HB⟩ := hrel
      have hDr : D ≤ wr.heap.size := by have h7 := HB.out.size; have h8 := HD.out; omega
      by_cases hlt : k < T.length
      · obtain ⟨y, hy⟩ : ∃ y, T[k]? = some y := ⟨_, List.getElem?_eq_getElem hlt⟩
        have hyp : PL[k]? = some y.2 := by rw [← HPT.out, List.getElem?_map, hy]; rfl
        have hyP : y.2 ∈ PL := List.mem_of_getElem? hyp
        have LLr := HL2.out.below HB.out (by have := HD.out; omega)
        have hrow := LLr.2.1 _ (List.mem_of_getElem? hy)
        have hpn2 : y.2.length ≤ n := (HPL.out _ hyP).1
        obtain ⟨pg, pcap, he, hpc, _, cp⟩ := vals_at (x := y.1) (j := k) LLr.1 (by rw [List.getElem?_map, hy]; rfl)
        simp only [Value.slice.injEq, true_and] at he
        obtain ⟨rfl, rfl⟩ := he
        have PR := Lib.hid (IntRow.of_list hrow (by omega))
        obtain ⟨ya, yc, hyf⟩ := owns_form hrow
        have CRk := Lib.hid (CR.out _ HZ.out _ hyP)
        have HSU : Hid ((PL.take (k + 1)).flatMap (fun p => rankP b p nx) = R.map Prod.snd ++ rankP b y.2 nx) := by show _ = _; rw [take_flat_succ _ _ _ hyp, hR.out]
        have HRk : Hid (R.length + (rankP b y.2 nx).length ≤ n) := by
          have e1 := congrArg List.length HSU.out
          rw [List.length_append, List.length_map] at e1
          have e2 := take_flat (fun p => rankP b p nx) PL (k + 1)
          have e3 := HRL.out
          show _ ≤ _
          omega
        have BXr := Lib.hid (BoxN.below BX2.out (HB.out.mono (by have := HD.out; omega)))
        have BRr := Lib.hid (BR2.out.below HB.out (by have := HD.out; omega))
        have hklt : (k : Int) < T.length := by omega
        clear hyp hyP LLr hrow hR hy
        generalize y.2 = p at *
        generalize y.1 = yv at *
        subst hyf
        have d0 := BXr.out.2 0 _ rfl
        have d1 := BXr.out.2 1 _ rfl
        have d2 := BXr.out.2 2 _ rfl
        have d3 := BXr.out.2 3 _ rfl
        have d4 := BXr.out.2 4 _ rfl
        have d5 := BXr.out.2 5 _ rfl
        have d6 := BXr.out.2 6 _ rfl
        have d7 := BXr.out.2 7 _ rfl
        have d8 := BXr.out.2 8 _ rfl
        go_wp2_with fail
        refine (CRk.out _ _ BRr.out PR.out).mono ?_
        rintro e w4 ⟨rv, T2, rfl, hT2, hL2, b4⟩
        have HT2 := Lib.hid hT2
        have hl2 : T2.length = (rankP b p nx).length := by rw [← hT2, List.length_map]
        have hRm : R.length + T2.length ≤ 1048576 := by have := HRk.out; omega
        obtain ⟨gR, hg1, hg2, hg3, hg4⟩ := hL2.rec (by omega)
        have HG1 := Lib.hid hg1
        have HG2 := Lib.hid hg2
        have HG3 := Lib.hid hg3
        have HG4 := Lib.hid hg4
        have HLr := Lib.hid (HL.out.below b4 (Nat.le_refl _))
        have HL4 := Lib.hid hL2
        have HB4 := Lib.hid b4
        have hsz4 : D ≤ w4.heap.size := Nat.le_trans hDr b4.size
        obtain ⟨ra, rc, hrf⟩ := owns_form hL2.1
        subst hrf
        clear d0 d1 d2 d3 d4 d5 d6 d7 d8 hT2 hL2 b4 hg1 hg2 hg3 hg4 hl2 CRk HRk
        go_wp2_with (at_builtin; refine wpList_appendR rfl (.tmp 63) (.tmp 67) 104 rfl D 24 Try.underlying104 li lz0 lz1 lz2 rfl (by decide) rfl HLr.out.1 rfl HG1.out HG2.out HG3.out hRm (by omega) hsz4 ?_; intro vv w5 o5 gr5 at5; have O5 := Lib.hid o5; have G5 := Lib.hid gr5; have A5 := Lib.hid at5; clear o5 gr5 at5)
        have O6 : Hid (w5.ownsRow D 24 1 vv (R.length + T2.length) (R.map Prod.fst ++ T2.map Prod.fst)) := by have := O5.out; rw [HG4.out] at this; exact this
        go_roundw
        case rel => exact ⟨k + 1, R ++ T2, by omega, by go_num, Lib.hid (by rw [List.map_append, HT2.out]; exact HSU.out.symm), LL.append HL.out HB4.out HL4.out hDr (Nat.le_refl _) O6.out G5.out A5.out, (HB.out.trans (HB4.out.mono hDr)).grown G5.out (by have := HB4.out.size; have := HB.out.size; omega) (fun q hq => (HLr.out.1.lt q hq).1)⟩
        case measure => simp [intOf]; omega
      · obtain rfl : T.length = k := by omega
        go_wp2
        go_ret
        refine ⟨_, R, rfl, ?_, HL.out.mono hDw, HB2.out.trans (HB.out.mono hDw)⟩
        rw [hR.out, HTL.out, List.take_length]
  · have HZ : Hid ((s : Int) + 1 = nx) := by have := HNX.out; rw [if_neg (fun h => by cases h.2.1)] at this; show _ = _; omega
    clear HNX
    go_wp2_with fail
    refine (CSP.out _ BR0.out GR0.out).mono ?_
    rintro e w2 ⟨v8, T, rfl, hT, hLL, b1⟩
    have BX2 := Lib.hid (BoxN.below BX0.out b1)
    have BR2 := Lib.hid (BR0.out.below b1 (Nat.le_refl _))
    have HB2 := Lib.hid (HB0.out.trans (b1.mono HB0.out.size))
    have HL2 := Lib.hid hLL
    have HPT := Lib.hid hT
    obtain ⟨pa, pc, hvf⟩ := owns_form hLL.1
    subst hvf
    have hTl : T.length = PL.length := by rw [← hT, List.length_map]
    have hTn : T.length ≤ 1048576 := by omega
    have g4 : decide ((1 : Int) < (T.length : Int)) = true := by rw [hTl]; first | exact decide_eq_true (by omega) | exact decide_eq_false (by omega)
    have g5 : decide (1 < T.length) = true := by rw [hTl]; first | exact decide_eq_true (by omega) | exact decide_eq_false (by omega)
    have HTL := Lib.hid hTl
    clear d0 d1 d2 d3 d4 d5 d6 d7 d8 BX0 BR0 GR0 HB0 cl CSP hT hLL b1 hTl
    have d0 := BX2.out.2 0 _ rfl
    have d5 := BX2.out.2 5 _ rfl
    go_wp2
    clear g4 g5 d5
    obtain ⟨D, hD⟩ : ∃ D, w2.heap.size = D := ⟨_, rfl⟩
    have HD := Lib.hid hD
    have hDw : w.heap.size ≤ D := by have := HB2.out.size; omega
    have L0 : Hid (LL (w2.alloc (.cells #[] 24)) D (.slice (some ⟨D, 0, none⟩) 0 0) []) := by have := LL.nil (w := w2); rw [hD] at this; exact this
    have HB3 : Hid (Below D w2 (w2.alloc (.cells #[] 24))) := (Below.refl _ _).alloc (by omega) _
    rw [hD]
    clear hD
    go_loopw [10, 59] (fun ov iv wr => ∃ (k : Nat) (R : List (Value × List Int)), k ≤ T.length ∧ iv = .int .i64 k ∧ Hid (R.map Prod.snd = (PL.take k).flatMap fun p => rankP b p nx) ∧ Hid (LL wr D ov R) ∧ Hid (Below D w2 wr)) (fun _ iv _ => T.length - (intOf iv).toNat)
    case atStart => exact ⟨0, [], Nat.zero_le _, rfl, rfl, L0, HB3⟩
    case round =>
      clear L0 HB3
      obtain ⟨k, R, hk, rfl, hR, HL, HB⟩ := hrel
      have hDr : D ≤ wr.heap.size := by have h7 := HB.out.size; have h8 := HD.out; omega
      by_cases hlt : k < T.length
      · obtain ⟨y, hy⟩ : ∃ y, T[k]? = some y := ⟨_, List.getElem?_eq_getElem hlt⟩
        have hyp : PL[k]? = some y.2 := by rw [← HPT.out, List.getElem?_map, hy]; rfl
        have hyP : y.2 ∈ PL := List.mem_of_getElem? hyp
        have LLr := HL2.out.below HB.out (by have := HD.out; omega)
        have hrow := LLr.2.1 _ (List.mem_of_getElem? hy)
        have hpn2 : y.2.length ≤ n := (HPL.out _ hyP).1
        obtain ⟨pg, pcap, he, hpc, _, cp⟩ := vals_at (x := y.1) (j := k) LLr.1 (by rw [List.getElem?_map, hy]; rfl)
        simp only [Value.slice.injEq, true_and] at he
        obtain ⟨rfl, rfl⟩ := he
        have PR := Lib.hid (IntRow.of_list hrow (by omega))
        obtain ⟨ya, yc, hyf⟩ := owns_form hrow
        have CRk := Lib.hid (CR.out _ HZ.out _ hyP)
        have HSU : Hid ((PL.take (k + 1)).flatMap (fun p => rankP b p nx) = R.map Prod.snd ++ rankP b y.2 nx) := by show _ = _; rw [take_flat_succ _ _ _ hyp, hR.out]
        have HRk : Hid (R.length + (rankP b y.2 nx).length ≤ n) := by
          have e1 := congrArg List.length HSU.out
          rw [List.length_append, List.length_map] at e1
          have e2 := take_flat (fun p => rankP b p nx) PL (k + 1)
          have e3 := HRL.out
          show _ ≤ _
          omega
        have BXr := Lib.hid (BoxN.below BX2.out (HB.out.mono (by have := HD.out; omega)))
        have BRr := Lib.hid (BR2.out.below HB.out (by have := HD.out; omega))
        have hklt : (k : Int) < T.length := by omega
        clear hyp hyP LLr hrow hR hy
        generalize y.2 = p at *
        generalize y.1 = yv at *
        subst hyf
        have d0 := BXr.out.2 0 _ rfl
        have d1 := BXr.out.2 1 _ rfl
        have d2 := BXr.out.2 2 _ rfl
        have d3 := BXr.out.2 3 _ rfl
        have d4 := BXr.out.2 4 _ rfl
        have d5 := BXr.out.2 5 _ rfl
        have d6 := BXr.out.2 6 _ rfl
        have d7 := BXr.out.2 7 _ rfl
        have d8 := BXr.out.2 8 _ rfl
        go_wp2_with fail
        refine (CRk.out _ _ BRr.out PR.out).mono ?_
        rintro e w4 ⟨rv, T2, rfl, hT2, hL2, b4⟩
        have HT2 := Lib.hid hT2
        have hl2 : T2.length = (rankP b p nx).length := by rw [← hT2, List.length_map]
        have hRm : R.length + T2.length ≤ 1048576 := by have := HRk.out; omega
        obtain ⟨gR, hg1, hg2, hg3, hg4⟩ := hL2.rec (by omega)
        have HG1 := Lib.hid hg1
        have HG2 := Lib.hid hg2
        have HG3 := Lib.hid hg3
        have HG4 := Lib.hid hg4
        have HLr := Lib.hid (HL.out.below b4 (Nat.le_refl _))
        have HL4 := Lib.hid hL2
        have HB4 := Lib.hid b4
        have hsz4 : D ≤ w4.heap.size := Nat.le_trans hDr b4.size
        obtain ⟨ra, rc, hrf⟩ := owns_form hL2.1
        subst hrf
        clear d0 d1 d2 d3 d4 d5 d6 d7 d8 hT2 hL2 b4 hg1 hg2 hg3 hg4 hl2 CRk HRk
        go_wp2_with (at_builtin; refine wpList_appendR rfl (.tmp 63) (.tmp 67) 104 rfl D 24 Try.underlying104 li lz0 lz1 lz2 rfl (by decide) rfl HLr.out.1 rfl HG1.out HG2.out HG3.out hRm (by omega) hsz4 ?_; intro vv w5 o5 gr5 at5; have O5 := Lib.hid o5; have G5 := Lib.hid gr5; have A5 := Lib.hid at5; clear o5 gr5 at5)
        have O6 : Hid (w5.ownsRow D 24 1 vv (R.length + T2.length) (R.map Prod.fst ++ T2.map Prod.fst)) := by have := O5.out; rw [HG4.out] at this; exact this
        go_roundw
        case rel => exact ⟨k + 1, R ++ T2, by omega, by go_num, Lib.hid (by rw [List.map_append, HT2.out]; exact HSU.out.symm), LL.append HL.out HB4.out HL4.out hDr (Nat.le_refl _) O6.out G5.out A5.out, (HB.out.trans (HB4.out.mono hDr)).grown G5.out (by have := HB4.out.size; have := HB.out.size; omega) (fun q hq => (HLr.out.1.lt q hq).1)⟩
        case measure => simp [intOf]; omega
      · obtain rfl : T.length = k := by omega
        go_wp2
        go_ret
        refine ⟨_, R, rfl, ?_, HL.out.mono hDw, HB2.out.trans (HB.out.mono hDw)⟩
        rw [hR.out, HTL.out, List.take_length]
  · have HZ : Hid ((s : Int) + 1 = nx) := by have := HNX.out; rw [if_neg (fun h => by cases h.2.2)] at this; show _ = _; omega
    clear HNX
    go_wp2_with fail
    refine (CSP.out _ BR0.out GR0.out).mono ?_
    rintro e w1 ⟨v8, T, rfl, hT, hLL, b1⟩
    have BX1 := Lib.hid (BoxN.below BX0.out b1)
    have BR1 := Lib.hid (BR0.out.below b1 (Nat.le_refl _))
    have HB1 := Lib.hid (HB0.out.trans (b1.mono HB0.out.size))
    have HL1 := Lib.hid hLL
    have HPT := Lib.hid hT
    obtain ⟨pa, pc, hvf⟩ := owns_form hLL.1
    subst hvf
    have hTl : T.length = PL.length := by rw [← hT, List.length_map]
    have hTn : T.length ≤ 1048576 := by omega
    have g4 : decide ((1 : Int) < (T.length : Int)) = true := by rw [hTl]; first | exact decide_eq_true (by omega) | exact decide_eq_false (by omega)
    have g5 : decide (1 < T.length) = true := by rw [hTl]; first | exact decide_eq_true (by omega) | exact decide_eq_false (by omega)
    have HTL := Lib.hid hTl
    clear d0 d1 d2 d3 d4 d5 d6 d7 d8 BX0 BR0 GR0 HB0 cl CSP hT hLL b1 hTl
    have d0 := BX1.out.2 0 _ rfl
    have d5 := BX1.out.2 5 _ rfl
    go_wp2_with fail
    refine (CMU.out _).mono ?_
    rintro e w2 ⟨rfl, b2⟩
    have BX2 := Lib.hid (BoxN.below BX1.out b2)
    have BR2 := Lib.hid (BR1.out.below b2 (Nat.le_refl _))
    have HL2 := Lib.hid (HL1.out.below b2 (Nat.le_refl _))
    have HB2 := Lib.hid (HB1.out.trans (b2.mono HB1.out.size))
    clear BX1 BR1 HL1 HB1 b2
    go_wp2
    clear g4 g5 d5
    obtain ⟨D, hD⟩ : ∃ D, w2.heap.size = D := ⟨_, rfl⟩
    have HD := Lib.hid hD
    have hDw : w.heap.size ≤ D := by have := HB2.out.size; omega
    have L0 : Hid (LL (w2.alloc (.cells #[] 24)) D (.slice (some ⟨D, 0, none⟩) 0 0) []) := by have := LL.nil (w := w2); rw [hD] at this; exact this
    have HB3 : Hid (Below D w2 (w2.alloc (.cells #[] 24))) := (Below.refl _ _).alloc (by omega) _
    rw [hD]
    clear hD
    go_loopw [10, 59] (fun ov iv wr => ∃ (k : Nat) (R : List (Value × List Int)), k ≤ T.length ∧ iv = .int .i64 k ∧ Hid (R.map Prod.snd = (PL.take k).flatMap fun p => rankP b p nx) ∧ Hid (LL wr D ov R) ∧ Hid (Below D w2 wr)) (fun _ iv _ => T.length - (intOf iv).toNat)
    case atStart => exact ⟨0, [], Nat.zero_le _, rfl, rfl, L0, HB3⟩
    case round =>
      clear L0 HB3
      obtain ⟨k, R, hk, rfl, hR, HL, HB⟩ := hrel
      have hDr : D ≤ wr.heap.size := by have h7 := HB.out.size; have h8 := HD.out; omega
      by_cases hlt : k < T.length
      · obtain ⟨y, hy⟩ : ∃ y, T[k]? = some y := ⟨_, List.getElem?_eq_getElem hlt⟩
        have hyp : PL[k]? = some y.2 := by rw [← HPT.out, List.getElem?_map, hy]; rfl
        have hyP : y.2 ∈ PL := List.mem_of_getElem? hyp
        have LLr := HL2.out.below HB.out (by have := HD.out; omega)
        have hrow := LLr.2.1 _ (List.mem_of_getElem? hy)
        have hpn2 : y.2.length ≤ n := (HPL.out _ hyP).1
        obtain ⟨pg, pcap, he, hpc, _, cp⟩ := vals_at (x := y.1) (j := k) LLr.1 (by rw [List.getElem?_map, hy]; rfl)
        simp only [Value.slice.injEq, true_and] at he
        obtain ⟨rfl, rfl⟩ := he
        have PR := Lib.hid (IntRow.of_list hrow (by omega))
        obtain ⟨ya, yc, hyf⟩ := owns_form hrow
        have CRk := Lib.hid (CR.out _ HZ.out _ hyP)
        have HSU : Hid ((PL.take (k + 1)).flatMap (fun p => rankP b p nx) = R.map Prod.snd ++ rankP b y.2 nx) := by show _ = _; rw [take_flat_succ _ _ _ hyp, hR.out]
        have HRk : Hid (R.length + (rankP b y.2 nx).length ≤ n) := by
          have e1 := congrArg List.length HSU.out
          rw [List.length_append, List.length_map] at e1
          have e2 := take_flat (fun p => rankP b p nx) PL (k + 1)
          have e3 := HRL.out
          show _ ≤ _
          omega
        have BXr := Lib.hid (BoxN.below BX2.out (HB.out.mono (by have := HD.out; omega)))
        have BRr := Lib.hid (BR2.out.below HB.out (by have := HD.out; omega))
        have hklt : (k : Int) < T.length := by omega
        clear hyp hyP LLr hrow hR hy
        generalize y.2 = p at *
        generalize y.1 = yv at *
        subst hyf
        have d0 := BXr.out.2 0 _ rfl
        have d1 := BXr.out.2 1 _ rfl
        have d2 := BXr.out.2 2 _ rfl
        have d3 := BXr.out.2 3 _ rfl
        have d4 := BXr.out.2 4 _ rfl
        have d5 := BXr.out.2 5 _ rfl
        have d6 := BXr.out.2 6 _ rfl
        have d7 := BXr.out.2 7 _ rfl
        have d8 := BXr.out.2 8 _ rfl
        go_wp2_with fail
        refine (CRk.out _ _ BRr.out PR.out).mono ?_
        rintro e w4 ⟨rv, T2, rfl, hT2, hL2, b4⟩
        have HT2 := Lib.hid hT2
        have hl2 : T2.length = (rankP b p nx).length := by rw [← hT2, List.length_map]
        have hRm : R.length + T2.length ≤ 1048576 := by have := HRk.out; omega
        obtain ⟨gR, hg1, hg2, hg3, hg4⟩ := hL2.rec (by omega)
        have HG1 := Lib.hid hg1
        have HG2 := Lib.hid hg2
        have HG3 := Lib.hid hg3
        have HG4 := Lib.hid hg4
        have HLr := Lib.hid (HL.out.below b4 (Nat.le_refl _))
        have HL4 := Lib.hid hL2
        have HB4 := Lib.hid b4
        have hsz4 : D ≤ w4.heap.size := Nat.le_trans hDr b4.size
        obtain ⟨ra, rc, hrf⟩ := owns_form hL2.1
        subst hrf
        clear d0 d1 d2 d3 d4 d5 d6 d7 d8 hT2 hL2 b4 hg1 hg2 hg3 hg4 hl2 CRk HRk
        go_wp2_with (at_builtin; refine wpList_appendR rfl (.tmp 63) (.tmp 67) 104 rfl D 24 Try.underlying104 li lz0 lz1 lz2 rfl (by decide) rfl HLr.out.1 rfl HG1.out HG2.out HG3.out hRm (by omega) hsz4 ?_; intro vv w5 o5 gr5 at5; have O5 := Lib.hid o5; have G5 := Lib.hid gr5; have A5 := Lib.hid at5; clear o5 gr5 at5)
        have O6 : Hid (w5.ownsRow D 24 1 vv (R.length + T2.length) (R.map Prod.fst ++ T2.map Prod.fst)) := by have := O5.out; rw [HG4.out] at this; exact this
        go_roundw
        case rel => exact ⟨k + 1, R ++ T2, by omega, by go_num, Lib.hid (by rw [List.map_append, HT2.out]; exact HSU.out.symm), LL.append HL.out HB4.out HL4.out hDr (Nat.le_refl _) O6.out G5.out A5.out, (HB.out.trans (HB4.out.mono hDr)).grown G5.out (by have := HB4.out.size; have := HB.out.size; omega) (fun q hq => (HLr.out.1.lt q hq).1)⟩
        case measure => simp [intOf]; omega
      · obtain rfl : T.length = k := by omega
        go_wp2
        go_ret
        refine ⟨_, R, rfl, ?_, HL.out.mono hDw, HB2.out.trans (HB.out.mono hDw)⟩
        rw [hR.out, HTL.out, List.take_length]
  · have HZ : Hid ((0 : Int) = nx) := by have := HNX.out; rw [if_pos ⟨hA, by first | rfl | trivial, by first | rfl | trivial⟩] at this; show _ = _; omega
    clear HNX
    go_wp2_with fail
    refine (CSP.out _ BR0.out GR0.out).mono ?_
    rintro e w1 ⟨v8, T, rfl, hT, hLL, b1⟩
    have BX1 := Lib.hid (BoxN.below BX0.out b1)
    have BR1 := Lib.hid (BR0.out.below b1 (Nat.le_refl _))
    have HB1 := Lib.hid (HB0.out.trans (b1.mono HB0.out.size))
    have HL1 := Lib.hid hLL
    have HPT := Lib.hid hT
    obtain ⟨pa, pc, hvf⟩ := owns_form hLL.1
    subst hvf
    have hTl : T.length = PL.length := by rw [← hT, List.length_map]
    have hTn : T.length ≤ 1048576 := by omega
    have g4 : decide ((1 : Int) < (T.length : Int)) = true := by rw [hTl]; first | exact decide_eq_true (by omega) | exact decide_eq_false (by omega)
    have g5 : decide (1 < T.length) = true := by rw [hTl]; first | exact decide_eq_true (by omega) | exact decide_eq_false (by omega)
    have HTL := Lib.hid hTl
    clear d0 d1 d2 d3 d4 d5 d6 d7 d8 BX0 BR0 GR0 HB0 cl CSP hT hLL b1 hTl
    have d0 := BX1.out.2 0 _ rfl
    have d5 := BX1.out.2 5 _ rfl
    go_wp2_with fail
    refine (CMU.out _).mono ?_
    rintro e w2 ⟨rfl, b2⟩
    have BX2 := Lib.hid (BoxN.below BX1.out b2)
    have BR2 := Lib.hid (BR1.out.below b2 (Nat.le_refl _))
    have HL2 := Lib.hid (HL1.out.below b2 (Nat.le_refl _))
    have HB2 := Lib.hid (HB1.out.trans (b2.mono HB1.out.size))
    clear BX1 BR1 HL1 HB1 b2
    go_wp2
    clear g4 g5 d5
    obtain ⟨D, hD⟩ : ∃ D, w2.heap.size = D := ⟨_, rfl⟩
    have HD := Lib.hid hD
    have hDw : w.heap.size ≤ D := by have := HB2.out.size; omega
    have L0 : Hid (LL (w2.alloc (.cells #[] 24)) D (.slice (some ⟨D, 0, none⟩) 0 0) []) := by have := LL.nil (w := w2); rw [hD] at this; exact this
    have HB3 : Hid (Below D w2 (w2.alloc (.cells #[] 24))) := (Below.refl _ _).alloc (by omega) _
    rw [hD]
    clear hD
    go_loopw [10, 59] (fun ov iv wr => ∃ (k : Nat) (R : List (Value × List Int)), k ≤ T.length ∧ iv = .int .i64 k ∧ Hid (R.map Prod.snd = (PL.take k).flatMap fun p => rankP b p nx) ∧ Hid (LL wr D ov R) ∧ Hid (Below D w2 wr)) (fun _ iv _ => T.length - (intOf iv).toNat)
    case atStart => exact ⟨0, [], Nat.zero_le _, rfl, rfl, L0, HB3⟩
    case round =>
      clear L0 HB3
      obtain ⟨k, R, hk, rfl, hR, HL, HB⟩ := hrel
      have hDr : D ≤ wr.heap.size := by have h7 := HB.out.size; have h8 := HD.out; omega
      by_cases hlt : k < T.length
      · obtain ⟨y, hy⟩ : ∃ y, T[k]? = some y := ⟨_, List.getElem?_eq_getElem hlt⟩
        have hyp : PL[k]? = some y.2 := by rw [← HPT.out, List.getElem?_map, hy]; rfl
        have hyP : y.2 ∈ PL := List.mem_of_getElem? hyp
        have LLr := HL2.out.below HB.out (by have := HD.out; omega)
        have hrow := LLr.2.1 _ (List.mem_of_getElem? hy)
        have hpn2 : y.2.length ≤ n := (HPL.out _ hyP).1
        obtain ⟨pg, pcap, he, hpc, _, cp⟩ := vals_at (x := y.1) (j := k) LLr.1 (by rw [List.getElem?_map, hy]; rfl)
        simp only [Value.slice.injEq, true_and] at he
        obtain ⟨rfl, rfl⟩ := he
        have PR := Lib.hid (IntRow.of_list hrow (by omega))
        obtain ⟨ya, yc, hyf⟩ := owns_form hrow
        have CRk := Lib.hid (CR.out _ HZ.out _ hyP)
        have HSU : Hid ((PL.take (k + 1)).flatMap (fun p => rankP b p nx) = R.map Prod.snd ++ rankP b y.2 nx) := by show _ = _; rw [take_flat_succ _ _ _ hyp, hR.out]
        have HRk : Hid (R.length + (rankP b y.2 nx).length ≤ n) := by
          have e1 := congrArg List.length HSU.out
          rw [List.length_append, List.length_map] at e1
          have e2 := take_flat (fun p => rankP b p nx) PL (k + 1)
          have e3 := HRL.out
          show _ ≤ _
          omega
        have BXr := Lib.hid (BoxN.below BX2.out (HB.out.mono (by have := HD.out; omega)))
        have BRr := Lib.hid (BR2.out.below HB.out (by have := HD.out; omega))
        have hklt : (k : Int) < T.length := by omega
        clear hyp hyP LLr hrow hR hy
        generalize y.2 = p at *
        generalize y.1 = yv at *
        subst hyf
        have d0 := BXr.out.2 0 _ rfl
        have d1 := BXr.out.2 1 _ rfl
        have d2 := BXr.out.2 2 _ rfl
        have d3 := BXr.out.2 3 _ rfl
        have d4 := BXr.out.2 4 _ rfl
        have d5 := BXr.out.2 5 _ rfl
        have d6 := BXr.out.2 6 _ rfl
        have d7 := BXr.out.2 7 _ rfl
        have d8 := BXr.out.2 8 _ rfl
        go_wp2_with fail
        refine (CRk.out _ _ BRr.out PR.out).mono ?_
        rintro e w4 ⟨rv, T2, rfl, hT2, hL2, b4⟩
        have HT2 := Lib.hid hT2
        have hl2 : T2.length = (rankP b p nx).length := by rw [← hT2, List.length_map]
        have hRm : R.length + T2.length ≤ 1048576 := by have := HRk.out; omega
        obtain ⟨gR, hg1, hg2, hg3, hg4⟩ := hL2.rec (by omega)
        have HG1 := Lib.hid hg1
        have HG2 := Lib.hid hg2
        have HG3 := Lib.hid hg3
        have HG4 := Lib.hid hg4
        have HLr := Lib.hid (HL.out.below b4 (Nat.le_refl _))
        have HL4 := Lib.hid hL2
        have HB4 := Lib.hid b4
        have hsz4 : D ≤ w4.heap.size := Nat.le_trans hDr b4.size
        obtain ⟨ra, rc, hrf⟩ := owns_form hL2.1
        subst hrf
        clear d0 d1 d2 d3 d4 d5 d6 d7 d8 hT2 hL2 b4 hg1 hg2 hg3 hg4 hl2 CRk HRk
        go_wp2_with (at_builtin; refine wpList_appendR rfl (.tmp 63) (.tmp 67) 104 rfl D 24 Try.underlying104 li lz0 lz1 lz2 rfl (by decide) rfl HLr.out.1 rfl HG1.out HG2.out HG3.out hRm (by omega) hsz4 ?_; intro vv w5 o5 gr5 at5; have O5 := Lib.hid o5; have G5 := Lib.hid gr5; have A5 := Lib.hid at5; clear o5 gr5 at5)
        have O6 : Hid (w5.ownsRow D 24 1 vv (R.length + T2.length) (R.map Prod.fst ++ T2.map Prod.fst)) := by have := O5.out; rw [HG4.out] at this; exact this
        go_roundw
        case rel => exact ⟨k + 1, R ++ T2, by omega, by go_num, Lib.hid (by rw [List.map_append, HT2.out]; exact HSU.out.symm), LL.append HL.out HB4.out HL4.out hDr (Nat.le_refl _) O6.out G5.out A5.out, (HB.out.trans (HB4.out.mono hDr)).grown G5.out (by have := HB4.out.size; have := HB.out.size; omega) (fun q hq => (HLr.out.1.lt q hq).1)⟩
        case measure => simp [intOf]; omega
      · obtain rfl : T.length = k := by omega
        go_wp2
        go_ret
        refine ⟨_, R, rfl, ?_, HL.out.mono hDw, HB2.out.trans (HB.out.mono hDw)⟩
        rw [hR.out, HTL.out, List.take_length]
end Go.Proofs.Ytojkonhhaamodaa
set_option linter.unusedVariables false
namespace Go.Proofs.Ytojkonhhaamodaa
open Go.RowKit

/-- what is ranked: a valid book, a group of existing and different teams, a step -/
def fromP (b : BookD) (n : Nat) (gg : Nat → Int) (z : Int) : Prop := bookP b ∧ teamsP b.nf n gg ∧ 0 ≤ z ∧ ∀ i, i < n → ¬ hasP gg (gg i) i
theorem ListsL.none {w w' : World} (h : Below w.heap.size w w') : ListsL w [] (.returned (.slice none 0 0)) w' :=
  ⟨_, [], rfl, rfl, ⟨⟨rfl, .inl ⟨rfl, rfl⟩⟩, (fun x hx => by cases hx), (by unfold ApartL; simp)⟩, h⟩
set_option maxRecDepth 100000 in
set_option maxHeartbeats 2000000 in
theorem rankFrom_spec (vf vl vg vfa vta : Value) (b : BookD) (G : List Int) (z : Int) (gv : Value) (R : Bool) (w : World) (hR : R = true ↔ fromP b G.length (getI G) z) (h : BookRow w vf vl vg vfa vta b) (hs : ∀ i, (b.f i).nm.size ≤ maxLen) (hgv : IntRow w gv G.length (getI G)) (hn6 : G.length ≤ 1048576) (hz63 : z ≤ 9223372036854775807) :
    Calls Try.prog 77 #[.agg #[vf, .int .i64 b.win, .int .i64 b.draw, .int .i64 b.loss, vl, .bool b.again, vg, vfa, vta], gv, .int .i64 z] w (ListsL w (if R = true then rankP b G z.toNat else [])) := by
  obtain ⟨fa, fc, la, lc, ga, gc, qa, qc, ta, tc, rfl, rfl, rfl, rfl, rfl⟩ := h.form
  have b0 := (Below.refl w.heap.size w).alloc (Nat.le_refl _) (.cells #[.slice fa b.nf fc, .int .i64 b.win, .int .i64 b.draw, .int .i64 b.loss, .slice la b.nl lc, .bool b.again, .slice ga b.m gc, .slice qa b.nfa qc, .slice ta b.nta tc] 29)
  have BX0 := Lib.hid (BoxN.made (Below.refl (w.alloc (.cells #[.slice fa b.nf fc, .int .i64 b.win, .int .i64 b.draw, .int .i64 b.loss, .slice la b.nl lc, .bool b.again, .slice ga b.m gc, .slice qa b.nfa qc, .slice ta b.nta tc] 29)).heap.size (w.alloc (.cells #[.slice fa b.nf fc, .int .i64 b.win, .int .i64 b.draw, .int .i64 b.loss, .slice la b.nl lc, .bool b.again, .slice ga b.m gc, .slice qa b.nfa qc, .slice ta b.nta tc] 29))) (B := w.heap.size) rfl)
  have BR0 := Lib.hid (h.below b0 (Nat.le_refl _))
  have HB0 := Lib.hid b0
  have es : (w.alloc (.cells #[.slice fa b.nf fc, .int .i64 b.win, .int .i64 b.draw, .int .i64 b.loss, .slice la b.nl lc, .bool b.again, .slice ga b.m gc, .slice qa b.nfa qc, .slice ta b.nta tc] 29)).heap.size = w.heap.size + 1 := by simp
  have ES := Lib.hid es
  have GR0 := Lib.hid (hgv.below b0 (Nat.le_refl _))
  obtain ⟨xa, xc, rfl, hx64, _⟩ := hgv.form
  obtain ⟨n, hn⟩ : ∃ n, G.length = n := ⟨_, rfl⟩
  obtain ⟨gg, hgg⟩ : ∃ gg, getI G = gg := ⟨_, rfl⟩
  rw [hn, hgg] at GR0 hR
  rw [hn] at hx64 hn6 ⊢
  obtain ⟨r1, hr1⟩ := boolEx (bookP b)
  obtain ⟨r2, hr2⟩ := boolEx (teamsP b.nf n gg)
  have C1 := Lib.hid (fun wa h1 => bookOk_spec (.slice fa b.nf fc) (.slice la b.nl lc) (.slice ga b.m gc) (.slice qa b.nfa qc) (.slice ta b.nta tc) b r1 wa hr1 h1 hs)
  have C2 := Lib.hid (fun wa h1 h2 => l07Teams_spec (.slice fa b.nf fc) (.slice la b.nl lc) (.slice ga b.m gc) (.slice qa b.nfa qc) (.slice ta b.nta tc) b (.slice xa n xc) n gg r2 wa hr2 h1 h2)
  have C3 : Hid (∀ (hp : bookP b) (ht : teamsP b.nf n gg) (s : Nat) wa, z = (s : Int) → BookRow wa (.slice fa b.nf fc) (.slice la b.nl lc) (.slice ga b.m gc) (.slice qa b.nfa qc) (.slice ta b.nta tc) b → IntRow wa (.slice xa n xc) n gg → Calls Try.prog 90 #[.agg #[.slice fa b.nf fc, .int .i64 b.win, .int .i64 b.draw, .int .i64 b.loss, .slice la b.nl lc, .bool b.again, .slice ga b.m gc, .slice qa b.nfa qc, .slice ta b.nta tc], .slice xa n xc, .int .i64 z] wa (ListsL wa (rankP b G s))) := fun hp ht s wa hz h1 h2 => by
    subst hz
    exact l07Rank_spec (.slice fa b.nf fc) (.slice la b.nl lc) (.slice ga b.m gc) (.slice qa b.nfa qc) (.slice ta b.nta tc) b hp _ G s _ wa (Nat.lt_succ_self _) h1 (by rw [hn, hgg]; exact h2) (by rw [hn, hgg]; exact ht) (by omega) hz63
  have hall : R = true ↔ (r1 = true ∧ r2 = true ∧ 0 ≤ z ∧ ∀ i, i < n → ¬ hasP gg (gg i) i) := by rw [hR, hr1, hr2]; exact Iff.rfl
  have HN := Lib.hid (boolF hall)
  have HY := Lib.hid (boolT hall)
  have HP1 : Hid (r1 = true → bookP b) := hr1.1
  have HP2 : Hid (r2 = true → teamsP b.nf n gg) := hr2.1
  obtain ⟨RES, hRES⟩ : ∃ RES, (if R = true then rankP b G z.toNat else []) = RES := ⟨_, rfl⟩
  rw [hRES]
  have HRF : Hid (R = false → RES = []) := fun e => by rw [← hRES, e]; rfl
  have HRT : Hid (R = true → RES = rankP b G z.toNat) := fun e => by rw [← hRES, e]; rfl
  clear h b0 hgv es hR hall hr1 hr2 hs hn hgg hz63 hRES
  have d0 := BX0.out.2 0 _ rfl
  have d1 := BX0.out.2 1 _ rfl
  have d2 := BX0.out.2 2 _ rfl
  have d3 := BX0.out.2 3 _ rfl
  have d4 := BX0.out.2 4 _ rfl
  have d5 := BX0.out.2 5 _ rfl
  have d6 := BX0.out.2 6 _ rfl
  have d7 := BX0.out.2 7 _ rfl
  have d8 := BX0.out.2 8 _ rfl
  by_cases hz : 0 ≤ z
  case neg =>
    obtain rfl := HRF.out (HN.out fun h => hz h.2.2.1)
    have g1 : decide (z < 0) = true := decide_eq_true (by omega)
    clear HN HY hz
    go_enter Try.func77, Try.ntmps77
    cases r1 with
    | false =>
      go_wp2_with fail
      refine (C1.out _ BR0.out).mono ?_
      rintro e w1 ⟨rfl, b1⟩
      have HE := Lib.hid (HB0.out.trans (b1.mono HB0.out.size))
      clear b1
      go_wp2
      go_ret
      exact ListsL.none HE.out
    | true =>
    go_wp2_with fail
    refine (C1.out _ BR0.out).mono ?_
    rintro e w1 ⟨rfl, b1⟩
    have BX1 := Lib.hid (BoxN.below BX0.out b1)
    have BR1 := Lib.hid (BR0.out.below b1 (Nat.le_refl _))
    have GR1 := Lib.hid (GR0.out.below b1 (Nat.le_refl _))
    have HB1 := Lib.hid (HB0.out.trans (b1.mono HB0.out.size))
    clear d0 d1 d2 d3 d4 d5 d6 d7 d8 BX0 BR0 GR0 HB0 b1
    have d0 := BX1.out.2 0 _ rfl
    have d1 := BX1.out.2 1 _ rfl
    have d2 := BX1.out.2 2 _ rfl
    have d3 := BX1.out.2 3 _ rfl
    have d4 := BX1.out.2 4 _ rfl
    have d5 := BX1.out.2 5 _ rfl
    have d6 := BX1.out.2 6 _ rfl
    have d7 := BX1.out.2 7 _ rfl
    have d8 := BX1.out.2 8 _ rfl
    cases r2 with
    | false =>
      go_wp2_with fail
      refine (C2.out _ BR1.out GR1.out).mono ?_
      rintro e w2 ⟨rfl, b2⟩
      have HE := Lib.hid (HB1.out.trans (b2.mono HB1.out.size))
      clear b2
      go_wp2
      go_ret
      exact ListsL.none HE.out
    | true =>
      go_wp2_with fail
      refine (C2.out _ BR1.out GR1.out).mono ?_
      rintro e w2 ⟨rfl, b2⟩
      have HE := Lib.hid (HB1.out.trans (b2.mono HB1.out.size))
      clear b2
      go_wp2
      go_ret
      exact ListsL.none HE.out
  have HZS : Hid (z = (z.toNat : Int)) := (by show _ = _; omega)
  have g1 : decide (z < 0) = false := decide_eq_false (by omega)
  go_enter Try.func77, Try.ntmps77
  cases r1 with
  | false =>
    obtain rfl := HRF.out (HN.out fun h => by have := h.1; cases this)
    clear HN HY
    go_wp2_with fail
    refine (C1.out _ BR0.out).mono ?_
    rintro e w1 ⟨rfl, b1⟩
    have HE := Lib.hid (HB0.out.trans (b1.mono HB0.out.size))
    clear b1
    go_wp2
    go_ret
    exact ListsL.none HE.out
  | true =>
  go_wp2_with fail
  refine (C1.out _ BR0.out).mono ?_
  rintro e w1 ⟨rfl, b1⟩
  have BX1 := Lib.hid (BoxN.below BX0.out b1)
  have BR1 := Lib.hid (BR0.out.below b1 (Nat.le_refl _))
  have GR1 := Lib.hid (GR0.out.below b1 (Nat.le_refl _))
  have HB1 := Lib.hid (HB0.out.trans (b1.mono HB0.out.size))
  clear d0 d1 d2 d3 d4 d5 d6 d7 d8 BX0 BR0 GR0 HB0 b1
  have d0 := BX1.out.2 0 _ rfl
  have d1 := BX1.out.2 1 _ rfl
  have d2 := BX1.out.2 2 _ rfl
  have d3 := BX1.out.2 3 _ rfl
  have d4 := BX1.out.2 4 _ rfl
  have d5 := BX1.out.2 5 _ rfl
  have d6 := BX1.out.2 6 _ rfl
  have d7 := BX1.out.2 7 _ rfl
  have d8 := BX1.out.2 8 _ rfl
  cases r2 with
  | false =>
    obtain rfl := HRF.out (HN.out fun h => by have := h.2.1; cases this)
    clear HN HY
    go_wp2_with fail
    refine (C2.out _ BR1.out GR1.out).mono ?_
    rintro e w2 ⟨rfl, b2⟩
    have HE := Lib.hid (HB1.out.trans (b2.mono HB1.out.size))
    clear b2
    go_wp2
    go_ret
    exact ListsL.none HE.out
  | true =>
  go_wp2_with fail
  refine (C2.out _ BR1.out GR1.out).mono ?_
  rintro e w2 ⟨rfl, b2⟩
  have BX2 := Lib.hid (BoxN.below BX1.out b2)
  have BR2 := Lib.hid (BR1.out.below b2 (Nat.le_refl _))
  have GR2 := Lib.hid (GR1.out.below b2 (Nat.le_refl _))
  have HB2 := Lib.hid (HB1.out.trans (b2.mono HB1.out.size))
  clear d0 d1 d2 d3 d4 d5 d6 d7 d8 BX1 BR1 GR1 HB1 b2
  have d0 := BX2.out.2 0 _ rfl
  have d1 := BX2.out.2 1 _ rfl
  have d2 := BX2.out.2 2 _ rfl
  have d3 := BX2.out.2 3 _ rfl
  have d4 := BX2.out.2 4 _ rfl
  have d5 := BX2.out.2 5 _ rfl
  have d6 := BX2.out.2 6 _ rfl
  have d7 := BX2.out.2 7 _ rfl
  have d8 := BX2.out.2 8 _ rfl
  have HN2 : Hid (∀ k, k < n → hasP gg (gg k) k → R = false) := fun k hk h => HN.out fun hp => hp.2.2.2 k hk h
  have HY2 : Hid ((∀ i, i < n → ¬ hasP gg (gg i) i) → R = true) := fun h => HY.out ⟨by first | rfl | trivial, by first | rfl | trivial, hz, h⟩
  have HC3 := Lib.hid (fun wa h1 h2 => C3.out (HP1.out (by first | rfl | trivial)) (HP2.out (by first | rfl | trivial)) z.toNat wa HZS.out h1 h2)
  clear HN HY C1 C2 C3 HP1 HP2 hz
  go_wp2
  clear d0 d1 d2 d3 d4 d5 d6 d7 d8 g1
  go_loopw [24] (fun i wr => ∃ k : Nat, k ≤ n ∧ i = .int .i64 k ∧ Hid (∀ i, i < k → ¬ hasP gg (gg i) i) ∧ wr = w2) (fun i _ => n - (intOf i).toNat)
  case atStart => exact ⟨0, Nat.zero_le _, rfl, fun i hi => absurd hi (by omega), rfl⟩
  case round =>
    obtain ⟨k, hk, rfl, hok, rfl⟩ := hrel
    by_cases hlt : k < n
    · obtain ⟨bo, off, rfl, hcap, c1⟩ := int_at GR2.out hlt
      have hc : ∀ i, i < n → wr.cell? ⟨bo, off + i, none⟩ = some (.int .i64 (gg i)) := fun i hi => by
        obtain ⟨bo', off', he, _, c⟩ := int_at GR2.out hi
        simp only [Option.some.injEq, Addr.mk.injEq, and_true] at he
        obtain ⟨rfl, rfl⟩ := he
        exact c
      have HT := Lib.hid (IntRow.take k hk hx64 hcap hc)
      have hk9 : (k : Int) ≤ xc := by omega
      have hS : Hid (¬ hasP gg (gg k) k → ∀ i, i < k + 1 → ¬ hasP gg (gg i) i) := fun h i hi => by
        by_cases hik : i = k
        · subst hik; exact h
        · exact hok.out i (by omega)
      have HNk := Lib.hid (HN2.out k hlt)
      clear hc hok HN2 HY2 HC3
      by_cases hno : hasP gg (gg k) k
      · obtain rfl := HRF.out (HNk.out hno)
        have HNO := Lib.hid hno
        clear HNk hS hno
        generalize gg k = x at *
        go_wp2_with (go_at_call 54; refine (l02Has_yes _ k gg x _ HT.out HNO.out).mono ?_; rintro e w3 ⟨rfl, rfl⟩)
        go_ret
        exact ListsL.none HB2.out
      · have HSk := Lib.hid (hS.out hno)
        have HNO := Lib.hid hno
        clear HNk hS hno
        generalize gg k = x at *
        go_wp2_with (go_at_call 54; refine (l02Has_no _ k gg x _ HT.out HNO.out).mono ?_; rintro e w3 ⟨rfl, rfl⟩)
        go_roundw
        case rel => exact ⟨k + 1, by omega, by go_num, HSk.out, by first | rfl | trivial⟩
        case measure => simp [intOf]; omega
    · obtain rfl : n = k := by omega
      obtain rfl := HRT.out (HY2.out hok.out)
      clear HN2 HY2 hok HRF HRT
      have d0 := BX2.out.2 0 _ rfl
      have d1 := BX2.out.2 1 _ rfl
      have d2 := BX2.out.2 2 _ rfl
      have d3 := BX2.out.2 3 _ rfl
      have d4 := BX2.out.2 4 _ rfl
      have d5 := BX2.out.2 5 _ rfl
      have d6 := BX2.out.2 6 _ rfl
      have d7 := BX2.out.2 7 _ rfl
      have d8 := BX2.out.2 8 _ rfl
      go_wp2_with fail
      refine (HC3.out _ BR2.out GR2.out).mono ?_
      rintro e w4 ⟨rv, T, rfl, hT, hL, b4⟩
      have HE := Lib.hid (HB2.out.trans (b4.mono HB2.out.size))
      have HL := Lib.hid (hL.mono HB2.out.size)
      have HT := Lib.hid hT
      clear hT hL b4
      go_wp2
      go_ret
      exact ⟨_, T, rfl, HT.out, HL.out, HE.out⟩
/-- all teams of a field -/
def allL (n : Nat) : List Int := valsL (fun i => (i : Int)) n
theorem allL_len (n : Nat) : (allL n).length = n := by unfold allL valsL; simp
theorem allL_get {n i : Nat} (h : i < n) : getI (allL n) i = i := by unfold allL valsL getI; simp [h]
theorem all_from {b : BookD} : fromP b (allL b.nf).length (getI (allL b.nf)) 0 ↔ bookP b := by
  rw [allL_len]
  refine ⟨fun h => h.1, fun h => ⟨h, fun i hi => by rw [allL_get hi]; omega, Int.le_refl _, fun i hi ⟨j, hj, e⟩ => ?_⟩⟩
  rw [allL_get hi, allL_get (by omega)] at e
  omega
set_option maxRecDepth 100000 in
set_option maxHeartbeats 2000000 in
theorem rankGroups_spec (vf vl vg vfa vta : Value) (b : BookD) (R : Bool) (w : World) (hR : R = true ↔ bookP b) (h : BookRow w vf vl vg vfa vta b) (hs : ∀ i, (b.f i).nm.size ≤ maxLen) (hn6 : b.nf ≤ 1048576) :
    Calls Try.prog 61 #[.agg #[vf, .int .i64 b.win, .int .i64 b.draw, .int .i64 b.loss, vl, .bool b.again, vg, vfa, vta]] w (ListsL w (if R = true then rankP b (allL b.nf) 0 else [])) := by
  obtain ⟨fa, fc, la, lc, ga, gc, qa, qc, ta, tc, rfl, rfl, rfl, rfl, rfl⟩ := h.form
  have b0 := (Below.refl w.heap.size w).alloc (Nat.le_refl _) (.cells #[.slice fa b.nf fc, .int .i64 b.win, .int .i64 b.draw, .int .i64 b.loss, .slice la b.nl lc, .bool b.again, .slice ga b.m gc, .slice qa b.nfa qc, .slice ta b.nta tc] 29)
  have BX0 := Lib.hid (BoxN.made (Below.refl (w.alloc (.cells #[.slice fa b.nf fc, .int .i64 b.win, .int .i64 b.draw, .int .i64 b.loss, .slice la b.nl lc, .bool b.again, .slice ga b.m gc, .slice qa b.nfa qc, .slice ta b.nta tc] 29)).heap.size (w.alloc (.cells #[.slice fa b.nf fc, .int .i64 b.win, .int .i64 b.draw, .int .i64 b.loss, .slice la b.nl lc, .bool b.again, .slice ga b.m gc, .slice qa b.nfa qc, .slice ta b.nta tc] 29))) (B := w.heap.size) rfl)
  have BR0 := Lib.hid (h.below b0 (Nat.le_refl _))
  have HB0 := Lib.hid b0
  have es : (w.alloc (.cells #[.slice fa b.nf fc, .int .i64 b.win, .int .i64 b.draw, .int .i64 b.loss, .slice la b.nl lc, .bool b.again, .slice ga b.m gc, .slice qa b.nfa qc, .slice ta b.nta tc] 29)).heap.size = w.heap.size + 1 := by simp
  have ES := Lib.hid es
  have C1 := Lib.hid (fun wa h1 => l07All_spec (.slice fa b.nf fc) (.slice la b.nl lc) (.slice ga b.m gc) (.slice qa b.nfa qc) (.slice ta b.nta tc) b wa h1 hn6)
  have C2 : Hid (∀ wa gv, BookRow wa (.slice fa b.nf fc) (.slice la b.nl lc) (.slice ga b.m gc) (.slice qa b.nfa qc) (.slice ta b.nta tc) b → IntRow wa gv (allL b.nf).length (getI (allL b.nf)) → Calls Try.prog 77 #[.agg #[.slice fa b.nf fc, .int .i64 b.win, .int .i64 b.draw, .int .i64 b.loss, .slice la b.nl lc, .bool b.again, .slice ga b.m gc, .slice qa b.nfa qc, .slice ta b.nta tc], gv, .int .i64 0] wa (ListsL wa (if R = true then rankP b (allL b.nf) 0 else []))) := fun wa gv h1 h2 =>
    rankFrom_spec (.slice fa b.nf fc) (.slice la b.nl lc) (.slice ga b.m gc) (.slice qa b.nfa qc) (.slice ta b.nta tc) b (allL b.nf) 0 gv R wa (by rw [hR, all_from]) h1 hs h2 (by rw [allL_len]; exact hn6) (by decide)
  have HLN := Lib.hid (allL_len b.nf)
  clear h b0 es hR hs
  obtain ⟨AL, hAL⟩ : ∃ AL, allL b.nf = AL := ⟨_, rfl⟩
  have HAL : Hid (valsL (fun i => (i : Int)) b.nf = AL) := hAL
  rw [hAL] at HLN C2 ⊢
  clear hAL
  rw [HAL.out] at C1
  generalize (if R = true then rankP b AL 0 else []) = RES at *
  go_enter Try.func61, Try.ntmps61
  obtain ⟨S, HSd⟩ : ∃ S : World → Prop, S = fun w' => BoxN w' w.heap.size [.slice fa b.nf fc, .int .i64 b.win, .int .i64 b.draw, .int .i64 b.loss, .slice la b.nl lc, .bool b.again, .slice ga b.m gc, .slice qa b.nfa qc, .slice ta b.nta tc] ∧ BookRow w' (.slice fa b.nf fc) (.slice la b.nl lc) (.slice ga b.m gc) (.slice qa b.nfa qc) (.slice ta b.nta tc) b ∧ Below w.heap.size w w' := ⟨_, rfl⟩
  have KS : Hid (∀ wa wb, S wa → Below wa.heap.size wa wb → S wb) := by subst HSd; exact fun wa wb ⟨bx, br, hb⟩ b0 => ⟨bx.below b0, br.below b0 (Nat.le_refl _), hb.trans (b0.mono hb.size)⟩
  have OS : Hid (∀ wa, S wa → BoxN wa w.heap.size [.slice fa b.nf fc, .int .i64 b.win, .int .i64 b.draw, .int .i64 b.loss, .slice la b.nl lc, .bool b.again, .slice ga b.m gc, .slice qa b.nfa qc, .slice ta b.nta tc] ∧ BookRow wa (.slice fa b.nf fc) (.slice la b.nl lc) (.slice ga b.m gc) (.slice qa b.nfa qc) (.slice ta b.nta tc) b ∧ Below w.heap.size w wa) := by subst HSd; exact fun wa h => h
  have KS0 : Hid (S (w.alloc (.cells #[.slice fa b.nf fc, .int .i64 b.win, .int .i64 b.draw, .int .i64 b.loss, .slice la b.nl lc, .bool b.again, .slice ga b.m gc, .slice qa b.nfa qc, .slice ta b.nta tc] 29)).drew) := by subst HSd; exact ⟨BX0.out.below (Below.refl _ _).drew, BR0.out.below (Below.refl _ _).drew (Nat.le_refl _), HB0.out.drew⟩
  clear HSd
  go_wp2_with fail
  refine wp_region_held_drew (S := S) (by kernel_rfl) ?_ (fun hHeld => ?_)
  · exact KS0.out
  clear KS0 
  refine wpAnyH_take (i := 0) (v := ?_) rfl (by kernel_rfl) (by kernel_rfl) (by kernel_rfl) (fun _ _ _ h => h) (Or.inl ⟨by rfl, ?_⟩) hHeld ?_
  rotate_left
  · (intro wa hSw; obtain ⟨bx, br, hb⟩ := OS.out _ hSw; have d0 := bx.2 0 _ rfl; have d1 := bx.2 1 _ rfl; have d2 := bx.2 2 _ rfl; have d3 := bx.2 3 _ rfl; have d4 := bx.2 4 _ rfl; have d5 := bx.2 5 _ rfl; have d6 := bx.2 6 _ rfl; have d7 := bx.2 7 _ rfl; have d8 := bx.2 8 _ rfl; go_simp; try with_reducible rfl)
  simp only [Act.put, List.getElem_toArray, List.getElem_cons_zero, List.setIfInBounds_toArray, List.set_cons_zero, List.set_cons_succ]
  refine wpAnyH_take (i := 1) (v := ?_) rfl (by kernel_rfl) (by kernel_rfl) (by kernel_rfl) (fun _ _ _ h => h) (Or.inl ⟨by rfl, ?_⟩) hHeld ?_
  rotate_left
  · (intro wa hSw; obtain ⟨bx, br, hb⟩ := OS.out _ hSw; have d0 := bx.2 0 _ rfl; have d1 := bx.2 1 _ rfl; have d2 := bx.2 2 _ rfl; have d3 := bx.2 3 _ rfl; have d4 := bx.2 4 _ rfl; have d5 := bx.2 5 _ rfl; have d6 := bx.2 6 _ rfl; have d7 := bx.2 7 _ rfl; have d8 := bx.2 8 _ rfl; go_simp; try with_reducible rfl)
  simp only [Act.put, List.getElem_toArray, List.getElem_cons_zero, List.getElem_cons_succ, List.setIfInBounds_toArray, List.set_cons_zero, List.set_cons_succ]
  refine wpAnyH_ready (rs := [2]) (by kernel_rfl) (by simp) ?_
  refine AllReadyH.cons (o := _) rfl (fun K hK => ?_) AllReadyH.nil
  go_simp
  obtain ⟨bx, br, hb⟩ := OS.out _ hHeld
  refine (C1.out _ br).mono ?_
  rintro e w101 ⟨va, rfl, hoa, b101⟩
  clear bx br hb
  have HOA := Lib.hid hoa
  clear hoa
  (try go_wp2_with fail)
  refine hK.out _ _ ?_ (fun hHeld101 => ?_)
  · exact KS.out _ _ hHeld b101
  clear hK K
  refine wpAnyH_ready (rs := [3]) (by kernel_rfl) (by simp) ?_
  refine AllReadyH.cons (o := _) rfl (fun K hK => ?_) AllReadyH.nil
  go_simp
  obtain ⟨bx, br, hb⟩ := OS.out _ hHeld101
  refine (C2.out _ va br (IntRow.of_list HOA.out (by rw [HLN.out]; omega))).mono ?_
  rintro e w102 ⟨rv, T, rfl, hT, hL, b102⟩
  clear bx br hb
  have HT := Lib.hid hT
  have HL := Lib.hid hL
  clear hT hL
  (try go_wp2_with fail)
  refine hK.out _ _ ?_ (fun hHeld102 => ?_)
  · exact KS.out _ _ hHeld101 b102
  clear hK K
  clear hHeld101
  refine wpAnyH_take (i := 4) (v := ?_) rfl (by kernel_rfl) (by kernel_rfl) (by kernel_rfl) (fun _ _ _ h => h) (Or.inl ⟨by rfl, ?_⟩) hHeld102 ?_
  rotate_left
  · (intro wa hSw; obtain ⟨bx, br, hb⟩ := OS.out _ hSw; skip; go_simp; try with_reducible rfl)
  simp only [Act.put, List.getElem_toArray, List.getElem_cons_zero, List.getElem_cons_succ, List.setIfInBounds_toArray, List.set_cons_zero, List.set_cons_succ]
  refine wpAnyH_done (by kernel_rfl) ?_ _
  obtain ⟨bx, br, hb⟩ := OS.out _ hHeld102
  clear KS OS hHeld hHeld102
  go_wp2
  go_ret
  exact ⟨_, T, rfl, HT.out, HL.out.mono (by have h7 := b101.size; simp at h7; omega), hb⟩
/-- the teams of the parts, if each has one -/
def orderL (L : List (List Int)) : List Int := if ∀ p ∈ L, p.length = 1 then L.flatten else []
theorem flat_ones : ∀ (L : List (List Int)), (∀ p ∈ L, p.length = 1) → L.flatten.length = L.length
  | [], _ => rfl
  | p :: L, h => by
    rw [List.flatten_cons, List.length_append, h p (List.mem_cons_self ..), flat_ones L fun q hq => h q (List.mem_cons_of_mem _ hq)]
    simp; omega
theorem LL.kept {w w' : World} {B : Nat} {v : Value} {T : List (Value × List Int)} {row : Option Nat} (h : LL w B v T) (hg : w.grownBy w' row) (h1 : ∀ q, row = some q → Hid (v.ownBlock ≠ some q ∧ ∀ x ∈ T, x.1.ownBlock ≠ some q)) : LL w' B v T := by
  refine ⟨h.1.kept hg ?_, fun x hx => (h.2.1 x hx).kept hg ?_, h.2.2⟩
  · cases hr : row with
    | none => cases hv : v.ownBlock with
      | none => exact .inl rfl
      | some q => exact .inr (by simp)
    | some q => exact .inr fun e => (h1 q hr).out.1 e
  · cases hr : row with
    | none => cases hv : x.1.ownBlock with
      | none => exact .inl rfl
      | some q => exact .inr (by simp)
    | some q => exact .inr fun e => (h1 q hr).out.2 x hx e
theorem IntsL.none {w w' : World} (h : Below w.heap.size w w') : IntsL w [] (.returned (.slice none 0 0)) w' :=
  ⟨_, rfl, ⟨rfl, .inl ⟨rfl, rfl⟩⟩, h⟩
set_option maxRecDepth 100000 in
set_option maxHeartbeats 2000000 in
theorem ranking_spec (vf vl vg vfa vta : Value) (b : BookD) (R : Bool) (w : World) (hR : R = true ↔ bookP b) (h : BookRow w vf vl vg vfa vta b) (hs : ∀ i, (b.f i).nm.size ≤ maxLen) (hn6 : b.nf ≤ 1048576) :
    Calls Try.prog 46 #[.agg #[vf, .int .i64 b.win, .int .i64 b.draw, .int .i64 b.loss, vl, .bool b.again, vg, vfa, vta]] w (IntsL w (orderL (if R = true then rankP b (allL b.nf) 0 else []))) := by
  obtain ⟨i0, hi, hz0, hz1, hz2⟩ := info_parts Try.infoI
  obtain ⟨fa, fc, la, lc, ga, gc, qa, qc, ta, tc, rfl, rfl, rfl, rfl, rfl⟩ := h.form
  have b0 := (Below.refl w.heap.size w).alloc (Nat.le_refl _) (.cells #[.slice fa b.nf fc, .int .i64 b.win, .int .i64 b.draw, .int .i64 b.loss, .slice la b.nl lc, .bool b.again, .slice ga b.m gc, .slice qa b.nfa qc, .slice ta b.nta tc] 29)
  have BX0 := Lib.hid (BoxN.made (Below.refl (w.alloc (.cells #[.slice fa b.nf fc, .int .i64 b.win, .int .i64 b.draw, .int .i64 b.loss, .slice la b.nl lc, .bool b.again, .slice ga b.m gc, .slice qa b.nfa qc, .slice ta b.nta tc] 29)).heap.size (w.alloc (.cells #[.slice fa b.nf fc, .int .i64 b.win, .int .i64 b.draw, .int .i64 b.loss, .slice la b.nl lc, .bool b.again, .slice ga b.m gc, .slice qa b.nfa qc, .slice ta b.nta tc] 29))) (B := w.heap.size) rfl)
  have BR0 := Lib.hid (h.below b0 (Nat.le_refl _))
  have HB0 := Lib.hid b0
  have es : (w.alloc (.cells #[.slice fa b.nf fc, .int .i64 b.win, .int .i64 b.draw, .int .i64 b.loss, .slice la b.nl lc, .bool b.again, .slice ga b.m gc, .slice qa b.nfa qc, .slice ta b.nta tc] 29)).heap.size = w.heap.size + 1 := by simp
  have ES := Lib.hid es
  have C2 := Lib.hid (fun wa h1 => rankGroups_spec (.slice fa b.nf fc) (.slice la b.nl lc) (.slice ga b.m gc) (.slice qa b.nfa qc) (.slice ta b.nta tc) b R wa hR h1 hs hn6)
  have hLen : (if R = true then rankP b (allL b.nf) 0 else []).length ≤ 1048576 := by
    split
    · have := rankP_len b (allL b.nf) 0
      rw [allL_len] at this
      omega
    · simp
  generalize (if R = true then rankP b (allL b.nf) 0 else []) = PL at *
  have b1 := b0.alloc (by simp) (.cells #[] 3)
  have o1 := World.ownsRow_lit (e := 3) (size := 1) (w.alloc (.cells #[.slice fa b.nf fc, .int .i64 b.win, .int .i64 b.draw, .int .i64 b.loss, .slice la b.nl lc, .bool b.again, .slice ga b.m gc, .slice qa b.nfa qc, .slice ta b.nta tc] 29)) #[] 0 (Nat.le_refl _) (by decide) rfl
  rw [es] at o1
  have BX1 := Lib.hid (BoxN.below BX0.out ((Below.refl _ _).alloc (Nat.le_refl _) (.cells #[] 3)))
  have BR1 := Lib.hid (h.below b1 (Nat.le_refl _))
  have HB1 := Lib.hid b1
  have HO1 := Lib.hid (owns_mono (base' := w.heap.size) o1 (by omega))
  clear h b0 es hR hs b1 o1 BX0 BR0 HB0 hn6
  have d0 := BX1.out.2 0 _ rfl
  have d1 := BX1.out.2 1 _ rfl
  have d2 := BX1.out.2 2 _ rfl
  have d3 := BX1.out.2 3 _ rfl
  have d4 := BX1.out.2 4 _ rfl
  have d5 := BX1.out.2 5 _ rfl
  have d6 := BX1.out.2 6 _ rfl
  have d7 := BX1.out.2 7 _ rfl
  have d8 := BX1.out.2 8 _ rfl
  go_enter Try.func46, Try.ntmps46
  go_wp2_with fail
  refine (C2.out _ BR1.out).mono ?_
  rintro e w2 ⟨rv, T, rfl, hT, hL, b2⟩
  have hTl : T.length = PL.length := by rw [← hT, List.length_map]
  have hTn : T.length ≤ 1048576 := by omega
  have HTL := Lib.hid hTl
  have HPT := Lib.hid hT
  have HL2 := Lib.hid hL
  have HB2 := Lib.hid (HB1.out.trans (b2.mono HB1.out.size))
  have HO2 := Lib.hid (owns_below HO1.out b2 (Nat.le_refl _))
  have hsep : Hid (∀ k, k < w.heap.size + 2 → ∀ x ∈ T, x.1.ownBlock ≠ some k) := fun k hk x hx e => by have h1 := ((hL.2.1 x hx).lt k e).1; simp at h1; omega
  have hsep2 : Hid (∀ k, k < w.heap.size + 2 → rv.ownBlock ≠ some k) := fun k hk e => by have h1 := (hL.1.lt k e).1; simp at h1; omega
  obtain ⟨pa, pc, hvf⟩ := owns_form hL.1
  subst hvf
  clear d0 d1 d2 d3 d4 d5 d6 d7 d8 hT hL b2 hTl BX1 BR1 HB1 HO1 C2
  go_wp2
  go_loopw [3, 10] (fun ov iv wr => ∃ k : Nat, k ≤ T.length ∧ iv = .int .i64 k ∧ Hid (∀ p ∈ PL.take k, p.length = 1) ∧ Hid (wr.ownsRow w.heap.size 3 1 ov k ((PL.take k).flatten.map (Value.int .i64))) ∧ Hid (LL wr (w.heap.size + 2) (.slice pa T.length pc) T) ∧ (∀ q, ov.ownBlock = some q → Hid ((.slice pa T.length pc : Value).ownBlock ≠ some q ∧ ∀ x ∈ T, x.1.ownBlock ≠ some q)) ∧ Hid (Below w.heap.size w wr)) (fun _ iv _ => T.length - (intOf iv).toNat)
  case atStart =>
    refine ⟨0, Nat.zero_le _, rfl, fun p hp => by simp at hp, HO2, HL2.out.mono (by simp), fun q hq => ?_, HB2⟩
    have : q = w.heap.size + 1 := by simpa [Value.ownBlock] using hq.symm
    subst this
    exact ⟨hsep2.out _ (by omega), hsep.out _ (by omega)⟩
  case round =>
    clear HO2 HL2 HB2 hsep hsep2
    obtain ⟨k, hk, rfl, hone, HO, HL, hsp, HB⟩ := hrel
    have HSP := Lib.hid hsp
    clear hsp
    by_cases hlt : k < T.length
    · obtain ⟨y, hy⟩ : ∃ y, T[k]? = some y := ⟨_, List.getElem?_eq_getElem hlt⟩
      have hyp : PL[k]? = some y.2 := by rw [← HPT.out, List.getElem?_map, hy]; rfl
      have hyT := List.mem_of_getElem? hy
      have hrow := HL.out.2.1 _ hyT
      obtain ⟨pg, pcap, he, hpc, _, cp⟩ := vals_at (x := y.1) (j := k) HL.out.1 (by rw [List.getElem?_map, hy]; rfl)
      simp only [Value.slice.injEq, true_and] at he
      obtain ⟨rfl, rfl⟩ := he
      have hklt : (k : Int) < T.length := by omega
      have htk : PL.take (k + 1) = PL.take k ++ [y.2] := by
        obtain ⟨hkp, e⟩ := List.getElem?_eq_some_iff.1 hyp
        rw [← List.take_append_getElem hkp, e]
      by_cases h1 : y.2.length = 1
      · obtain ⟨x, hx⟩ : ∃ x, y.2 = [x] := List.length_eq_one_iff.1 h1
        rw [hx] at hrow
        obtain ⟨yg, ycap, hyf, hyc, _, cy⟩ := vals_at (x := .int .i64 x) (j := 0) hrow rfl
        have HK1 : Hid (∀ p ∈ PL.take (k + 1), p.length = 1) := fun p hp => by
          rw [htk] at hp
          rcases List.mem_append.1 hp with hp | hp
          · exact hone.out p hp
          · rw [List.mem_singleton.1 hp]; exact h1
        have HFL : Hid ((PL.take (k + 1)).flatten = (PL.take k).flatten ++ [x]) := by show _ = _; rw [htk, List.flatten_append, hx]; rfl
        clear htk hyp hy h1 hx hone hrow
        have HYT := Lib.hid hyT
        clear hyT
        generalize y.1 = yv at *
        subst hyf
        have g1 : ((([x] : List Int).length : Int) == 1) = true := rfl
        have g2 : ((([x] : List Int).length : Int) != 1) = false := rfl
        simp only [List.length_cons, List.length_nil, Nat.zero_add] at *
        have hown := HO.out
        have hsz := HB.out.size
        go_wp2_with (at_builtin; refine wpList_pushL rfl (.tmp 17) (.tmp 21) 24 rfl w.heap.size 3 Try.underlying24 hi hz0 hz1 hz2 rfl (by decide) [.int .i64 x] rfl (by intro u hu; simp at hu; subst hu; rfl) rfl (by first | rfl | (show Value.slice (some ⟨_, 0, none⟩) 1 1 = _; simp)) hown (by unfold maxLen; omega) (by omega) hsz ?_; intro g5 c5 w5 o5 gr5 at5 lt5; have O5 := Lib.hid o5; have G5 := Lib.hid gr5; have A5 := Lib.hid at5; clear o5 gr5 at5)
        go_roundw
        case rel =>
          refine ⟨k + 1, by omega, by go_num, HK1, by show World.ownsRow _ _ _ _ _ _ _; rw [HFL.out, List.map_append]; exact O5.out, HL.out.kept G5.out HSP.out, fun q hq => ?_, HB.out.grown G5.out hsz (fun q hq => (HO.out.lt q hq).1)⟩
          have : q = g5 := by simpa [Value.ownBlock] using hq.symm
          subst this
          rcases A5.out with h | h
          · exact (HSP.out _ h).out
          · exact ⟨fun e => by have := (HL.out.1.lt _ e).2; omega, fun x hx e => by have := ((HL.out.2.1 x hx).lt _ e).2; omega⟩
        case measure => simp [intOf]; omega
      · have HNO : Hid (orderL PL = []) := by
          show orderL PL = []
          unfold orderL
          rw [if_neg (fun h => h1 (h _ (List.mem_of_getElem? hyp)))]
        obtain ⟨ya, yc, hyf⟩ := owns_form hrow
        have g1 : ((y.2.length : Int) == 1) = false := beq_eq_false_iff_ne.2 (by omega)
        have g2 : ((y.2.length : Int) != 1) = true := by unfold bne; rw [g1]; rfl
        rw [HNO.out]
        clear htk hyp hy h1 hone hrow hyT
        generalize y.1 = yv at *
        subst hyf
        go_wp2
        go_ret
        exact IntsL.none HB.out
    · obtain rfl : T.length = k := by omega
      have hall := hone.out
      have hO := HO.out
      rw [show PL.take T.length = PL by rw [HTL.out, List.take_length]] at hall hO
      have HR : Hid (orderL PL = PL.flatten) := by
        show orderL PL = _
        unfold orderL
        rw [if_pos hall]
      have HLn : Hid (PL.flatten.length = T.length) := by show _ = _; rw [flat_ones _ hall, HTL.out]
      have HO' := Lib.hid hO
      clear hall hO HO hone
      go_wp2
      go_ret
      exact ⟨_, rfl, by rw [HR.out, HLn.out]; exact HO'.out, HB.out⟩
end Go.Proofs.Ytojkonhhaamodaa
