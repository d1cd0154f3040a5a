/-
  Packed: SplitBy, Rank, RankPlain, SepFacts.
-/
import Derived.Test.YteciobkjfmddcaaGreatQ2
import Derived.Test.YteciobkjfmddcaaGreatQ3
import Derived.Test.YteciobkjfmddcaaGreatQ7
set_option linter.unusedVariables false
namespace Go.Proofs.YteciobkjfmddcaaGreat
open Go.RowKit

theorem Tryz.infoL : (Tryz.prog.info? 24).map (fun i => (i.zero, i.size, i.bytes)) = some (some (.slice none 0 0), 1, 24) := by kernel_rfl
theorem fresh_ne {w : World} {B : Nat} {e : TypeId} {sz : Nat} {v x : Value} {n : Nat} {xs : List Value} (hx : w.ownsRow B e sz x n xs) (ha : ApartV v x) {g : Nat} (hat : v.ownBlock = some g ∨ w.heap.size ≤ g) : x.ownBlock ≠ some g := fun e1 => by
  rcases hat with h | h
  · exact ha g h e1
  · have := (hx.lt g e1).2; omega
theorem apart_row {v x : Value} (ha : ApartV v x) : ∀ k, x.ownBlock = some k → v.ownBlock ≠ some k := fun k h1 h2 => ha k h2 h1
theorem kept_apart {w w' : World} {B : Nat} {e : TypeId} {sz : Nat} {v x : Value} {n : Nat} {xs : List Value} (hx : w.ownsRow B e sz x n xs) (ha : ApartV v x) (hg : w.grownBy w' v.ownBlock) : w'.ownsRow B e sz x n xs := by
  refine hx.kept hg ?_
  cases hk : x.ownBlock with
  | none => exact .inl rfl
  | some k => exact .inr fun e1 => apart_row ha k hk e1.symm
theorem SplitSt.apart {w : World} {B : Nat} {ov av : Value} {T : List (Int × Value × List Int)} (h : SplitSt w B ov av T) : ApartV ov av ∧ (∀ x ∈ T, ApartV ov x.2.1) ∧ ∀ x ∈ T, ApartV av x.2.1 := by
  have h1 := List.pairwise_cons.1 h.2.2.2
  have h2 := List.pairwise_cons.1 h1.2
  have hm : ∀ x ∈ T, x.2.1 ∈ T.map fun x => x.2.1 := fun x hx => List.mem_map.2 ⟨x, hx, rfl⟩
  exact ⟨h1.1 av (List.mem_cons_self ..), fun x hx => h1.1 _ (List.mem_cons_of_mem _ (hm x hx)), fun x hx => h2.1 _ (hm x hx)⟩
theorem SplitSt.grow1 {w w' : World} {B ga : Nat} {ov av : Value} {T : List (Int × Value × List Int)} (h : SplitSt w B ov av T) (hg : w.grownBy w' av.ownBlock) (hat : av.ownBlock = some ga ∨ w.heap.size ≤ ga) :
    w'.ownsRow B 24 1 ov T.length (T.map fun x => x.2.1) ∧ OwnT w' B 3 T ∧ (∀ x ∈ T, x.2.1.ownBlock ≠ some ga) ∧ ov.ownBlock ≠ some ga := by
  obtain ⟨a1, a2, a3⟩ := h.apart
  exact ⟨kept_apart h.1 a1.symm hg, fun x hx => kept_apart (h.2.2.1 x hx) (a3 x hx) hg, fun x hx => fresh_ne (h.2.2.1 x hx) (a3 x hx) hat, fresh_ne h.1 a1.symm hat⟩
theorem SplitSt.grow2 {w0 w w' : World} {B ga ca na go : Nat} {ov av : Value} {T : List (Int × Value × List Int)} {xs : List Value} (h0 : SplitSt w0 B ov av T) (hov : w.ownsRow B 24 1 ov T.length (T.map fun x => x.2.1)) (hT : OwnT w B 3 T)
    (ha : w.ownsRow B 3 1 (.slice (some ⟨ga, 0, none⟩) na ca) na xs) (hn : ov.ownBlock ≠ some ga) (hg : w.grownBy w' ov.ownBlock) (hat : ov.ownBlock = some go ∨ w.heap.size ≤ go) :
    w'.ownsRow B 3 1 (.slice (some ⟨ga, 0, none⟩) na ca) na xs ∧ OwnT w' B 3 T ∧ (∀ x ∈ T, x.2.1.ownBlock ≠ some go) ∧ go ≠ ga := by
  obtain ⟨a1, a2, a3⟩ := h0.apart
  have a4 : ApartV ov (.slice (some ⟨ga, 0, none⟩) na ca) := fun k h1 h2 => hn (by rw [h1]; simpa [Value.ownBlock] using h2.symm)
  refine ⟨kept_apart ha a4 hg, fun x hx => kept_apart (hT x hx) (a2 x hx) hg, fun x hx => fresh_ne (hT x hx) (a2 x hx) hat, fun e => ?_⟩
  exact fresh_ne ha a4 hat (by rw [e]; rfl)
theorem split_len {V : Nat → Int} {gg : Nat → Int} : ∀ k, (splitP V gg k).length ≤ k
  | 0 => Nat.le_refl _
  | k + 1 => by
    have h : ∀ v t (L : List (Int × List Int)), (insP v t L).length ≤ L.length + 1 := fun v t L => by
      induction L with
      | nil => simp [insP]
      | cons y L ih => unfold insP; split <;> (try split) <;> simp <;> omega
    have := h (V (gg k).toNat) (gg k) (splitP V gg k)
    have := split_len (V := V) (gg := gg) k
    show (insP _ _ _).length ≤ _
    omega
theorem split_lens {V : Nat → Int} {gg : Nat → Int} : ∀ k x, x ∈ splitP V gg k → x.2.length ≤ k
  | 0 => fun x hx => by simp [splitP] at hx
  | k + 1 => by
    have h : ∀ v t m (L : List (Int × List Int)), (∀ x ∈ L, x.2.length ≤ m) → ∀ x ∈ insP v t L, x.2.length ≤ m + 1 := fun v t m L => by
      induction L with
      | nil => intro _ x hx; simp [insP] at hx; subst hx; simp
      | cons y L ih =>
        intro h x hx
        have h0 := h y (List.mem_cons_self ..)
        have h1 := fun z hz => h z (List.mem_cons_of_mem y hz)
        unfold insP at hx
        split at hx
        · rcases List.mem_cons.1 hx with rfl | hx
          · exact Nat.le_succ_of_le h0
          · exact ih h1 x hx
        · split at hx
          · rcases List.mem_cons.1 hx with rfl | hx
            · simp; exact h0
            · exact Nat.le_succ_of_le (h1 x hx)
          · rcases List.mem_cons.1 hx with rfl | hx
            · simp
            · rcases List.mem_cons.1 hx with rfl | hx
              · exact Nat.le_succ_of_le h0
              · exact Nat.le_succ_of_le (h1 x hx)
    exact h _ _ k _ (split_lens k)
def datT (T : List (Int × Value × List Int)) : List (Int × List Int) := T.map fun x => (x.1, x.2.2)
theorem datT_lead (v : Int) (T : List (Int × Value × List Int)) : leadV Prod.fst v (datT T) = leadV Prod.fst v T := by
  induction T with
  | nil => rfl
  | cons y T ih =>
    show leadV Prod.fst v ((y.1, y.2.2) :: datT T) = _
    unfold leadV
    rw [ih]
theorem datT_get {T : List (Int × Value × List Int)} {j : Nat} {x : Int × Value × List Int} (h : T[j]? = some x) : (datT T)[j]? = some (x.1, x.2.2) := by
  unfold datT; rw [List.getElem?_map, h]; rfl
theorem datT_some {T : List (Int × Value × List Int)} {j : Nat} {x : Int × List Int} (h : (datT T)[j]? = some x) : ∃ iv, T[j]? = some (x.1, iv, x.2) := by
  unfold datT at h
  rw [List.getElem?_map] at h
  cases hT : T[j]? with
  | none => rw [hT] at h; cases h
  | some y => rw [hT] at h; simp only [Option.map_some, Option.some.injEq] at h; subst h; exact ⟨y.2.1, rfl⟩
theorem datT_set (T : List (Int × Value × List Int)) (j : Nat) (v : Int) (iv : Value) (p : List Int) : datT (T.set j (v, iv, p)) = (datT T).set j (v, p) := by
  unfold datT; rw [List.map_set]
theorem datT_gap (T : List (Int × Value × List Int)) (j : Nat) (v : Int) (iv : Value) (p : List Int) : datT (gapA T j (v, iv, p)) = gapA (datT T) j (v, p) := by
  unfold datT; rw [gapA_map]
theorem ints_at {w : World} {B n : Nat} {v : Value} {L : List Int} {j : Nat} {x : Int} (h : w.ownsRow B 3 1 v n (L.map (Value.int .i64))) (hj : L[j]? = some x) :
    ∃ g c, v = .slice (some ⟨g, 0, none⟩) n c ∧ n ≤ c ∧ j < n ∧ w.cell? ⟨g, j, none⟩ = some (.int .i64 x) := by
  have hl := h.1
  have hjl : j < L.length := (List.getElem?_eq_some_iff.1 hj).1
  simp at hl
  rcases h.2 with ⟨_, h0⟩ | ⟨g, cap, cur, rfl, hb, hg, hnc, rest⟩
  · omega
  · refine ⟨g, cap, rfl, hnc, by omega, ?_⟩
    rw [h.cellAt j (by omega), List.getElem?_map, hj]
    rfl
theorem vals_at {w : World} {B n : Nat} {e : TypeId} {v : Value} {L : List Value} {j : Nat} {x : Value} (h : w.ownsRow B e 1 v n L) (hj : L[j]? = some x) :
    ∃ g c, v = .slice (some ⟨g, 0, none⟩) n c ∧ n ≤ c ∧ j < n ∧ w.cell? ⟨g, j, none⟩ = some x := by
  have hl := h.1
  have hjl : j < L.length := (List.getElem?_eq_some_iff.1 hj).1
  rcases h.2 with ⟨_, h0⟩ | ⟨g, cap, cur, rfl, hb, hg, hnc, rest⟩
  · omega
  · refine ⟨g, cap, rfl, hnc, by omega, ?_⟩
    rw [h.cellAt j (by omega), hj]
set_option maxRecDepth 100000 in
set_option maxHeartbeats 2000000 in
theorem l07Split_spec (vf vl vg vfa vta : Value) (b : BookD) (key : Int) (gv : Value) (ng : Nat) (gg : Nat → Int) (w : World) (hp : bookP b) (h : BookRow w vf vl vg vfa vta b) (hgv : IntRow w gv ng gg) (ht : teamsP b.nf ng gg) (hn6 : ng ≤ 1048576) :
    Calls Tryz.prog 91 #[.agg #[vf, .int .i64 b.win, .int .i64 b.draw, .int .i64 b.loss, vl, .bool b.again, vg, vfa, vta], .int .i64 key, gv] w (ListsL w ((splitP (bookV b key gg ng) gg ng).map Prod.snd)) := by
  obtain ⟨i0, hi, hz0, hz1, hz2⟩ := info_parts Tryz.infoI
  obtain ⟨l0, li, lz0, lz1, lz2⟩ := info_parts Tryz.infoL
  obtain ⟨fa, fc, la, lc, ga, gc, qa, qc, ta, tc, rfl, rfl, rfl, rfl, rfl⟩ := h.form
  obtain ⟨xa, xc, rfl, hx64, _⟩ := hgv.form
  have hn8 : b.nf ≤ 8 := by have := hp.1.1; omega
  have C2 := Lib.hid (fun wa h1 h2 => l07Values_spec (.slice fa b.nf fc) (.slice la b.nl lc) (.slice ga b.m gc) (.slice qa b.nfa qc) (.slice ta b.nta tc) b key (.slice xa ng xc) ng gg wa hp h1 h2)
  generalize bookV b key gg ng = V at *
  have HT := Lib.hid ht
  have b0 := (Below.refl w.heap.size w).alloc (Nat.le_refl _) (.cells #[.slice fa b.nf fc, .int .i64 b.win, .int .i64 b.draw, .int .i64 b.loss, .slice la b.nl lc, .bool b.again, .slice ga b.m gc, .slice qa b.nfa qc, .slice ta b.nta tc] 29)
  have BX0 := Lib.hid (BoxN.made (Below.refl (w.alloc (.cells #[.slice fa b.nf fc, .int .i64 b.win, .int .i64 b.draw, .int .i64 b.loss, .slice la b.nl lc, .bool b.again, .slice ga b.m gc, .slice qa b.nfa qc, .slice ta b.nta tc] 29)).heap.size (w.alloc (.cells #[.slice fa b.nf fc, .int .i64 b.win, .int .i64 b.draw, .int .i64 b.loss, .slice la b.nl lc, .bool b.again, .slice ga b.m gc, .slice qa b.nfa qc, .slice ta b.nta tc] 29))) (B := w.heap.size) rfl)
  have BR0 := Lib.hid (h.below b0 (Nat.le_refl _))
  have GR0 := Lib.hid (hgv.below b0 (Nat.le_refl _))
  have HB0 := Lib.hid b0
  clear h b0 hgv hp ht
  have d0 := BX0.out.2 0 _ rfl
  have d1 := BX0.out.2 1 _ rfl
  have d2 := BX0.out.2 2 _ rfl
  have d3 := BX0.out.2 3 _ rfl
  have d4 := BX0.out.2 4 _ rfl
  have d5 := BX0.out.2 5 _ rfl
  have d6 := BX0.out.2 6 _ rfl
  have d7 := BX0.out.2 7 _ rfl
  have d8 := BX0.out.2 8 _ rfl
  go_enter Tryz.func91, Tryz.ntmps91
  go_wp2_with fail
  refine (C2.out _ BR0.out GR0.out).mono ?_
  rintro e w1 ⟨vv, rfl, ho1, b1⟩
  have hlen : (valsL V b.nf).length = b.nf := by unfold valsL; simp
  rw [hlen] at ho1
  obtain ⟨va, vc, hvf⟩ := owns_form ho1
  subst hvf
  have GR1 := Lib.hid (GR0.out.below b1 (Nat.le_refl _))
  have HE1 := Lib.hid (HB0.out.trans (b1.mono HB0.out.size))
  have HV1 := Lib.hid ho1
  have hD1 : w.heap.size ≤ w1.heap.size := HE1.out.size
  clear d0 d1 d2 d3 d4 d5 d6 d7 d8 BX0 BR0 GR0 HB0 b1 ho1 hlen C2
  have b2 := ((Below.refl w1.heap.size w1).alloc (Nat.le_refl _) (.cells #[] 24)).alloc (by simp) (.cells #[] 3)
  have o2 := World.ownsRow_lit (e := 24) (size := 1) w1 #[] 0 (Nat.le_refl _) (by decide) rfl
  have o3 := World.ownsRow_lit (e := 3) (size := 1) (w1.alloc (.cells #[] 24)) #[] 0 (Nat.le_refl _) (by decide) rfl
  have es : (w1.alloc (.cells #[] 24)).heap.size = w1.heap.size + 1 := by simp
  rw [es] at o3
  have SS0 : Hid (SplitSt ((w1.alloc (.cells #[] 24)).alloc (.cells #[] 3)) w1.heap.size (.slice (some ⟨w1.heap.size, 0, none⟩) 0 0) (.slice (some ⟨w1.heap.size + 1, 0, none⟩) 0 0) []) := by
    refine ⟨?_, owns_mono o3 (by omega), OwnT_nil, ?_⟩
    · exact owns_below o2 ((Below.refl _ _).alloc (Nat.le_refl _) _) (Nat.le_refl _)
    · refine List.pairwise_cons.2 ⟨fun z hz => ?_, by simp⟩
      simp at hz
      subst hz
      intro k h1 h2
      simp [Value.ownBlock] at h1 h2
      omega
  have HB2 := Lib.hid b2
  clear o2 o3 es b2
  obtain ⟨D, hD⟩ : ∃ D, w1.heap.size = D := ⟨_, rfl⟩
  rw [hD] at SS0 HB2
  have HD := Lib.hid hD
  go_wp2
  clear hD
  go_loopw [8, 9, 23] (fun ov av iv wr => ∃ (k : Nat) (T : List (Int × Value × List Int)), k ≤ ng ∧ iv = .int .i64 k ∧ Hid (datT T = splitP V gg k) ∧ T.length ≤ k ∧ Hid (SplitSt wr D ov av T) ∧ Hid (Below D w1 wr)) (fun _ _ iv _ => ng - (RowKit.intOf iv).toNat)
  case atStart => exact ⟨0, [], Nat.zero_le _, rfl, rfl, Nat.zero_le _, SS0, HB2⟩
  case round =>
    clear SS0 HB2
    obtain ⟨k, T, hk, rfl, hT, hTk, SS, HB⟩ := hrel
    obtain ⟨oa, oc, hout⟩ := owns_form SS.out.1
    obtain ⟨aa, ac, hat⟩ := owns_form SS.out.2.1
    subst hout hat
    by_cases hlt : k < ng
    · obtain ⟨gb, gof, rfl, hcx, u1⟩ := int_at (GR1.out.below HB.out (Nat.le_of_eq HD.out)) hlt
      have hx := HT.out k hlt
      have HK : Hid (splitP V gg (k + 1) = insP (V (gg k).toNat) (gg k) (splitP V gg k)) := rfl
      have hlt' : (k : Int) < ng := by omega
      generalize gg k = x at *
      obtain ⟨tn, rfl⟩ : ∃ tn : Nat, x = tn := ⟨x.toNat, by omega⟩
      have ht2 : tn < b.nf := by omega
      have ht3 : (tn : Int) < b.nf := by omega
      obtain ⟨vb, vcap, hvv, hvc, _, cv⟩ := ints_at (x := V tn) (j := tn) HV1.out (by unfold valsL; rw [List.getElem?_map, List.getElem?_range ht2]; rfl)
      simp only [Value.slice.injEq, true_and] at hvv
      obtain ⟨rfl, rfl⟩ := hvv
      have cw : wr.cell? ⟨vb, tn, none⟩ = some (.int .i64 (V tn)) := (HB.out.cell (p := ⟨vb, tn, none⟩) (by have := World.block_lt_of_cell? w1 _ cv; have := HD.out; show vb < D; simp at *; omega)).trans cv
      have HK2 : Hid (splitP V gg (k + 1) = insP (V tn) tn (datT T)) := HK.out.trans (by rw [hT.out]; simp)
      have HLS : Hid (∀ x ∈ T, x.2.2.length ≤ k) := fun x hx => split_lens (V := V) (gg := gg) k (x.1, x.2.2) (by rw [← hT.out]; exact List.mem_map.2 ⟨x, hx, rfl⟩)
      clear cv HK hT
      generalize V tn = v at *
      obtain ⟨ld, hld⟩ : ∃ ld, ld = leadV Prod.fst v T := ⟨_, rfl⟩
      have hle : ld ≤ T.length := by rw [hld]; exact leadV_le T
      have HLT : Hid (∀ i y, i < ld → T[i]? = some y → v < y.1) := by rw [hld]; exact leadV_lt T
      have HGE : Hid (∀ y, T[ld]? = some y → ¬ v < y.1) := by rw [hld]; exact leadV_ge T
      have HLD := Lib.hid hld
      clear hld hx ht2
      go_wp2
      clear u1 cw
      obtain ⟨wo, rfl⟩ : ∃ wo : World, wo = wr := ⟨_, rfl⟩
      go_loopw [13] (fun at_ wr => ∃ j : Nat, j ≤ ld ∧ at_ = .int .i64 j ∧ Hid (SplitSt wr D (.slice oa T.length oc) (.slice aa T.length ac) T) ∧ Hid (Below D w1 wr)) (fun at_ _ => ld - (RowKit.intOf at_).toNat)
      case atStart => exact ⟨0, Nat.zero_le _, rfl, SS, HB⟩
      case round =>
        clear SS HB
        obtain ⟨j, hj, rfl, SS, HB⟩ := hrel
        have hT64 : T.length ≤ 1048576 := by omega
        by_cases hjl : j < ld
        · obtain ⟨y, hy⟩ : ∃ y, T[j]? = some y := ⟨_, List.getElem?_eq_getElem (by omega)⟩
          have h1 := HLT.out j y hjl hy
          obtain ⟨ag, acap, he, hcap, hjT, ca⟩ := vals_at (x := .int .i64 y.1) (j := j) SS.out.2.1 (by rw [List.getElem?_map, hy]; rfl)
          simp only [Value.slice.injEq, true_and] at he
          obtain ⟨rfl, rfl⟩ := he
          clear hy HK2
          generalize y.1 = u at *
          have g1 : decide ((j : Int) < (T.length : Int)) = true := decide_eq_true (by omega)
          have g2 : decide (j < T.length) = true := decide_eq_true hjT
          have g3 : decide (v < u) = true := decide_eq_true h1
          clear h1 HLT HGE HLD
          go_wp2
          go_roundw
          case rel => exact ⟨j + 1, by omega, by go_num, SS, HB⟩
          case measure => simp [RowKit.intOf]; omega
        · have hjd : j = ld := by omega
          subst hjd
          by_cases hdup : ∃ iv p, T[j]? = some (v, iv, p)
          · obtain ⟨iv, p, hy⟩ := hdup
            have HINS : Hid (∀ iv', splitP V gg (k + 1) = datT (T.set j (v, iv', p ++ [(tn : Int)]))) := fun iv' => by
              rw [HK2.out, datT_set, insP_old v tn (datT T) p (by rw [datT_lead, ← HLD.out]; exact datT_get hy), datT_lead, ← HLD.out]
            have hpl := HLS.out _ (List.mem_of_getElem? hy)
            simp only at hpl
            obtain ⟨ag, acap, he, hcap, hjT, ca⟩ := vals_at (x := .int .i64 v) (j := j) SS.out.2.1 (by rw [List.getElem?_map, hy]; rfl)
            simp only [Value.slice.injEq, true_and] at he
            obtain ⟨rfl, rfl⟩ := he
            obtain ⟨og, ocap, he, hocap, _, co⟩ := vals_at (x := iv) (j := j) SS.out.1 (by rw [List.getElem?_map, hy]; rfl)
            simp only [Value.slice.injEq, true_and] at he
            obtain ⟨rfl, rfl⟩ := he
            have hiv := SS.out.2.2.1 _ (List.mem_of_getElem? hy)
            have hapo := SS.out.apart.2.1 _ (List.mem_of_getElem? hy)
            obtain ⟨ia, ic, hif⟩ := owns_form hiv
            simp only at hif hiv hapo
            subst hif
            have HAPO := Lib.hid hapo
            have HIV := Lib.hid hiv
            have HY := Lib.hid hy
            have g1 : decide ((j : Int) < (T.length : Int)) = true := decide_eq_true (by omega)
            have g2 : decide (j < T.length) = true := decide_eq_true hjT
            have g3 : decide (v < v) = false := decide_eq_false (by omega)
            have hsz : D ≤ wr.heap.size := by have h7 := HB.out.size; have h8 := HD.out; omega
            clear hiv hy hapo HLT HGE HLD HK2 HLS
            go_wp2_with (at_builtin; refine wpList_pushL rfl (.tmp 62) (.tmp 64) 24 rfl D 3 Tryz.underlying24 hi hz0 hz1 hz2 rfl (by decide) [.int .i64 tn] rfl (by intro u hu; simp at hu; subst hu; rfl) rfl (by first | rfl | (show Value.slice (some ⟨_, 0, none⟩) 1 1 = _; simp)) HIV.out (by unfold maxLen; omega) (by omega) hsz ?_; intro g5 c5 w5 o5 gr5 at5 lt5; have K5 := Lib.hid (kept_apart SS.out.1 HAPO.out.symm gr5); have hcs := K5.out.cellAt j (by simp; omega); have hfr := K5.out.frozenAt j; obtain ⟨us, hus⟩ := owns_some K5.out j hjT; rw [hus] at hcs; have HG5 := Lib.hid gr5; have HO5 := Lib.hid o5; have HA5 := Lib.hid at5; clear gr5 o5 at5 hus)
            go_roundw
            case rel => exact ⟨k + 1, T.set j (v, .slice (some ⟨g5, 0, none⟩) (p.length + 1) c5, p ++ [(tn : Int)]), by omega, by go_num, (HINS.out _).symm, by rw [List.length_set]; omega, SplitSt.old (m := 0) SS.out HY.out HG5.out HO5.out HA5.out, (HB.out.grown HG5.out hsz (fun q hq => (HIV.out.lt q hq).1)).setCell (SS.out.1.lt og rfl).1 _⟩
            case measure => simp [RowKit.intOf]; omega
          · have HINS : Hid (∀ iv', splitP V gg (k + 1) = datT (gapA T j (v, iv', [(tn : Int)]))) := fun iv' => by
              rw [HK2.out, datT_gap, insP_new v tn (datT T) (fun x hx e => by
                rw [datT_lead, ← HLD.out] at hx
                obtain ⟨iv, h⟩ := datT_some hx
                exact hdup ⟨iv, x.2, by rw [h, e]⟩), datT_lead, ← HLD.out]
            by_cases hjT : j < T.length
            · obtain ⟨y, hy⟩ : ∃ y, T[j]? = some y := ⟨_, List.getElem?_eq_getElem hjT⟩
              have h1 := HGE.out y hy
              have h2 : y.1 ≠ v := fun e => hdup ⟨y.2.1, y.2.2, by rw [hy, ← e]⟩
              obtain ⟨ag, acap, he, hcap, _, ca⟩ := vals_at (x := .int .i64 y.1) (j := j) SS.out.2.1 (by rw [List.getElem?_map, hy]; rfl)
              simp only [Value.slice.injEq, true_and] at he
              obtain ⟨rfl, rfl⟩ := he
              clear hy
              generalize y.1 = yu at *
              have g1 : decide ((j : Int) < (T.length : Int)) = true := decide_eq_true (by omega)
              have g2 : decide (j < T.length) = true := decide_eq_true hjT
              have g3 : decide (v < yu) = false := decide_eq_false (by omega)
              have g4 : (yu == v) = false := beq_eq_false_iff_ne.2 h2
              clear h1 h2
              clear HLT HGE HLD HK2 HLS hdup
              have hsz : D ≤ wr.heap.size := by have h7 := HB.out.size; have h8 := HD.out; omega
              go_wp2_with (first | (at_builtin; refine wpList_pushL rfl (.tmp 67) (.tmp 68) 24 rfl D 3 Tryz.underlying24 hi hz0 hz1 hz2 rfl (by decide) [.int .i64 0] rfl (by intro u hu; simp at hu; subst hu; rfl) rfl (by first | rfl | (show Value.slice (some ⟨_, 0, none⟩) 1 1 = _; simp)) SS.out.2.1 (by unfold maxLen; omega) (by omega) hsz ?_; intro g5 c5 w5 o5 gr5 at5 lt5; have G1 := Lib.hid (SS.out.grow1 gr5 at5); have O5 := Lib.hid o5; have HB5 := Lib.hid (HB.out.grown gr5 hsz (fun q hq => (SS.out.2.1.lt q hq).1)); have hsz5 : D ≤ w5.heap.size := (by have h7 := HB5.out.size; have h8 := HD.out; omega); clear gr5 at5 o5) | (at_builtin; refine wpList_pushL rfl (.tmp 70) (.tmp 71) 32 rfl D 24 Tryz.underlying32 li lz0 lz1 lz2 rfl (by decide) [.slice none 0 0] rfl (by intro u hu; simp at hu; subst hu; rfl) rfl (by first | rfl | (show Value.slice (some ⟨_, 0, none⟩) 1 1 = _; simp)) G1.out.1 (by unfold maxLen; omega) (by omega) hsz5 ?_; intro g6 c6 w6 o6 gr6 at6 lt6; have G2 := Lib.hid (SS.out.grow2 G1.out.1 G1.out.2.1 O5.out G1.out.2.2.2 gr6 at6); have O6 := Lib.hid o6; have HB6 := Lib.hid (HB5.out.grown gr6 hsz5 (fun q hq => (G1.out.1.lt q hq).1)); clear gr6 at6 o6))
              have HNT := Lib.hid G2.out.2.2.1
              have HNA := Lib.hid G1.out.2.2.1
              have hn1 : g6 ≠ g5 := G2.out.2.2.2
              have hn2 : g5 ≠ g6 := hn1.symm
              have HAP : Hid (ApartL (T.map fun x => x.2.1)) := (List.pairwise_cons.1 (List.pairwise_cons.1 SS.out.2.2.2).2).2
              have RO : Hid (w6.ownsRow D 24 1 (.slice (some ⟨g6, 0, none⟩) (T.length + 1) c6) (T.length + 1) (gapA (T.map fun x => x.2.1) T.length (.slice none 0 0))) := by
                have e1 := gapA_end (L := T.map fun x => x.2.1) (u := Value.slice none 0 0)
                rw [List.length_map] at e1
                rw [e1]
                exact O6.out
              have RA : Hid (w6.ownsRow D 3 1 (.slice (some ⟨g5, 0, none⟩) (T.length + 1) c5) (T.length + 1) ((gapA (T.map Prod.fst) T.length 0).map (Value.int .i64))) := by
                have e1 := gapA_end (L := T.map Prod.fst) (u := (0 : Int))
                rw [List.length_map] at e1
                rw [e1, List.map_append, List.map_map]
                exact G2.out.1
              have RT := Lib.hid G2.out.2.1
              clear G1 G2 O5 O6 HB5 SS HB lt5 lt6
              go_loopw [14] (fun iv wr => ∃ (i : Nat) (u : Int) (uv : Value), j ≤ i ∧ i ≤ T.length ∧ iv = .int .i64 i ∧ Hid (wr.ownsRow D 24 1 (.slice (some ⟨g6, 0, none⟩) (T.length + 1) c6) (T.length + 1) (gapA (T.map fun x => x.2.1) i uv)) ∧ Hid (wr.ownsRow D 3 1 (.slice (some ⟨g5, 0, none⟩) (T.length + 1) c5) (T.length + 1) ((gapA (T.map Prod.fst) i u).map (Value.int .i64))) ∧ Hid (OwnT wr D 3 T) ∧ Hid (Below D w1 wr)) (fun iv _ => (RowKit.intOf iv).toNat)
              case atStart => exact ⟨T.length, 0, .slice none 0 0, by omega, Nat.le_refl _, by go_num, RO, RA, RT, HB6⟩
              case round =>
                clear RO RA RT HB6
                obtain ⟨i, u, uv, hji, hiT, rfl, RO, RA, RT, HB⟩ := hrel
                have hsz7 : D ≤ wr.heap.size := by have h7 := HB.out.size; have h8 := HD.out; omega
                have hD5 : D ≤ g5 := (RA.out.lt g5 rfl).1
                have hD6 : D ≤ g6 := (RO.out.lt g6 rfl).1
                have hl5 : g5 < wr.heap.size := (RA.out.lt g5 rfl).2
                have hl6 : g6 < wr.heap.size := (RO.out.lt g6 rfl).2
                by_cases hij : j < i
                · obtain ⟨i', rfl⟩ : ∃ i', i = i' + 1 := ⟨i - 1, by omega⟩
                  obtain ⟨y, hy⟩ : ∃ y, T[i']? = some y := ⟨_, List.getElem?_eq_getElem (by omega)⟩
                  have ly1 : (T.map Prod.fst)[i']? = some y.1 := by rw [List.getElem?_map, hy]; rfl
                  have ly2 : (T.map fun x => x.2.1)[i']? = some y.2.1 := by rw [List.getElem?_map, hy]; rfl
                  have c1 := owns_cell RA.out i' (by omega) (u := .int .i64 y.1) (Lib.hid (by rw [List.getElem?_map, gapA_get (by omega) (by simp; omega), ly1]; rfl))
                  have c2 := owns_cell RO.out i' (by omega) (u := y.2.1) (Lib.hid (by rw [gapA_get (by omega) (by simp; omega), ly2]))
                  obtain ⟨s1, hs1⟩ := owns_some RA.out (i' + 1) (by omega)
                  obtain ⟨s2, hs2⟩ := owns_some RO.out (i' + 1) (by omega)
                  have c3 := owns_cell RA.out (i' + 1) (by omega) (Lib.hid hs1)
                  have c4 := owns_cell RO.out (i' + 1) (by omega) (Lib.hid hs2)
                  have f3 := RA.out.frozenAt (i' + 1)
                  have f4 := RO.out.frozenAt (i' + 1)
                  have F1 : Hid (((gapA (T.map Prod.fst) (i' + 1) u).map (Value.int .i64)).set (i' + 1) (.int .i64 y.1) = (gapA (T.map Prod.fst) i' y.1).map (Value.int .i64)) := by
                    show _ = _
                    rw [← List.map_set, gapA_set (by simp; omega), gapA_step ly1]
                  have F2 : Hid ((gapA (T.map fun x => x.2.1) (i' + 1) uv).set (i' + 1) y.2.1 = gapA (T.map fun x => x.2.1) i' y.2.1) := by
                    show _ = _
                    rw [gapA_set (by simp; omega), gapA_step ly2]
                  obtain ⟨ya, yc, hyf⟩ := owns_form (RT.out y (List.mem_of_getElem? hy))
                  generalize y.2.1 = yv at *
                  generalize y.1 = yi at *
                  subst hyf
                  clear hs1 hs2 ly1 ly2 hy
                  go_wp2
                  go_roundw
                  case rel => exact ⟨i', yi, _, by omega, by omega, by go_num, Lib.hid (by rw [← F2.out]; exact ((ownsRow_setCell_other RO.out (by simpa [Value.ownBlock] using hn1) _).stored (i' + 1) _).1), Lib.hid (by rw [← F1.out]; exact ownsRow_setCell_other (RA.out.stored (i' + 1) _).1 (by simpa [Value.ownBlock] using hn2) _), Lib.hid ((RT.out.store (a := ⟨g5, i' + 1, none⟩) HNA.out _).store (a := ⟨g6, i' + 1, none⟩) HNT.out _), Lib.hid ((HB.out.setCell hD5 _).setCell hD6 _)⟩
                  case measure => simp [RowKit.intOf]
                · have hij' : j = i := by omega
                  subst hij'
                  obtain ⟨s1, hs1⟩ := owns_some RA.out j (by omega)
                  obtain ⟨s2, hs2⟩ := owns_some RO.out j (by omega)
                  have c3 := owns_cell RA.out j (by omega) (Lib.hid hs1)
                  have c4 := owns_cell RO.out j (by omega) (Lib.hid hs2)
                  have f3 := RA.out.frozenAt j
                  have f4 := RO.out.frozenAt j
                  have F1 : Hid (((gapA (T.map Prod.fst) j u).map (Value.int .i64)).set j (.int .i64 v) = (gapA (T.map Prod.fst) j v).map (Value.int .i64)) := by
                    show _ = _
                    rw [← List.map_set, gapA_set (by simp; omega)]
                  have F2 : Hid (∀ nv, (gapA (T.map fun x => x.2.1) j uv).set j nv = gapA (T.map fun x => x.2.1) j nv) := fun nv => by
                    rw [gapA_set (by simp; omega)]
                  clear hs1 hs2
                  go_wp2
                  go_roundw
                  case rel =>
                    refine ⟨k + 1, gapA T j (v, .slice (some ⟨wr.heap.size, 0, none⟩) 1 1, [(tn : Int)]), by omega, by go_num, (HINS.out _).symm, by rw [gapA_len hiT]; omega, SplitSt.new (w' := w) (D := wr.heap.size) ?_ ?_ ?_ HAP.out ?_ HNT.out HNA.out (fun x hx e => by have := (RT.out.lt hx e).2; omega) hn1 (by omega) (by omega) hiT, ?_⟩
                    · rw [← F2.out]
                      exact ((ownsRow_setCell_other RO.out (by simpa [Value.ownBlock] using hn1) _).stored j _).1.alloc _
                    · rw [← F1.out]
                      exact (ownsRow_setCell_other (RA.out.stored j _).1 (by simpa [Value.ownBlock] using hn2) _).alloc _
                    · exact fun x hx => (((RT.out.store (a := ⟨g5, j, none⟩) HNA.out _).store (a := ⟨g6, j, none⟩) HNT.out _) x hx).alloc _
                    · have o9 := World.ownsRow_lit (e := 3) (size := 1) ((wr.setCell ⟨g5, j, none⟩ (.int .i64 v)).setCell ⟨g6, j, none⟩ (.slice (some ⟨wr.heap.size, 0, none⟩) 1 1)) #[.int .i64 tn] 1 (Nat.le_refl _) (by decide) rfl
                      have e9 : ((wr.setCell ⟨g5, j, none⟩ (.int .i64 v)).setCell ⟨g6, j, none⟩ (.slice (some ⟨wr.heap.size, 0, none⟩) 1 1)).heap.size = wr.heap.size := by simp [World.setCell]
                      rw [e9] at o9
                      exact owns_mono o9 hsz7
                    · exact ((HB.out.setCell hD5 _).setCell hD6 _).alloc (by simp [World.setCell]; omega) _
                  case measure => simp [RowKit.intOf]; omega
            · have g1 : decide ((j : Int) < (T.length : Int)) = false := decide_eq_false (by omega)
              have g2 : decide (j < T.length) = false := decide_eq_false hjT
              clear HLT HGE HLD HK2 HLS hdup
              have hsz : D ≤ wr.heap.size := by have h7 := HB.out.size; have h8 := HD.out; omega
              go_wp2_with (first | (at_builtin; refine wpList_pushL rfl (.tmp 67) (.tmp 68) 24 rfl D 3 Tryz.underlying24 hi hz0 hz1 hz2 rfl (by decide) [.int .i64 0] rfl (by intro u hu; simp at hu; subst hu; rfl) rfl (by first | rfl | (show Value.slice (some ⟨_, 0, none⟩) 1 1 = _; simp)) SS.out.2.1 (by unfold maxLen; omega) (by omega) hsz ?_; intro g5 c5 w5 o5 gr5 at5 lt5; have G1 := Lib.hid (SS.out.grow1 gr5 at5); have O5 := Lib.hid o5; have HB5 := Lib.hid (HB.out.grown gr5 hsz (fun q hq => (SS.out.2.1.lt q hq).1)); have hsz5 : D ≤ w5.heap.size := (by have h7 := HB5.out.size; have h8 := HD.out; omega); clear gr5 at5 o5) | (at_builtin; refine wpList_pushL rfl (.tmp 70) (.tmp 71) 32 rfl D 24 Tryz.underlying32 li lz0 lz1 lz2 rfl (by decide) [.slice none 0 0] rfl (by intro u hu; simp at hu; subst hu; rfl) rfl (by first | rfl | (show Value.slice (some ⟨_, 0, none⟩) 1 1 = _; simp)) G1.out.1 (by unfold maxLen; omega) (by omega) hsz5 ?_; intro g6 c6 w6 o6 gr6 at6 lt6; have G2 := Lib.hid (SS.out.grow2 G1.out.1 G1.out.2.1 O5.out G1.out.2.2.2 gr6 at6); have O6 := Lib.hid o6; have HB6 := Lib.hid (HB5.out.grown gr6 hsz5 (fun q hq => (G1.out.1.lt q hq).1)); clear gr6 at6 o6))
              have HNT := Lib.hid G2.out.2.2.1
              have HNA := Lib.hid G1.out.2.2.1
              have hn1 : g6 ≠ g5 := G2.out.2.2.2
              have hn2 : g5 ≠ g6 := hn1.symm
              have HAP : Hid (ApartL (T.map fun x => x.2.1)) := (List.pairwise_cons.1 (List.pairwise_cons.1 SS.out.2.2.2).2).2
              have RO : Hid (w6.ownsRow D 24 1 (.slice (some ⟨g6, 0, none⟩) (T.length + 1) c6) (T.length + 1) (gapA (T.map fun x => x.2.1) T.length (.slice none 0 0))) := by
                have e1 := gapA_end (L := T.map fun x => x.2.1) (u := Value.slice none 0 0)
                rw [List.length_map] at e1
                rw [e1]
                exact O6.out
              have RA : Hid (w6.ownsRow D 3 1 (.slice (some ⟨g5, 0, none⟩) (T.length + 1) c5) (T.length + 1) ((gapA (T.map Prod.fst) T.length 0).map (Value.int .i64))) := by
                have e1 := gapA_end (L := T.map Prod.fst) (u := (0 : Int))
                rw [List.length_map] at e1
                rw [e1, List.map_append, List.map_map]
                exact G2.out.1
              have RT := Lib.hid G2.out.2.1
              clear G1 G2 O5 O6 HB5 SS HB lt5 lt6
              go_loopw [14] (fun iv wr => ∃ (i : Nat) (u : Int) (uv : Value), j ≤ i ∧ i ≤ T.length ∧ iv = .int .i64 i ∧ Hid (wr.ownsRow D 24 1 (.slice (some ⟨g6, 0, none⟩) (T.length + 1) c6) (T.length + 1) (gapA (T.map fun x => x.2.1) i uv)) ∧ Hid (wr.ownsRow D 3 1 (.slice (some ⟨g5, 0, none⟩) (T.length + 1) c5) (T.length + 1) ((gapA (T.map Prod.fst) i u).map (Value.int .i64))) ∧ Hid (OwnT wr D 3 T) ∧ Hid (Below D w1 wr)) (fun iv _ => (RowKit.intOf iv).toNat)
              case atStart => exact ⟨T.length, 0, .slice none 0 0, by omega, Nat.le_refl _, by go_num, RO, RA, RT, HB6⟩
              case round =>
                clear RO RA RT HB6
                obtain ⟨i, u, uv, hji, hiT, rfl, RO, RA, RT, HB⟩ := hrel
                have hsz7 : D ≤ wr.heap.size := by have h7 := HB.out.size; have h8 := HD.out; omega
                have hD5 : D ≤ g5 := (RA.out.lt g5 rfl).1
                have hD6 : D ≤ g6 := (RO.out.lt g6 rfl).1
                have hl5 : g5 < wr.heap.size := (RA.out.lt g5 rfl).2
                have hl6 : g6 < wr.heap.size := (RO.out.lt g6 rfl).2
                by_cases hij : j < i
                · exact absurd hij (by omega)
                · have hij' : j = i := by omega
                  subst hij'
                  obtain ⟨s1, hs1⟩ := owns_some RA.out j (by omega)
                  obtain ⟨s2, hs2⟩ := owns_some RO.out j (by omega)
                  have c3 := owns_cell RA.out j (by omega) (Lib.hid hs1)
                  have c4 := owns_cell RO.out j (by omega) (Lib.hid hs2)
                  have f3 := RA.out.frozenAt j
                  have f4 := RO.out.frozenAt j
                  have F1 : Hid (((gapA (T.map Prod.fst) j u).map (Value.int .i64)).set j (.int .i64 v) = (gapA (T.map Prod.fst) j v).map (Value.int .i64)) := by
                    show _ = _
                    rw [← List.map_set, gapA_set (by simp; omega)]
                  have F2 : Hid (∀ nv, (gapA (T.map fun x => x.2.1) j uv).set j nv = gapA (T.map fun x => x.2.1) j nv) := fun nv => by
                    rw [gapA_set (by simp; omega)]
                  clear hs1 hs2
                  go_wp2
                  go_roundw
                  case rel =>
                    refine ⟨k + 1, gapA T j (v, .slice (some ⟨wr.heap.size, 0, none⟩) 1 1, [(tn : Int)]), by omega, by go_num, (HINS.out _).symm, by rw [gapA_len hiT]; omega, SplitSt.new (w' := w) (D := wr.heap.size) ?_ ?_ ?_ HAP.out ?_ HNT.out HNA.out (fun x hx e => by have := (RT.out.lt hx e).2; omega) hn1 (by omega) (by omega) hiT, ?_⟩
                    · rw [← F2.out]
                      exact ((ownsRow_setCell_other RO.out (by simpa [Value.ownBlock] using hn1) _).stored j _).1.alloc _
                    · rw [← F1.out]
                      exact (ownsRow_setCell_other (RA.out.stored j _).1 (by simpa [Value.ownBlock] using hn2) _).alloc _
                    · exact fun x hx => (((RT.out.store (a := ⟨g5, j, none⟩) HNA.out _).store (a := ⟨g6, j, none⟩) HNT.out _) x hx).alloc _
                    · have o9 := World.ownsRow_lit (e := 3) (size := 1) ((wr.setCell ⟨g5, j, none⟩ (.int .i64 v)).setCell ⟨g6, j, none⟩ (.slice (some ⟨wr.heap.size, 0, none⟩) 1 1)) #[.int .i64 tn] 1 (Nat.le_refl _) (by decide) rfl
                      have e9 : ((wr.setCell ⟨g5, j, none⟩ (.int .i64 v)).setCell ⟨g6, j, none⟩ (.slice (some ⟨wr.heap.size, 0, none⟩) 1 1)).heap.size = wr.heap.size := by simp [World.setCell]
                      rw [e9] at o9
                      exact owns_mono o9 hsz7
                    · exact ((HB.out.setCell hD5 _).setCell hD6 _).alloc (by simp [World.setCell]; omega) _
                  case measure => simp [RowKit.intOf]; omega
    · obtain rfl : k = ng := by omega
      go_wp2
      go_ret
      refine ⟨_, T.map Prod.snd, rfl, ?_, (SS.out.ll).mono (by have := HD.out; omega), ?_⟩
      · rw [← hT.out]
        unfold datT
        simp [List.map_map, Function.comp_def]
      · have := HB.out
        rw [← HD.out] at this
        exact HE1.out.trans (this.mono hD1)
end Go.Proofs.YteciobkjfmddcaaGreat
set_option linter.unusedVariables false
namespace Go.Proofs.YteciobkjfmddcaaGreat
open Go.RowKit

theorem rankP_ind (b : BookD) {P : List Int → Nat → List (List Int) → Prop} (h0 : ∀ s, P [] s []) (h1 : ∀ G s, G ≠ [] → (G.length = 1 ∨ b.nl ≤ s) → P G s [G])
    (h2 : ∀ G s, G ≠ [] → G.length ≠ 1 → s < b.nl → (∀ p ∈ partsL b (b.l s) (getI G) G.length, P p (nextS b (partsL b (b.l s) (getI G) G.length).length s) (rankP b p (nextS b (partsL b (b.l s) (getI G) G.length).length s))) → P G s (rankP b G s)) : ∀ G s, P G s (rankP b G s) := by
  have H : ∀ m G s, rankM b.nl G.length s < m → P G s (rankP b G s) := by
    intro m
    induction m with
    | zero => intro G s h; exact absurd h (Nat.not_lt_zero _)
    | succ m ih =>
      intro G s h
      by_cases hG : G = []
      · subst hG; rw [rankP_nil]; exact h0 s
      by_cases hs : G.length = 1 ∨ b.nl ≤ s
      · rw [rankP_one b hG hs]; exact h1 G s hG hs
      · exact h2 G s hG (by omega) (by omega) fun p hp => ih p _ (by have := rankM_lt (b := b) (G := G) (s := s) (by omega) hp; omega)
  exact fun G s => H _ G s (Nat.lt_succ_self _)
theorem parts_sum (b : BookD) (key : Int) (gg : Nat → Int) (n : Nat) : ((partsL b key gg n).map List.length).sum = n := by
  have h := splitP_sum (bookV b key gg n) gg n
  unfold lenS at h
  unfold partsL
  rw [List.map_map]
  exact h
theorem flat_le {f g : List Int → Nat} : ∀ (L : List (List Int)), (∀ p ∈ L, f p ≤ g p) → (L.map f).sum ≤ (L.map g).sum
  | [], _ => Nat.le_refl _
  | p :: L, h => by
    have h1 := flat_le (f := f) (g := g) L fun q hq => h q (List.mem_cons_of_mem _ hq)
    have h2 := h p (List.mem_cons_self ..)
    simp only [List.map_cons, List.sum_cons]
    omega
theorem rankP_len (b : BookD) : ∀ G s, (rankP b G s).length ≤ G.length := by
  refine rankP_ind b (P := fun G _ L => L.length ≤ G.length) (fun s => by simp) (fun G s hG _ => ?_) fun G s hG h1 hs ih => ?_
  · have := List.length_pos_iff.2 hG
    simp; omega
  · show (rankP b G s).length ≤ G.length
    rw [rankP_step b hG h1 hs, List.length_flatMap]
    refine Nat.le_trans (flat_le (g := List.length) _ fun p hp => ih p hp) ?_
    rw [parts_sum]
    exact Nat.le_refl _
theorem take_flat {α β : Type} (f : α → List β) (L : List α) (k : Nat) : ((L.take k).flatMap f).length ≤ (L.flatMap f).length := by
  conv => rhs; rw [← List.take_append_drop k L, List.flatMap_append, List.length_append]
  omega
theorem take_flat_succ {α β : Type} (f : α → List β) (L : List α) (k : Nat) {x : α} (h : L[k]? = some x) : (L.take (k + 1)).flatMap f = (L.take k).flatMap f ++ f x := by
  obtain ⟨hk, rfl⟩ := List.getElem?_eq_some_iff.1 h
  rw [← List.take_append_getElem hk, List.flatMap_append]
  simp
theorem getI_range (G : List Int) : ((List.range G.length).map fun j => Value.int .i64 (getI G j)) = G.map (Value.int .i64) := by
  apply List.ext_getElem?
  intro j
  rw [List.getElem?_map, List.getElem?_map]
  by_cases hj : j < G.length
  · rw [List.getElem?_range hj, List.getElem?_eq_getElem hj]
    simp [getI, hj]
  · rw [List.getElem?_eq_none (by simp; omega), List.getElem?_eq_none (by omega)]
    rfl
theorem LL.rec {w : World} {B : Nat} {v : Value} {T : List (Value × List Int)} (h : LL w B v T) (hn : T.length ≤ 9223372036854775807) :
    ∃ g, RecRow 1 w v T.length g ∧ (∀ i, i < T.length → (g i).length = 1) ∧ (∀ i, i < T.length → ∀ u ∈ g i, u.oneCell' = true) ∧ flatR g T.length = T.map Prod.fst := by
  refine ⟨fun i => [(T.map Prod.fst).getD i undef], RecRow.of_owns h.1 hn (fun i hi j u hu => ?_) (fun _ _ => by simp), fun _ _ => by simp, fun i hi u hu => ?_, ?_⟩
  · cases j with
    | zero =>
      simp only [List.getElem?_cons_zero, Option.some.injEq] at hu
      subst hu
      rw [Nat.mul_one, Nat.add_zero, List.getD_eq_getElem?_getD, List.getElem?_eq_getElem (by simpa using hi)]
      rfl
    | succ j => simp at hu
  · rw [List.mem_singleton.1 hu, List.getD_eq_getElem?_getD, List.getElem?_eq_getElem (by simpa using hi)]
    simp only [List.getElem_map, Option.getD_some]
    exact one_of_slice (h.2.1 _ (List.getElem_mem hi))
  · unfold flatR
    apply List.ext_getElem?
    intro j
    have e : ∀ n, (List.range n).flatMap (fun i => [(T.map Prod.fst).getD i undef]) = (List.range n).map fun i => (T.map Prod.fst).getD i undef := fun n => by
      induction n with
      | zero => rfl
      | succ n ih => rw [List.range_succ, List.flatMap_append, List.map_append, ih]; simp
    rw [e, List.getElem?_map]
    by_cases hj : j < T.length
    · rw [List.getElem?_range hj]
      simp [hj]
    · rw [List.getElem?_eq_none (by simp; omega), List.getElem?_eq_none (by simp; omega)]
      rfl
theorem LL.nil {w : World} : LL (w.alloc (.cells #[] 24)) w.heap.size (.slice (some ⟨w.heap.size, 0, none⟩) 0 0) [] :=
  ⟨World.ownsRow_lit (e := 24) (size := 1) w #[] 0 (Nat.le_refl _) (by decide) rfl, ⟨(fun x hx => by cases hx), (by unfold ApartL; simp)⟩⟩
theorem LL.one {w : World} {B : Nat} {v : Value} {G : List Int} (h : w.ownsRow B 3 1 v G.length (G.map (Value.int .i64))) (hB : B ≤ w.heap.size) : LL (w.alloc (.cells #[v] 24)) B (.slice (some ⟨w.heap.size, 0, none⟩) 1 1) [(v, G)] := by
  refine ⟨owns_mono (World.ownsRow_lit (e := 24) (size := 1) w #[v] 1 (Nat.le_refl _) (by decide) rfl) hB, fun x hx => ?_, ?_⟩
  · rw [List.mem_singleton.1 hx]
    exact h.alloc _
  · refine List.pairwise_cons.2 ⟨fun z hz => ?_, by simp⟩
    rw [List.mem_singleton.1 hz]
    intro k h1 h2
    have := (h.lt k h2).2
    have h3 : w.heap.size = k := by simpa [Value.ownBlock] using h1
    omega
end Go.Proofs.YteciobkjfmddcaaGreat
set_option linter.unusedVariables false
namespace Go.Proofs.YteciobkjfmddcaaGreat
open Go.RowKit

theorem insP_perm (v t : Int) : ∀ L : List (Int × List Int), ((insP v t L).flatMap Prod.snd).Perm (t :: L.flatMap Prod.snd)
  | [] => by simp [insP]
  | (u, p) :: r => by
    unfold insP
    split
    · simp only [List.flatMap_cons]
      exact ((insP_perm v t r).append_left p).trans List.perm_middle
    · split
      · simp only [List.flatMap_cons]
        rw [List.append_assoc]
        exact List.perm_middle
      · simp
theorem splitP_perm (V gg : Nat → Int) : ∀ k, ((splitP V gg k).flatMap Prod.snd).Perm ((List.range k).map gg)
  | 0 => by simp [splitP]
  | k + 1 => by
    unfold splitP
    rw [List.range_succ, List.map_append]
    exact (insP_perm _ _ _).trans (((splitP_perm V gg k).cons _).trans (List.perm_append_singleton _ _).symm)
theorem range_getI (G : List Int) : (List.range G.length).map (getI G) = G := by
  apply List.ext_getElem?
  intro j
  rw [List.getElem?_map]
  by_cases hj : j < G.length
  · rw [List.getElem?_range hj]; simp [getI, hj]
  · rw [List.getElem?_eq_none (by simp; omega), List.getElem?_eq_none (by omega)]; rfl
theorem parts_perm (b : BookD) (key : Int) (G : List Int) : (partsL b key (getI G) G.length).flatten.Perm G := by
  have h := splitP_perm (bookV b key (getI G) G.length) (getI G) G.length
  rw [range_getI] at h
  unfold partsL
  rw [← List.flatMap_def]
  exact h
theorem insP_val {V : Nat → Int} {v t : Int} (ht : V t.toNat = v) : ∀ L : List (Int × List Int), (∀ x ∈ L, ∀ u ∈ x.2, V u.toNat = x.1) → ∀ x ∈ insP v t L, ∀ u ∈ x.2, V u.toNat = x.1
  | [], _, x, hx, u, hu => by
    unfold insP at hx
    rw [List.mem_singleton.1 hx] at hu ⊢
    rw [List.mem_singleton.1 hu]; exact ht
  | (q, p) :: r, h, x, hx, u, hu => by
    have hr : ∀ x ∈ r, ∀ u ∈ x.2, V u.toNat = x.1 := fun x hx => h x (List.mem_cons_of_mem _ hx)
    have h0 := h (q, p) (List.mem_cons_self ..)
    unfold insP at hx
    split at hx
    · rcases List.mem_cons.1 hx with rfl | hx
      · exact h0 u hu
      · exact insP_val ht r hr x hx u hu
    · split at hx
      · next hq =>
        rcases List.mem_cons.1 hx with rfl | hx
        · rcases List.mem_append.1 hu with hu | hu
          · exact h0 u hu
          · rw [List.mem_singleton.1 hu, ht]; exact hq.symm
        · exact hr x hx u hu
      · rcases List.mem_cons.1 hx with rfl | hx
        · rw [List.mem_singleton.1 hu]; exact ht
        · exact h x hx u hu
theorem splitP_val (V gg : Nat → Int) : ∀ k, ∀ x ∈ splitP V gg k, ∀ u ∈ x.2, V u.toNat = x.1
  | 0, x, hx => by cases hx
  | k + 1, x, hx => insP_val rfl _ (splitP_val V gg k) x hx
theorem insP_fst {v t : Int} : ∀ L : List (Int × List Int), ∀ x ∈ insP v t L, x.1 = v ∨ ∃ y ∈ L, y.1 = x.1
  | [], x, hx => by unfold insP at hx; rw [List.mem_singleton.1 hx]; exact .inl rfl
  | (q, p) :: r, x, hx => by
    unfold insP at hx
    split at hx
    · rcases List.mem_cons.1 hx with rfl | hx
      · exact .inr ⟨_, List.mem_cons_self .., rfl⟩
      · rcases insP_fst r x hx with h | ⟨y, hy, h⟩
        · exact .inl h
        · exact .inr ⟨y, List.mem_cons_of_mem _ hy, h⟩
    · split at hx
      · rcases List.mem_cons.1 hx with rfl | hx
        · exact .inr ⟨_, List.mem_cons_self .., rfl⟩
        · exact .inr ⟨x, List.mem_cons_of_mem _ hx, rfl⟩
      · rcases List.mem_cons.1 hx with rfl | hx
        · exact .inl rfl
        · exact .inr ⟨x, hx, rfl⟩
theorem insP_desc {v t : Int} : ∀ L : List (Int × List Int), L.Pairwise (fun a b => b.1 < a.1) → (insP v t L).Pairwise (fun a b => b.1 < a.1)
  | [], _ => by simp [insP]
  | (q, p) :: r, h => by
    have h1 := List.pairwise_cons.1 h
    unfold insP
    split
    · next hv =>
      refine List.pairwise_cons.2 ⟨fun x hx => ?_, insP_desc r h1.2⟩
      rcases insP_fst r x hx with e | ⟨y, hy, e⟩
      · rw [e]; exact hv
      · rw [← e]; exact h1.1 y hy
    · split
      · exact List.pairwise_cons.2 ⟨h1.1, h1.2⟩
      · next hv hq =>
        refine List.pairwise_cons.2 ⟨fun x hx => ?_, h⟩
        rcases List.mem_cons.1 hx with rfl | hx
        · show q < v; omega
        · have := h1.1 x hx
          show x.1 < v
          have h3 : x.1 < q := this
          omega
theorem splitP_desc (V gg : Nat → Int) : ∀ k, (splitP V gg k).Pairwise (fun a b => b.1 < a.1)
  | 0 => List.Pairwise.nil
  | k + 1 => insP_desc _ (splitP_desc V gg k)
theorem flat_flat {α β : Type} (f : α → List (List β)) : ∀ L : List α, (L.flatMap f).flatten = L.flatMap fun x => (f x).flatten
  | [] => rfl
  | x :: L => by rw [List.flatMap_cons, List.flatten_append, List.flatMap_cons, flat_flat f L]
theorem flat_perm {f : List Int → List Int} : ∀ L : List (List Int), (∀ p ∈ L, (f p).Perm p) → (L.flatMap f).Perm L.flatten
  | [], _ => List.Perm.refl _
  | p :: L, h => by
    rw [List.flatMap_cons, List.flatten_cons]
    exact (h p (List.mem_cons_self ..)).append (flat_perm L fun q hq => h q (List.mem_cons_of_mem _ hq))
theorem rank_perm (b : BookD) : ∀ G s, (rankP b G s).flatten.Perm G := by
  refine rankP_ind b (P := fun G _ L => L.flatten.Perm G) (fun s => by simp) (fun G s _ _ => by simp) fun G s hG h1 hs ih => ?_
  show (rankP b G s).flatten.Perm G
  rw [rankP_step b hG h1 hs, flat_flat]
  exact (flat_perm _ fun p hp => ih p hp).trans (parts_perm b _ G)
def seedI (b : BookD) : Prop := ∀ i j, i < b.nf → j < b.nf → ∀ gg n, bookV b 8 gg n i = bookV b 8 gg n j → i = j
theorem same_one {p : List Int} {V : Nat → Int} {v : Int} {n : Nat} (hne : p ≠ []) (hnd : p.Nodup) (hv : ∀ u ∈ p, V u.toNat = v) (hin : ∀ u ∈ p, 0 ≤ u ∧ u < (n : Int)) (hV : ∀ i j, i < n → j < n → V i = V j → i = j) : p.length = 1 := by
  match p, hne, hnd, hv, hin with
  | [], h, _, _, _ => exact absurd rfl h
  | [x], _, _, _, _ => rfl
  | x :: y :: r, _, hnd, hv, hin =>
    have hx := hin x (List.mem_cons_self ..)
    have hy := hin y (List.mem_cons_of_mem _ (List.mem_cons_self ..))
    have e := hV x.toNat y.toNat (by omega) (by omega) ((hv x (List.mem_cons_self ..)).trans (hv y (List.mem_cons_of_mem _ (List.mem_cons_self ..))).symm)
    have : x = y := by omega
    subst this
    simp at hnd
theorem parts_in {b : BookD} {key : Int} {G p : List Int} (hp : p ∈ partsL b key (getI G) G.length) : ∀ u ∈ p, u ∈ G := fun u hu => by
  have h := parts_perm b key G
  exact h.mem_iff.1 (List.mem_flatten.2 ⟨p, hp, hu⟩)
theorem parts_nodup {b : BookD} {key : Int} {G p : List Int} (hG : G.Nodup) (hp : p ∈ partsL b key (getI G) G.length) : p.Nodup := by
  have h := (parts_perm b key G).nodup_iff.2 hG
  exact (List.pairwise_flatten.1 h).1 p hp
theorem rank_ones (b : BookD) (hsd : seedI b) : ∀ G s, G.Nodup → (∀ u ∈ G, 0 ≤ u ∧ u < (b.nf : Int)) → (∃ j, s ≤ j ∧ j < b.nl ∧ b.l j = 8) → ∀ p ∈ rankP b G s, p.length = 1 := by
  refine rankP_ind b (P := fun G s L => G.Nodup → (∀ u ∈ G, 0 ≤ u ∧ u < (b.nf : Int)) → (∃ j, s ≤ j ∧ j < b.nl ∧ b.l j = 8) → ∀ p ∈ L, p.length = 1) (fun s _ _ _ p hp => by cases hp) (fun G s hG h1 _ _ hj p hp => ?_) fun G s hG h1 hs ih hnd hin hj => ?_
  · obtain ⟨j, hj1, hj2, _⟩ := hj
    rw [List.mem_singleton.1 hp]
    rcases h1 with h1 | h1
    · exact h1
    · omega
  · show ∀ p ∈ rankP b G s, p.length = 1
    rw [rankP_step b hG h1 hs]
    intro q hq
    obtain ⟨p, hp, hqp⟩ := List.mem_flatMap.1 hq
    have hpn := parts_nodup hnd hp
    have hpi : ∀ u ∈ p, 0 ≤ u ∧ u < (b.nf : Int) := fun u hu => hin u (parts_in hp u hu)
    by_cases h8 : b.l s = 8
    · have hp1 : p.length = 1 := by
        obtain ⟨x, hx, rfl⟩ := List.mem_map.1 hp
        rw [h8] at hx
        exact same_one (partsL_ne hp) hpn (splitP_val _ _ _ x hx) hpi fun i j hi hj => hsd i j hi hj _ _
      rw [rankP_one b (partsL_ne hp) (.inl hp1)] at hqp
      rw [List.mem_singleton.1 hqp]; exact hp1
    · refine ih p hp hpn hpi ?_ q hqp
      obtain ⟨j, hj1, hj2, hj3⟩ := hj
      refine ⟨j, ?_, hj2, hj3⟩
      unfold nextS
      split
      · exact Nat.zero_le _
      · rcases Nat.lt_or_ge s j with h | h
        · exact h
        · have : s = j := by omega
          subst this
          exact absurd hj3 h8
theorem flat_desc {V : Nat → Int} {f : List Int → List Int} : ∀ L : List (Int × List Int), L.Pairwise (fun a b => b.1 < a.1) → (∀ x ∈ L, ∀ u ∈ f x.2, V u.toNat = x.1) → (L.flatMap fun x => f x.2).Pairwise (fun a b => V b.toNat ≤ V a.toNat)
  | [], _, _ => List.Pairwise.nil
  | x :: L, h, hv => by
    have h1 := List.pairwise_cons.1 h
    rw [List.flatMap_cons]
    refine List.pairwise_append.2 ⟨?_, flat_desc L h1.2 fun y hy => hv y (List.mem_cons_of_mem _ hy), fun a ha c hc => ?_⟩
    · have hx := hv x (List.mem_cons_self ..)
      refine List.Pairwise.imp_of_mem (R := fun _ _ => True) (fun ha hb _ => ?_) (List.pairwise_of_forall fun _ _ => trivial)
      rw [hx _ ha, hx _ hb]
      exact Int.le_refl _
    · obtain ⟨y, hy, hcy⟩ := List.mem_flatMap.1 hc
      rw [hv x (List.mem_cons_self ..) a ha, hv y (List.mem_cons_of_mem _ hy) c hcy]
      exact Int.le_of_lt (h1.1 y hy)
theorem rank_desc (b : BookD) (G : List Int) (h0 : 0 < b.nl) : (rankP b G 0).flatten.Pairwise fun x y => bookV b (b.l 0) (getI G) G.length y.toNat ≤ bookV b (b.l 0) (getI G) G.length x.toNat := by
  by_cases hG : G = []
  · subst hG; rw [rankP_nil]; exact List.Pairwise.nil
  by_cases h1 : G.length = 1
  · rw [rankP_one b hG (.inl h1)]
    obtain ⟨x, rfl⟩ := List.length_eq_one_iff.1 h1
    simp
  · rw [rankP_step b hG h1 h0, flat_flat]
    generalize hn : nextS b (partsL b (b.l 0) (getI G) G.length).length 0 = nx
    unfold partsL
    rw [List.flatMap_map]
    refine flat_desc (f := fun p => (rankP b p nx).flatten) _ (splitP_desc _ _ _) fun x hx u hu => ?_
    exact splitP_val _ _ _ x hx u ((rank_perm b x.2 nx).mem_iff.1 hu)
def rankAt (t : Int) : List (List Int) → Nat → Int
  | [], _ => 0
  | p :: L, n => if t ∈ p then n else rankAt t L (n + p.length)
theorem rankAt_ones {t : Int} : ∀ (L : List (List Int)) (i n : Nat), (∀ p ∈ L, p.length = 1) → L.flatten.Nodup → L.flatten[i]? = some t → rankAt t L n = ((n + i : Nat) : Int)
  | [], i, n, _, _, h => by simp at h
  | p :: L, i, n, h1, hnd, h => by
    obtain ⟨x, rfl⟩ := List.length_eq_one_iff.1 (h1 p (List.mem_cons_self ..))
    unfold rankAt
    rw [List.flatten_cons] at h hnd
    cases i with
    | zero =>
      simp at h
      subst h
      simp
    | succ i =>
      have h2 : L.flatten[i]? = some t := by simpa using h
      have hm := List.mem_of_getElem? h2
      have hx : t ∉ [x] := fun e => by
        rw [List.mem_singleton.1 e] at hm
        simp at hnd
        exact absurd hm (by simpa using hnd.1)
      rw [if_neg hx, rankAt_ones L i _ (fun q hq => h1 q (List.mem_cons_of_mem _ hq)) (by simp at hnd; exact hnd.2) h2]
      show (((n + [x].length + i : Nat)) : Int) = _
      simp
      omega
end Go.Proofs.YteciobkjfmddcaaGreat
set_option linter.unusedVariables false
namespace Go.Proofs.YteciobkjfmddcaaGreat
open Go.RowKit

structure SepD where
  key : Int
  grp : List Int
  part : List Int
theorem insP_one (v t : Int) : ∀ (L : List (Int × List Int)) (x : Int × List Int), insP v t L = [x] → (L = [] ∧ x = (v, [t])) ∨ ∃ p, L = [(v, p)] ∧ x = (v, p ++ [t])
  | [], x, h => .inl ⟨rfl, by unfold insP at h; simpa using h.symm⟩
  | (u, p) :: r, x, h => by
    unfold insP at h
    split at h
    · have h2 : insP v t r = [] := (List.cons.inj h).2
      have := insP_sum v t r
      rw [h2] at this
      unfold lenS at this; simp at this
    · split at h
      · rename_i e
        subst e
        obtain ⟨h1, h2⟩ := List.cons.inj h
        subst h2
        exact .inr ⟨p, rfl, h1.symm⟩
      · have := (List.cons.inj h).2; cases this
theorem splitP_one (V gg : Nat → Int) : ∀ (k : Nat) (x : Int × List Int), splitP V gg k = [x] → x.2 = (List.range k).map gg
  | 0, x, h => by cases h
  | k + 1, x, h => by
    rw [splitP] at h
    rcases insP_one _ _ _ _ h with ⟨h1, rfl⟩ | ⟨p, h1, rfl⟩
    · have h2 := splitP_sum V gg k
      rw [h1] at h2
      have h3 : k = 0 := by unfold lenS at h2; simpa using h2.symm
      subst h3
      rfl
    · have ih := splitP_one V gg k _ h1
      rw [List.range_succ, List.map_append]
      show p ++ [gg k] = _
      rw [← ih]
      rfl
theorem partsL_one {b : BookD} {key : Int} {G p : List Int} (h : partsL b key (getI G) G.length = [p]) : p = G := by
  unfold partsL at h
  obtain ⟨x, hx, rfl⟩ : ∃ x, splitP (bookV b key (getI G) G.length) (getI G) G.length = [x] ∧ x.2 = p := by
    cases hs : splitP (bookV b key (getI G) G.length) (getI G) G.length with
    | nil => rw [hs] at h; cases h
    | cons a r =>
      rw [hs] at h
      cases r with
      | nil => exact ⟨a, rfl, by simpa using h⟩
      | cons _ _ => simp at h
  rw [splitP_one _ _ _ _ hx]
  exact range_getI G
theorem part_whole {b : BookD} {key : Int} {G p : List Int} (hp : p ∈ partsL b key (getI G) G.length) : p.length = G.length ↔ (partsL b key (getI G) G.length).length = 1 := by
  constructor
  · intro h
    by_cases h1 : 1 < (partsL b key (getI G) G.length).length
    · have := partsL_lt hp h1; omega
    · have := List.length_pos_of_mem hp; omega
  · intro h
    have h2 := parts_perm b key G
    obtain ⟨q, hq⟩ := List.length_eq_one_iff.1 h
    rw [hq] at hp h2
    have h3 : p = q := by simpa using hp
    subst h3
    have := h2.length_eq
    simpa using this
theorem part_has {b : BookD} {key : Int} {G : List Int} {t : Int} (ht : t ∈ G) : ∃ p, partO t (partsL b key (getI G) G.length) = some p := by
  have h1 := (parts_perm b key G).mem_iff.2 ht
  obtain ⟨p, hp, htp⟩ := List.mem_flatten.1 h1
  unfold partO hitL
  cases h : (partsL b key (getI G) G.length).find? fun p => decide (t ∈ p ∨ t ∈ p) with
  | some q => exact ⟨q, rfl⟩
  | none =>
    rw [List.find?_eq_none] at h
    have := h p hp
    simp [htp] at this
theorem part_mem {t : Int} {L : List (List Int)} {p : List Int} (h : partO t L = some p) : t ∈ p := (hit_has h).elim id id
def sepF (b : BookD) (t : Int) : Nat → List Int → Nat → List SepD
  | 0, _, _ => []
  | f + 1, G, s => if G.length < 2 ∨ b.nl ≤ s then [] else
      match partO t (partsL b (b.l s) (getI G) G.length) with
      | none => []
      | some p => if p.length = G.length then sepF b t f G (s + 1)
          else ⟨b.l s, G, p⟩ :: sepF b t f p (nextS b (partsL b (b.l s) (getI G) G.length).length s)
theorem sepF_fuel (b : BookD) (t : Int) : ∀ f f' G s, rankM b.nl G.length s < f → rankM b.nl G.length s < f' → sepF b t f G s = sepF b t f' G s
  | 0, _, _, _, h, _ => absurd h (Nat.not_lt_zero _)
  | _ + 1, 0, _, _, _, h => absurd h (Nat.not_lt_zero _)
  | f + 1, f' + 1, G, s, h, h' => by
    unfold sepF
    by_cases hs : G.length < 2 ∨ b.nl ≤ s
    · rw [if_pos hs, if_pos hs]
    · rw [if_neg hs, if_neg hs]
      cases hp : partO t (partsL b (b.l s) (getI G) G.length) with
      | none => rfl
      | some p =>
        have h8 := stepM_lt (nl := b.nl) (n := G.length) (s := s) (by omega)
        have h9 := rankM_lt (b := b) (s := s) (by omega) (hit_mem hp)
        show (if _ then _ else _ :: sepF b t f p _) = (if _ then _ else _ :: sepF b t f' p _)
        rw [sepF_fuel b t f f' G (s + 1) (by omega) (by omega), sepF_fuel b t f f' p _ (by omega) (by omega)]
def sepP (b : BookD) (t : Int) (G : List Int) (s : Nat) : List SepD := sepF b t (rankM b.nl G.length s + 1) G s
theorem sepP_end (b : BookD) (t : Int) {G : List Int} {s : Nat} (h : G.length < 2 ∨ b.nl ≤ s) : sepP b t G s = [] := by
  unfold sepP sepF; rw [if_pos h]
theorem sepP_one (b : BookD) (t : Int) {G p : List Int} {s : Nat} (h1 : ¬ G.length < 2) (hs : s < b.nl) (hp : partO t (partsL b (b.l s) (getI G) G.length) = some p) (h : p.length = G.length) : sepP b t G s = sepP b t G (s + 1) := by
  unfold sepP
  conv => lhs; unfold sepF
  rw [if_neg (by omega), hp]
  show (if _ then _ else _) = _
  rw [if_pos h]
  exact sepF_fuel b t _ _ G _ (stepM_lt hs) (Nat.lt_succ_self _)
theorem sepP_on (b : BookD) (t : Int) {G p : List Int} {s : Nat} (h1 : ¬ G.length < 2) (hs : s < b.nl) (hp : partO t (partsL b (b.l s) (getI G) G.length) = some p) (h : p.length ≠ G.length) :
    sepP b t G s = ⟨b.l s, G, p⟩ :: sepP b t p (nextS b (partsL b (b.l s) (getI G) G.length).length s) := by
  unfold sepP
  conv => lhs; unfold sepF
  rw [if_neg (by omega), hp]
  show (if _ then _ else _) = _
  rw [if_neg h]
  exact congrArg (_ :: ·) (sepF_fuel b t _ _ p _ (rankM_lt hs (hit_mem hp)) (Nat.lt_succ_self _))
theorem sepP_ind (b : BookD) (t : Int) {P : List Int → Nat → List SepD → Prop} (h0 : ∀ G s, t ∈ G → (G.length < 2 ∨ b.nl ≤ s) → P G s [])
    (h1 : ∀ G s p, t ∈ G → ¬ G.length < 2 → s < b.nl → partO t (partsL b (b.l s) (getI G) G.length) = some p → p.length = G.length → P G (s + 1) (sepP b t G (s + 1)) → P G s (sepP b t G (s + 1)))
    (h2 : ∀ G s p, t ∈ G → ¬ G.length < 2 → s < b.nl → partO t (partsL b (b.l s) (getI G) G.length) = some p → p.length ≠ G.length → P p (nextS b (partsL b (b.l s) (getI G) G.length).length s) (sepP b t p (nextS b (partsL b (b.l s) (getI G) G.length).length s)) →
      P G s (⟨b.l s, G, p⟩ :: sepP b t p (nextS b (partsL b (b.l s) (getI G) G.length).length s))) : ∀ G s, t ∈ G → P G s (sepP b t G s) := by
  have H : ∀ m G s, rankM b.nl G.length s < m → t ∈ G → P G s (sepP b t G s) := by
    intro m
    induction m with
    | zero => intro G s h; exact absurd h (Nat.not_lt_zero _)
    | succ m ih =>
      intro G s h ht
      by_cases hs : G.length < 2 ∨ b.nl ≤ s
      · rw [sepP_end b t hs]; exact h0 G s ht hs
      have h8 := stepM_lt (nl := b.nl) (n := G.length) (s := s) (by omega)
      obtain ⟨p, hp⟩ := part_has (b := b) (key := b.l s) ht
      have h9 := rankM_lt (b := b) (s := s) (by omega) (hit_mem hp)
      by_cases hw : p.length = G.length
      · rw [sepP_one b t (by omega) (by omega) hp hw]
        exact h1 G s p ht (by omega) (by omega) hp hw (ih G (s + 1) (by omega) ht)
      · rw [sepP_on b t (by omega) (by omega) hp hw]
        exact h2 G s p ht (by omega) (by omega) hp hw (ih p _ (by omega) (part_mem hp))
  exact fun G s ht => H _ G s (Nat.lt_succ_self _) ht
theorem sep_steps (b : BookD) (t : Int) : ∀ G s, t ∈ G → (sepP b t G s).map SepD.key = stepP b t G s := by
  refine sepP_ind b t (P := fun G s L => L.map SepD.key = stepP b t G s) (fun G s ht h => ?_) (fun G s p ht h1 hs hp hw ih => ?_) (fun G s p ht h1 hs hp hw ih => ?_)
  · rw [stepP_end b t h]; rfl
  · rw [stepP_one b t h1 hs ((part_whole (hit_mem hp)).1 hw)]; exact ih
  · rw [stepP_on b h1 hs (fun e => hw ((part_whole (hit_mem hp)).2 e)) hp, List.map_cons, ih]
def leaveL (y : Int) (L : List SepD) : Option SepD := L.find? fun d => decide (¬ y ∈ d.part)
theorem leaveL_some {y : Int} {L : List SepD} {d : SepD} (h : leaveL y L = some d) : ¬ y ∈ d.part ∧ d ∈ L := by
  unfold leaveL at h
  have := List.find?_some h
  exact ⟨by simpa using this, List.mem_of_find?_eq_some h⟩
theorem leaveL_at {y : Int} {pre : List SepD} {d : SepD} {rest : List SepD} (hp : ∀ q ∈ pre, y ∈ q.part) (hd : ¬ y ∈ d.part) : leaveL y (pre ++ d :: rest) = some d := by
  unfold leaveL
  rw [List.find?_append, List.find?_eq_none.2 (fun q hq => by simp [hp q hq])]
  simp [hd]
theorem leaveL_none {y : Int} {L : List SepD} (hp : ∀ q ∈ L, y ∈ q.part) : leaveL y L = none := by
  unfold leaveL
  rw [List.find?_eq_none]
  intro q hq; simp [hp q hq]
def rsnOf (b : BookD) (x y : Int) (d : SepD) : RsnD := ⟨d.key, d.grp, bookV b d.key (getI d.grp) d.grp.length x.toNat, bookV b d.key (getI d.grp) d.grp.length y.toNat⟩
theorem parts_disjoint {b : BookD} {key : Int} {G : List Int} (hG : G.Nodup) {p q : List Int} {u : Int} (hp : p ∈ partsL b key (getI G) G.length) (hq : q ∈ partsL b key (getI G) G.length) (h1 : u ∈ p) (h2 : u ∈ q) : p = q := by
  have hn : (partsL b key (getI G) G.length).flatten.Nodup := (parts_perm b key G).nodup_iff.2 hG
  have hd := (List.pairwise_flatten.1 hn).2
  obtain ⟨i, hi, rfl⟩ := List.getElem_of_mem hp
  obtain ⟨j, hj, rfl⟩ := List.getElem_of_mem hq
  rw [List.pairwise_iff_getElem] at hd
  rcases Nat.lt_trichotomy i j with h | h | h
  · exact absurd rfl (hd i j hi hj h u h1 u h2)
  · subst h; rfl
  · exact absurd rfl (hd j i hj hi h u h2 u h1)
theorem sep_find (b : BookD) (x y : Int) : ∀ G s, x ∈ G → (y ∈ G → G.Nodup → (leaveL y (sepP b x G s)).map (rsnOf b x y) = if x = y then none else findP b x y G s) := by
  refine sepP_ind b x (P := fun G s L => y ∈ G → G.Nodup → (leaveL y L).map (rsnOf b x y) = if x = y then none else findP b x y G s) (fun G s hx h hy hn => ?_) (fun G s p hx h1 hs hp hw ih hy hn => ?_) (fun G s p hx h1 hs hp hw ih hy hn => ?_)
  · show none = _
    by_cases hxy : x = y
    · rw [if_pos hxy]
    · rw [if_neg hxy]
      rcases h with h | h
      · exact absurd h (by
          obtain ⟨i, hi, ei⟩ := List.getElem_of_mem hx
          obtain ⟨j, hj, ej⟩ := List.getElem_of_mem hy
          intro hl
          have : i = j := by omega
          subst this
          exact hxy (ei.symm.trans ej))
      · rw [findP_end b x y h]
  · rw [ih hy hn]
    by_cases hxy : x = y
    · rw [if_pos hxy, if_pos hxy]
    · rw [if_neg hxy, if_neg hxy]
      have hl := (part_whole (hit_mem hp)).1 hw
      obtain ⟨q, hq⟩ := List.length_eq_one_iff.1 hl
      have hpq : p = q := by have := hit_mem hp; rw [hq] at this; simpa using this
      subst hpq
      have hperm := parts_perm b (b.l s) G
      rw [hq] at hperm
      have hpG : p.Perm G := by simpa using hperm
      have hyp : y ∈ p := hpG.mem_iff.2 hy
      have hxp : x ∈ p := part_mem hp
      have hh : hitL x y (partsL b (b.l s) (getI G) G.length) = some p := by rw [hq]; unfold hitL; simp [hxp]
      rw [findP_on b hs hh ⟨hxp, hyp⟩]
      have hnx : nextS b (partsL b (b.l s) (getI G) G.length).length s = s + 1 := by unfold nextS; rw [hl, if_neg (by omega)]
      rw [hnx]
      have hpe : p = G := by
        have e := partsL_one (b := b) (key := b.l s) (G := G) (p := p) hq
        exact e
      rw [hpe]
  · have hxp : x ∈ p := part_mem hp
    have hpm := hit_mem hp
    by_cases hyp : y ∈ p
    · have e : leaveL y (⟨b.l s, G, p⟩ :: sepP b x p (nextS b (partsL b (b.l s) (getI G) G.length).length s)) = leaveL y (sepP b x p (nextS b (partsL b (b.l s) (getI G) G.length).length s)) := by
        unfold leaveL; rw [List.find?_cons_of_neg (by simp [hyp])]
      rw [e, ih hyp (parts_nodup hn hpm)]
      by_cases hxy : x = y
      · rw [if_pos hxy, if_pos hxy]
      · rw [if_neg hxy, if_neg hxy]
        have hh : hitL x y (partsL b (b.l s) (getI G) G.length) = some p := by
          obtain ⟨r, hr⟩ : ∃ r, hitL x y (partsL b (b.l s) (getI G) G.length) = some r := by
            unfold hitL
            cases h : (partsL b (b.l s) (getI G) G.length).find? fun p => decide (x ∈ p ∨ y ∈ p) with
            | some q => exact ⟨q, rfl⟩
            | none => rw [List.find?_eq_none] at h; have := h p hpm; simp [hxp] at this
          rw [hr]
          rcases hit_has hr with h | h
          · rw [parts_disjoint hn (hit_mem hr) hpm h hxp]
          · rw [parts_disjoint hn (hit_mem hr) hpm h hyp]
        rw [findP_on b hs hh ⟨hxp, hyp⟩]
    · have e : leaveL y (⟨b.l s, G, p⟩ :: sepP b x p (nextS b (partsL b (b.l s) (getI G) G.length).length s)) = some ⟨b.l s, G, p⟩ := leaveL_at (pre := []) (fun _ h => by cases h) hyp
      rw [e]
      have hxy : x ≠ y := fun e => hyp (e ▸ hxp)
      rw [if_neg hxy]
      obtain ⟨r, hr⟩ : ∃ r, hitL x y (partsL b (b.l s) (getI G) G.length) = some r := by
        unfold hitL
        cases h : (partsL b (b.l s) (getI G) G.length).find? fun p => decide (x ∈ p ∨ y ∈ p) with
        | some q => exact ⟨q, rfl⟩
        | none => rw [List.find?_eq_none] at h; have := h p hpm; simp [hxp] at this
      have hnb : ¬ (x ∈ r ∧ y ∈ r) := fun h => hyp (parts_disjoint hn (hit_mem hr) hpm h.1 hxp ▸ h.2)
      rw [findP_here b hs hr hnb]
      rfl
theorem sep_in (b : BookD) (t : Int) : ∀ G s, t ∈ G → ∀ d ∈ sepP b t G s, (∀ u ∈ d.grp, u ∈ G) ∧ (∀ u ∈ d.part, u ∈ G) ∧ d.grp.length ≤ G.length ∧ d.part.length ≤ G.length ∧ ∃ j, j < b.nl ∧ d.key = b.l j := by
  refine sepP_ind b t (P := fun G s L => ∀ d ∈ L, (∀ u ∈ d.grp, u ∈ G) ∧ (∀ u ∈ d.part, u ∈ G) ∧ d.grp.length ≤ G.length ∧ d.part.length ≤ G.length ∧ ∃ j, j < b.nl ∧ d.key = b.l j) (fun _ _ _ _ d h => by cases h) (fun G s p ht h1 hs hp hw ih => ih) (fun G s p ht h1 hs hp hw ih d hd => ?_)
  have hpm := hit_mem hp
  rcases List.mem_cons.1 hd with rfl | hd
  · exact ⟨fun u h => h, parts_in hpm, Nat.le_refl _, partsL_le hpm, s, hs, rfl⟩
  · obtain ⟨a1, a2, a3, a4, a5⟩ := ih d hd
    have := partsL_le hpm
    exact ⟨fun u h => parts_in hpm u (a1 u h), fun u h => parts_in hpm u (a2 u h), by omega, by omega, a5⟩
end Go.Proofs.YteciobkjfmddcaaGreat
