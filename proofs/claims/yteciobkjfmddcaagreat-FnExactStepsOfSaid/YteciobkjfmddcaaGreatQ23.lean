/-
  Packed: Steps, RsnTy.
-/
import Derived.Test.YteciobkjfmddcaaGreatQ20
import Derived.Test.YteciobkjfmddcaaGreatQ21
import Derived.Test.YteciobkjfmddcaaGreatQ22
set_option linter.unusedVariables false
namespace Go.Proofs.YteciobkjfmddcaaGreat
open Go.RowKit

def StepsL (B : Nat) (vo : Value) (w : World) (L : List Int) (e : Ending) (w' : World) : Prop :=
  ∃ v, e = .returned v ∧ w'.ownsRow B 3 1 v L.length (L.map (Value.int .i64)) ∧ ∀ C, C ≤ w.heap.size → (∀ q, vo.ownBlock = some q → C ≤ q) → Below C w w'
theorem BkAt.grow {w0 w w' : World} {B : Nat} {fa : Option Addr} {fc : Nat} {la : Option Addr} {lc : Nat} {ga : Option Addr} {gc : Nat} {qa : Option Addr} {qc : Nat} {ta : Option Addr} {tc : Nat} {b : BookD} {row : Option Nat}
    (h : BkAt w0 w B fa fc la lc ga gc qa qc ta tc b) (hg : w.grownBy w' row) (hq : ∀ q, row = some q → q ≠ B ∧ w0.heap.size ≤ q) : BkAt w0 w' B fa fc la lc ga gc qa qc ta tc b :=
  ⟨⟨Nat.lt_of_lt_of_le h.box.1 hg.size, fun j v hj => hg.cell (h.box.2 j v hj) (fun e => (hq B e.symm).1 rfl)⟩, h.row0, h.bel.grown hg h.bel.size (fun k e => (hq k e).2)⟩
theorem box_low {w w' : World} {B base : Nat} {cs : List Value} (h : BoxN w B cs) (hb : Below base w w') (hB : B < base) : BoxN w' B cs :=
  ⟨Nat.lt_of_lt_of_le h.1 hb.size, fun j v hj => (Below.cell hb (p := ⟨B, j, none⟩) hB).trans (h.2 j v hj)⟩
theorem hit_one {t : Int} {p : List Int} (h : ¬ t ∈ p) : ¬ (t ∈ p ∨ t ∈ p) := fun e => e.elim h h
set_option maxRecDepth 100000 in
set_option maxHeartbeats 4000000 in
theorem l08Steps_spec (vf vl vg vfa vta : Value) (b : BookD) (hp : bookP b) (team : Int) :
    ∀ (m : Nat) (G : List Int) (s : Nat) (gv : Value) (w w0 : World) (B : Nat) (vo : Value) (L : List Int), rankM b.nl G.length s < m → BookRow w0 vf vl vg vfa vta b → Below B w0 w → w0.heap.size ≤ B → B ≤ w.heap.size → IntRow w gv G.length (getI G) → teamsP b.nf G.length (getI G) → G.length ≤ 1048576 → (s : Int) ≤ 9223372036854775807 → w.ownsRow B 3 1 vo L.length (L.map (Value.int .i64)) → L.length + rankM b.nl G.length s ≤ 1048576000 →
    Calls Tryz.prog 59 #[.agg #[vf, .int .i64 b.win, .int .i64 b.draw, .int .i64 b.loss, vl, .bool b.again, vg, vfa, vta], gv, .int .i64 s, .int .i64 team, vo] w (StepsL B vo w (L ++ stepP b team G s)) := by
  intro m
  induction m with
  | zero => intro G s gv w w0 B vo L hm; exact absurd hm (Nat.not_lt_zero _)
  | succ m IH =>
  intro G s gv w w0 B vo L hm h hBw hB0 hBs hgv ht hn6 hs63 ho hL6
  obtain ⟨i0, hi, hz0, hz1, hz2⟩ := info_parts Tryz.infoI
  obtain ⟨fa, fc, la, lc, ga, gc, qa, qc, ta, tc, rfl, rfl, rfl, rfl, rfl⟩ := h.form
  obtain ⟨xa, xc, rfl, hx64, _⟩ := hgv.form
  obtain ⟨oa, oc, hof⟩ := owns_form ho
  subst hof
  have hn8 : b.nl ≤ 8 := by have := hp.2.1.2.2.2.1; omega
  have HQ : Hid (∀ q, (Value.slice oa L.length oc).ownBlock = some q → B ≤ q ∧ q < w.heap.size) := fun q hq => ho.lt q hq
  have hw := h.below hBw hB0
  by_cases hsl : G.length < 2 ∨ b.nl ≤ s
  · rw [stepP_end b team hsl, List.append_nil]
    have hways : decide ((G.length : Int) < 2) = true ∨ decide ((G.length : Int) < 2) = false ∧ decide ((b.nl : Int) ≤ s) = true := by
      by_cases h2 : G.length < 2
      · exact .inl (decide_eq_true (by omega))
      · exact .inr ⟨decide_eq_false (by omega), decide_eq_true (by omega)⟩
    have K0 : Hid (BkAt w0 (w.alloc (.cells (bkList fa fc la lc ga gc qa qc ta tc b).toArray 29)) w.heap.size fa fc la lc ga gc qa qc ta tc b) := BkAt.made2 h (hBw.mono hB0) 29 rfl
    have hU0 : Hid (Below w.heap.size w (w.alloc (.cells (bkList fa fc la lc ga gc qa qc ta tc b).toArray 29))) := (Below.refl _ _).alloc (Nat.le_refl _) _
    have es : (w.alloc (.cells (bkList fa fc la lc ga gc qa qc ta tc b).toArray 29)).heap.size = w.heap.size + 1 := by simp
    have ES := Lib.hid es
    clear es
    obtain ⟨U, hU⟩ : ∃ U, w.alloc (.cells #[.slice fa b.nf fc, .int .i64 b.win, .int .i64 b.draw, .int .i64 b.loss, .slice la b.nl lc, .bool b.again, .slice ga b.m gc, .slice qa b.nfa qc, .slice ta b.nta tc] 29) = U := ⟨_, rfl⟩
    have hU' : w.alloc (.cells (bkList fa fc la lc ga gc qa qc ta tc b).toArray 29) = U := hU
    have K1 := K0
    rw [hU'] at K1 hU0 ES
    clear hU' K0
    have GR1 := Lib.hid (hgv.below hU0.out (Nat.le_refl _))
    have HO1 := Lib.hid (owns_below ho hU0.out (Nat.le_refl _))
    have hgl : ∀ c : Nat, (decide ((c : Int) < 2) = decide (c < 2)) := fun c => by simp; omega
    clear IH hgl
    obtain ⟨d0, d1, d2, d3, d4, d5, d6, d7, d8⟩ := K1.out.cells
    go_enter Tryz.func59, Tryz.ntmps59
    rcases hways with g1 | ⟨g1, g2⟩
    all_goals
      have g1' := g1
      simp only [decide_eq_true_eq, decide_eq_false_iff_not] at g1'
      have g3 : decide (G.length < 2) = decide ((G.length : Int) < 2) := by by_cases h9 : G.length < 2 <;> simp [h9] <;> omega
      rw [g1] at g3
      try (have g4 : decide (b.nl ≤ s) = true := by simp only [decide_eq_true_eq] at g2 ⊢; omega)
      clear g1'
      go_wp2
      clear hU
      go_ret
      exact ⟨_, rfl, HO1.out, fun C hC _ => hU0.out.mono hC⟩
  have hsl' : s < b.nl := by omega
  have hG2 : ¬ G.length < 2 := by omega
  obtain ⟨lb, lof, rfl, hlc, cl0⟩ := int_at hw.2.1 hsl'
  have K0 : Hid (BkAt w0 (w.alloc (.cells (bkList fa fc (some ⟨lb, lof, none⟩) lc ga gc qa qc ta tc b).toArray 29)) w.heap.size fa fc (some ⟨lb, lof, none⟩) lc ga gc qa qc ta tc b) := BkAt.made2 h (hBw.mono hB0) 29 rfl
  have hU0 : Hid (Below w.heap.size w (w.alloc (.cells (bkList fa fc (some ⟨lb, lof, none⟩) lc ga gc qa qc ta tc b).toArray 29))) := (Below.refl _ _).alloc (Nat.le_refl _) _
  have es : (w.alloc (.cells (bkList fa fc (some ⟨lb, lof, none⟩) lc ga gc qa qc ta tc b).toArray 29)).heap.size = w.heap.size + 1 := by simp
  have ES := Lib.hid es
  clear es
  obtain ⟨U, hU⟩ : ∃ U, w.alloc (.cells #[.slice fa b.nf fc, .int .i64 b.win, .int .i64 b.draw, .int .i64 b.loss, .slice (some ⟨lb, lof, none⟩) b.nl lc, .bool b.again, .slice ga b.m gc, .slice qa b.nfa qc, .slice ta b.nta tc] 29) = U := ⟨_, rfl⟩
  have hU' : w.alloc (.cells (bkList fa fc (some ⟨lb, lof, none⟩) lc ga gc qa qc ta tc b).toArray 29) = U := hU
  have K1 := K0
  rw [hU'] at K1 hU0 ES
  clear hU' K0
  have GR1 := Lib.hid (hgv.below hU0.out (Nat.le_refl _))
  have HO1 := Lib.hid (owns_below ho hU0.out (Nat.le_refl _))
  have cl1 := (Below.cell hU0.out (p := ⟨lb, lof + s, none⟩) (World.block_lt_of_cell? w _ cl0)).trans cl0
  have hsx : (s : Int) < b.nl := by omega
  have g2 : decide ((b.nl : Int) ≤ s) = false := decide_eq_false (by omega)
  have g3 : decide (b.nl ≤ s) = false := decide_eq_false (by omega)
  obtain ⟨n, hn⟩ : ∃ n, G.length = n := ⟨_, rfl⟩
  have g1 : decide ((n : Int) < 2) = false := decide_eq_false (by omega)
  have g4 : decide (n < 2) = false := decide_eq_false (by omega)
  have HR0 := Lib.hid h
  have HBW := Lib.hid hBw
  have HT := Lib.hid ht
  have CR1 : Hid ((partsL b (b.l s) (getI G) G.length).length = 1 → ∀ wa, Below B w0 wa → B ≤ wa.heap.size → IntRow wa (.slice xa n xc) G.length (getI G) → wa.ownsRow B 3 1 (.slice oa L.length oc) L.length (L.map (Value.int .i64)) → Calls Tryz.prog 59 #[.agg #[.slice fa b.nf fc, .int .i64 b.win, .int .i64 b.draw, .int .i64 b.loss, .slice (some ⟨lb, lof, none⟩) b.nl lc, .bool b.again, .slice ga b.m gc, .slice qa b.nfa qc, .slice ta b.nta tc], .slice xa n xc, .int .i64 ((s : Int) + 1), .int .i64 team, .slice oa L.length oc] wa (StepsL B (.slice oa L.length oc) wa (L ++ stepP b team G s))) := fun h1 wa hb hbs h2 h3 => by
    have h8 := stepM_lt (nl := b.nl) (n := G.length) (s := s) hsl'
    rw [stepP_one b team hG2 hsl' h1]
    exact IH G (s + 1) _ wa w0 B _ L (by omega) HR0.out hb hB0 hbs h2 HT.out hn6 (by omega) h3 (by omega)
  have CR2 : Hid ((partsL b (b.l s) (getI G) G.length).length ≠ 1 → ∀ p, partO team (partsL b (b.l s) (getI G) G.length) = some p → ∀ z : Int, z = (nextS b (partsL b (b.l s) (getI G) G.length).length s : Int) → ∀ pv vo' wa, Below B w0 wa → B ≤ wa.heap.size → IntRow wa pv p.length (getI p) → wa.ownsRow B 3 1 vo' (L ++ [b.l s]).length ((L ++ [b.l s]).map (Value.int .i64)) → Calls Tryz.prog 59 #[.agg #[.slice fa b.nf fc, .int .i64 b.win, .int .i64 b.draw, .int .i64 b.loss, .slice (some ⟨lb, lof, none⟩) b.nl lc, .bool b.again, .slice ga b.m gc, .slice qa b.nfa qc, .slice ta b.nta tc], pv, .int .i64 z, .int .i64 team, vo'] wa (StepsL B vo' wa (L ++ stepP b team G s))) := fun h1 p hp1 z hz pv vo' wa hb hbs h2 h3 => by
    subst hz
    have hm1 := hit_mem hp1
    have h8 := rankM_lt (b := b) (s := s) hsl' hm1
    rw [stepP_on b hG2 hsl' h1 hp1, show ∀ (x : Int) (M : List Int), L ++ x :: M = (L ++ [x]) ++ M from fun x M => by simp]
    refine IH p _ _ wa w0 B _ (L ++ [b.l s]) (by omega) HR0.out hb hB0 hbs h2 (fun i hi => ?_) (by have := partsL_le hm1; omega) ?_ h3 (by simp only [List.length_append, List.length_cons, List.length_nil]; omega)
    · obtain ⟨j, hj, e⟩ := partsL_mem hm1 (getI p i) (by simp [getI, hi])
      rw [e]
      exact HT.out j hj
    · unfold nextS; split <;> omega
  have HE1 : Hid ((partsL b (b.l s) (getI G) G.length).length ≠ 1 → partO team (partsL b (b.l s) (getI G) G.length) = none → L ++ stepP b team G s = L ++ [b.l s]) := fun h1 h2 => by rw [stepP_none b hG2 hsl' h1 h2]
  have HNX : Hid (nextS b (partsL b (b.l s) (getI G) n).length s = if 1 < (partsL b (b.l s) (getI G) n).length ∧ b.again = true ∧ mutualB (b.l s) = true then 0 else s + 1) := rfl
  have CMU : Hid (∀ wa, Calls Tryz.prog 94 #[.int .i64 (b.l s)] wa fun e w' => e = .returned (.bool (mutualB (b.l s))) ∧ wa = w') := fun wa => (isMutual_spec (b.l s) wa).mono fun _ _ h => ⟨h.1, h.2⟩
  have CSP : Hid (∀ wa, BookRow wa (.slice fa b.nf fc) (.slice (some ⟨lb, lof, none⟩) b.nl lc) (.slice ga b.m gc) (.slice qa b.nfa qc) (.slice ta b.nta tc) b → IntRow wa (.slice xa n xc) n (getI G) → Calls Tryz.prog 91 #[.agg #[.slice fa b.nf fc, .int .i64 b.win, .int .i64 b.draw, .int .i64 b.loss, .slice (some ⟨lb, lof, none⟩) b.nl lc, .bool b.again, .slice ga b.m gc, .slice qa b.nfa qc, .slice ta b.nta tc], .int .i64 (b.l s), .slice xa n xc] wa (ListsL wa (partsL b (b.l s) (getI G) n))) := fun wa h1 h2 => l07Split_spec _ _ _ _ _ b (b.l s) _ n (getI G) wa hp h1 h2 (by rw [← hn]; exact HT.out) (by omega)
  have hpn := partsL_len (b := b) (key := b.l s) (gg := getI G) (n := n)
  have hpl : ∀ p ∈ partsL b (b.l s) (getI G) n, p.length ≤ n := fun p hp => partsL_le hp
  have HPLn := Lib.hid hpl
  clear hpl
  rw [hn] at GR1 hx64 hn6 hL6 CR1 CR2 HE1 ⊢
  have HN := Lib.hid hn
  clear hn hgv ht hm h hBw IH HT HR0 hw ho hp hsl hG2
  obtain ⟨RES, hRES⟩ : ∃ RES, L ++ stepP b team G s = RES := ⟨_, rfl⟩
  rw [hRES] at CR1 CR2 HE1 ⊢
  clear hRES
  generalize partsL b (b.l s) (getI G) n = PL at *
  generalize mutualB (b.l s) = mu at *
  generalize hkey : b.l s = key at *
  clear hkey
  generalize nextS b PL.length s = nx at *
  obtain ⟨d0, d1, d2, d3, d4, d5, d6, d7, d8⟩ := K1.out.cells
  go_enter Tryz.func59, Tryz.ntmps59
  go_wp2_with fail
  refine (CSP.out _ K1.out.row GR1.out).mono ?_
  rintro e w1 ⟨v8, T, rfl, hT, hLL, b1⟩
  clear hU
  have K2 := Lib.hid (K1.out.next b1)
  have HL2 := Lib.hid hLL
  have HT := Lib.hid hT
  have GR2 := Lib.hid (GR1.out.below b1 (Nat.le_refl _))
  have HO2 := Lib.hid (owns_below HO1.out b1 (Nat.le_refl _))
  have HBC2 := Lib.hid (hU0.out.trans (b1.mono hU0.out.size))
  have HBW2 := Lib.hid (HBC2.out.mono hBs)
  have hs1 : w.heap.size + 1 ≤ w1.heap.size := by have := b1.size; have := ES.out; omega
  obtain ⟨pa, pc, hvf⟩ := owns_form hLL.1
  subst hvf
  have hTl : T.length = PL.length := by rw [← hT, List.length_map]
  have hTn : T.length ≤ 1048576 := by omega
  have HTL := Lib.hid hTl
  have HLlt : Hid (∀ q, q < w.heap.size → (Value.slice pa T.length pc).ownBlock ≠ some q ∧ ∀ x ∈ T, x.1.ownBlock ≠ some q) := fun q hq => ⟨fun e => by have := (hLL.1.lt q e).1; have := ES.out; omega, fun x hx e => by have := ((hLL.2.1 x hx).lt q e).1; have := ES.out; omega⟩
  clear d0 d1 d2 d3 d4 d5 d6 d7 d8 K1 GR1 HO1 hU0 CSP hT hLL b1 hTl cl1 cl0 ES
  have hf1 : decide (T.length = 1) = decide ((T.length : Int) = 1) := by by_cases h9 : T.length = 1 <;> simp [h9] <;> omega
  clear hf1
  by_cases h1 : PL.length = 1
  case pos =>
    have g5 : ((T.length : Int) == 1) = true := beq_iff_eq.2 (by have := HTL.out; omega)
    have g6 : (T.length == 1) = true := beq_iff_eq.2 (by have := HTL.out; omega)
    have CRk := Lib.hid (CR1.out h1)
    clear CR1 CR2 HE1 HNX CMU HPLn
    obtain ⟨d0, d1, d2, d3, d4, d5, d6, d7, d8⟩ := K2.out.cells
    go_wp2_with fail
    refine (CRk.out _ (HBW.out.trans HBW2.out) (by omega) GR2.out HO2.out).mono ?_
    rintro e w2 ⟨rv, rfl, hro, b2⟩
    have HE : Hid (∀ C, C ≤ w.heap.size → (∀ q, (Value.slice oa L.length oc).ownBlock = some q → C ≤ q) → Below C w w2) := fun C hC hq => (HBC2.out.mono hC).trans (b2 C (by omega) hq)
    have HRO := Lib.hid hro
    clear b2 hro d0 d1 d2 d3 d4 d5 d6 d7 d8
    go_wp2
    go_ret
    exact ⟨_, rfl, HRO.out, HE.out⟩
  have g5 : ((T.length : Int) == 1) = false := beq_eq_false_iff_ne.2 (by have := HTL.out; omega)
  have g6 : (T.length == 1) = false := beq_eq_false_iff_ne.2 (by have := HTL.out; omega)
  have CRk := Lib.hid (CR2.out h1)
  have HEk := Lib.hid (HE1.out h1)
  clear CR1 CR2 HE1
  go_wp2_with (at_builtin; refine wpList_pushL rfl (.tmp 47) (.tmp 49) 24 rfl B 3 Tryz.underlying24 hi hz0 hz1 hz2 rfl (by decide) [.int .i64 key] rfl (by intro u hu; simp at hu; subst hu; rfl) rfl (by show Value.slice (some ⟨_, 0, none⟩) 1 1 = _; simp) HO2.out (by unfold maxLen; omega) (by omega) (by omega) ?_; intro gg5 cc5 w5 o5 g5' at5 lt5; have O5 := Lib.hid o5; have G5 := Lib.hid g5'; have AT5 := Lib.hid at5; have hs5 := g5'.size; clear o5 g5' at5 lt5)
  have HBC5 : Hid (∀ C, C ≤ w.heap.size → (∀ q, (Value.slice oa L.length oc).ownBlock = some q → C ≤ q) → Below C w w5) := fun C hC hq => (HBC2.out.mono hC).grown G5.out (by omega) (fun k hk => hq k hk)
  have HB8 : Hid (∀ C, C ≤ w.heap.size → (∀ q, (Value.slice oa L.length oc).ownBlock = some q → C ≤ q) → ∀ q, (Value.slice (some ⟨gg5, 0, none⟩) (L.length + 1) cc5).ownBlock = some q → C ≤ q) := fun C hC hq q he => by
    have he' : gg5 = q := by simpa [Value.ownBlock] using he
    subst he'
    rcases AT5.out with h9 | h9
    · exact hq _ h9
    · omega
  have HBW5 : Hid (Below B w w5) := HBW2.out.grown G5.out (by omega) (fun k hk => (HQ.out k hk).1)
  have K5 : Hid (BkAt w0 w5 w.heap.size fa fc (some ⟨lb, lof, none⟩) lc ga gc qa qc ta tc b) := Lib.hid (BkAt.grow K2.out G5.out (fun q hq => ⟨by have := (HQ.out q hq).2; omega, by have := (HQ.out q hq).1; omega⟩))
  have HL5 := Lib.hid (LL.kept HL2.out G5.out (fun q hq => HLlt.out q (HQ.out q hq).2))
  have O6 : Hid (w5.ownsRow B 3 1 (.slice (some ⟨gg5, 0, none⟩) (L.length + 1) cc5) (L ++ [key]).length ((L ++ [key]).map (Value.int .i64))) := by rw [List.length_append, List.map_append]; exact O5.out
  clear K2 HL2 HBW2 HO2 G5 O5 HQ HLlt GR2 AT5 HBC2
  go_wp2
  go_loop [53] (fun iv => ∃ k : Nat, k ≤ T.length ∧ iv = .int .i64 k ∧ Hid (∀ j q, j < k → PL[j]? = some q → ¬ (team ∈ q))) (fun iv => T.length - (RowKit.intOf iv).toNat)
  case atStart => exact ⟨0, Nat.zero_le _, rfl, fun j q hj => absurd hj (Nat.not_lt_zero _)⟩
  case round =>
    obtain ⟨k, hk, rfl, HNO⟩ := hrel
    by_cases hlt : k < T.length
    · obtain ⟨⟨pv, p⟩, hy9⟩ : ∃ y, T[k]? = some y := ⟨_, List.getElem?_eq_getElem hlt⟩
      have hyp : PL[k]? = some p := by rw [← HT.out, List.getElem?_map, hy9]; rfl
      have hyP : p ∈ PL := List.mem_of_getElem? hyp
      have hrow := HL5.out.2.1 _ (List.mem_of_getElem? hy9)
      have hpn2 : p.length ≤ n := HPLn.out _ hyP
      obtain ⟨pg, pcap, he, hpc, _, cp⟩ := vals_at (x := pv) (j := k) HL5.out.1 (by rw [List.getElem?_map, hy9]; rfl)
      simp only [Value.slice.injEq, true_and] at he
      obtain ⟨rfl, rfl⟩ := he
      have PR := Lib.hid (IntRow.of_list hrow (by show p.length ≤ _; omega))
      change Hid (IntRow w5 pv p.length (getI p)) at PR
      obtain ⟨ya, yc, hyf⟩ := owns_form hrow
      change pv = .slice ya p.length yc at hyf
      subst hyf
      change Hid (IntRow w5 (.slice ya p.length yc) p.length (getI p)) at PR
      obtain ⟨r1, hr1⟩ := boolEx (team ∈ p)
      have H1 := Lib.hid (fun wa h => l02Has_mem (.slice ya p.length yc) p team r1 wa hr1 h)
      have HR1 := Lib.hid hr1
      have hklt : (k : Int) < T.length := by omega
      clear hrow hy9 hr1
      go_wp2_with fail
      refine (H1.out _ PR.out).mono ?_
      rintro e wa ⟨rfl, rfl⟩
      cases r1 with
      | false =>
        have HNN : Hid (∀ j q, j < k + 1 → PL[j]? = some q → ¬ (team ∈ q)) := fun j q hj hq h => by
          by_cases hjk : j = k
          · subst hjk
            rw [hyp] at hq
            cases hq
            have := HR1.out.2 h; cases this
          · exact HNO.out j q (by omega) hq h
        clear HNO CRk HEk CMU HNX
        go_wp2
        go_round
        case rel => exact ⟨k + 1, by omega, by go_num, HNN⟩
        case measure => simp [RowKit.intOf]; omega
      | true =>
      have hnn : 1 < PL.length := by have := HTL.out; omega
      have CRp := Lib.hid (CRk.out p (hit_at hyp (.inl (HR1.out.1 rfl)) (fun j q hj hq => hit_one (HNO.out j q hj hq))))
      have HNX2 := HNX
      clear CRk HEk HNO HR1 H1 HNX
      obtain ⟨ag, hag⟩ : ∃ ag, b.again = ag := ⟨_, rfl⟩
      obtain ⟨d0, d1, d2, d3, d4, d5, d6, d7, d8⟩ := K5.out.cells
      simp only [hag] at CRp d5 HNX2
      clear hag
      have hw : ag = false ∨ (ag = true ∧ mu = false) ∨ (ag = true ∧ mu = true) := by cases ag <;> cases mu <;> simp
      rcases hw with rfl | ⟨rfl, rfl⟩ | ⟨rfl, rfl⟩
      · have HZ : Hid ((s : Int) + 1 = nx) := by have := HNX2.out; rw [if_neg (fun h => by cases h.2.1)] at this; show _ = _; omega
        clear HNX2
        go_wp2_with fail
        refine (CRp.out _ HZ.out _ _ _ (HBW.out.trans HBW5.out) (by omega) PR.out O6.out).mono ?_
        rintro e w6 ⟨rv, rfl, hro, b6⟩
        have HE : Hid (∀ C, C ≤ w.heap.size → (∀ q, (Value.slice oa L.length oc).ownBlock = some q → C ≤ q) → Below C w w6) := fun C hC hq => (HBC5.out C hC hq).trans (b6 C (by omega) (HB8.out C hC hq))
        have HRO := Lib.hid hro
        clear b6 hro d0 d1 d2 d3 d4 d5 d6 d7 d8
        go_wp2
        go_ret
        exact ⟨_, rfl, HRO.out, HE.out⟩
      · have HZ : Hid ((s : Int) + 1 = nx) := by have := HNX2.out; rw [if_neg (fun h => by cases h.2.2)] at this; show _ = _; omega
        clear HNX2
        go_wp2_with fail
        refine (CMU.out _).mono ?_
        rintro e wx ⟨rfl, rfl⟩
        go_wp2_with fail
        refine (CRp.out _ HZ.out _ _ _ (HBW.out.trans HBW5.out) (by omega) PR.out O6.out).mono ?_
        rintro e w6 ⟨rv, rfl, hro, b6⟩
        have HE : Hid (∀ C, C ≤ w.heap.size → (∀ q, (Value.slice oa L.length oc).ownBlock = some q → C ≤ q) → Below C w w6) := fun C hC hq => (HBC5.out C hC hq).trans (b6 C (by omega) (HB8.out C hC hq))
        have HRO := Lib.hid hro
        clear b6 hro d0 d1 d2 d3 d4 d5 d6 d7 d8
        go_wp2
        go_ret
        exact ⟨_, rfl, HRO.out, HE.out⟩
      · have HZ : Hid ((0 : Int) = nx) := by have := HNX2.out; rw [if_pos ⟨hnn, by first | rfl | trivial, by first | rfl | trivial⟩] at this; show _ = _; omega
        clear HNX2
        go_wp2_with fail
        refine (CMU.out _).mono ?_
        rintro e wx ⟨rfl, rfl⟩
        go_wp2_with fail
        refine (CRp.out _ HZ.out _ _ _ (HBW.out.trans HBW5.out) (by omega) PR.out O6.out).mono ?_
        rintro e w6 ⟨rv, rfl, hro, b6⟩
        have HE : Hid (∀ C, C ≤ w.heap.size → (∀ q, (Value.slice oa L.length oc).ownBlock = some q → C ≤ q) → Below C w w6) := fun C hC hq => (HBC5.out C hC hq).trans (b6 C (by omega) (HB8.out C hC hq))
        have HRO := Lib.hid hro
        clear b6 hro d0 d1 d2 d3 d4 d5 d6 d7 d8
        go_wp2
        go_ret
        exact ⟨_, rfl, HRO.out, HE.out⟩
    obtain rfl : k = T.length := by omega
    have HH := Lib.hid (HEk.out (hit_none (fun j q hj hq => hit_one (HNO.out j q (by have := HTL.out; omega) hq))))
    clear CRk HEk CMU HNX HNO
    go_wp2
    go_ret
    rw [HH.out]
    exact ⟨_, rfl, O6.out, HBC5.out⟩
set_option maxRecDepth 100000 in
set_option maxHeartbeats 4000000 in
theorem stepsOf_spec (vf vl vg vfa vta : Value) (b : BookD) (x : Int) (R : Bool) (w : World) (hR : R = true ↔ (bookP b ∧ (0 ≤ x ∧ x ≤ (b.nf : Int) - 1))) (h : BookRow w vf vl vg vfa vta b) (hs : ∀ i, (b.f i).nm.size ≤ maxLen) (hn6 : b.nf ≤ 1048576) :
    Calls Tryz.prog 24 #[.agg #[vf, .int .i64 b.win, .int .i64 b.draw, .int .i64 b.loss, vl, .bool b.again, vg, vfa, vta], .int .i64 x] w (IntsL w (if R = true then stepP b x (allL b.nf) 0 else [])) := by
  obtain ⟨fa, fc, la, lc, ga, gc, qa, qc, ta, tc, rfl, rfl, rfl, rfl, rfl⟩ := h.form
  obtain ⟨r1, hr1⟩ := boolEx (bookP b)
  have C1 := Lib.hid (fun wa h1 => bookOk_spec (.slice fa b.nf fc) (.slice la b.nl lc) (.slice ga b.m gc) (.slice qa b.nfa qc) (.slice ta b.nta tc) b r1 wa hr1 h1 hs)
  have hsix := h.sixty
  have HR0 := Lib.hid h
  have hall : R = true ↔ (r1 = true ∧ (0 ≤ x ∧ x ≤ (b.nf : Int) - 1)) := by rw [hR, hr1]
  have HN := Lib.hid (boolF hall)
  have HY := Lib.hid (boolT hall)
  have HP1 : Hid (r1 = true → bookP b) := hr1.1
  have CA := Lib.hid (fun wa h1 => l07All_spec (.slice fa b.nf fc) (.slice la b.nl lc) (.slice ga b.m gc) (.slice qa b.nfa qc) (.slice ta b.nta tc) b wa h1 hn6)
  have HLN := Lib.hid (allL_len b.nf)
  have CF : Hid (bookP b → ∀ wa gv vo, Below w.heap.size w wa → IntRow wa gv b.nf (getI (allL b.nf)) → wa.ownsRow w.heap.size 3 1 vo 0 [] → Calls Tryz.prog 59 #[.agg #[.slice fa b.nf fc, .int .i64 b.win, .int .i64 b.draw, .int .i64 b.loss, .slice la b.nl lc, .bool b.again, .slice ga b.m gc, .slice qa b.nfa qc, .slice ta b.nta tc], gv, .int .i64 0, .int .i64 x, vo] wa (StepsL w.heap.size vo wa (stepP b x (allL b.nf) 0))) := fun hp wa gv vo h1 h2 h3 => by
    have hn8 : b.nf ≤ 8 := by have := hp.1.1; omega
    have hl8 : b.nl ≤ 8 := by have := hp.2.1.2.2.2.1; omega
    have h9 := l08Steps_spec _ _ _ _ _ b hp x _ (allL b.nf) 0 gv wa w w.heap.size vo [] (Nat.lt_succ_self _) HR0.out h1 (Nat.le_refl _) h1.size (by rw [allL_len]; exact h2) (by rw [allL_len]; exact fun i hi => by rw [allL_get hi]; omega) (by rw [allL_len]; exact hn6) (by decide) h3 ?_
    · rw [List.nil_append] at h9; exact h9
    · rw [allL_len]; unfold rankM; have h7 : b.nf * (b.nl + 1) ≤ 8 * (b.nl + 1) := Nat.mul_le_mul_right _ hn8; simp only [List.length_nil]; omega
  have hAL : valsL (fun i => (i : Int)) b.nf = allL b.nf := rfl
  rw [hAL] at CA
  clear hAL
  obtain ⟨RES, hRES⟩ : ∃ RES, (if R = true then stepP b x (allL b.nf) 0 else []) = RES := ⟨_, rfl⟩
  rw [hRES]
  have HRF : Hid (R = false → RES = []) := fun e => by rw [← hRES, e]; rfl
  have HRT : Hid (R = true → stepP b x (allL b.nf) 0 = RES) := fun e => by rw [← hRES, e]; rfl
  clear hRES hall hr1 hR hs
  have K0 := Lib.hid (BkAt.made h 29)
  obtain ⟨U, hU⟩ : ∃ U, w.alloc (.cells #[.slice fa b.nf fc, .int .i64 b.win, .int .i64 b.draw, .int .i64 b.loss, .slice la b.nl lc, .bool b.again, .slice ga b.m gc, .slice qa b.nfa qc, .slice ta b.nta tc] 29) = U := ⟨_, rfl⟩
  have hU' : w.alloc (.cells (bkList fa fc la lc ga gc qa qc ta tc b).toArray 29) = U := hU
  have K1 := K0
  rw [hU'] at K1
  clear hU' K0
  clear h
  obtain ⟨d0, d1, d2, d3, d4, d5, d6, d7, d8⟩ := K1.out.cells
  go_enter Tryz.func24, Tryz.ntmps24
  cases r1 with
  | false =>
    obtain rfl := HN.out (fun h => by have := h.1; cases this)
    go_wp2_with fail
    refine (C1.out _ K1.out.row).mono ?_
    rintro e w2 ⟨rfl, b2⟩
    clear hU
    have K2 := Lib.hid (K1.out.next b2)
    clear d0 d1 d2 d3 d4 d5 d6 d7 d8 K1 b2
    have HE := Lib.hid K2.out.bel
    go_wp2
    go_ret
    rw [HRF.out (by first | rfl | trivial)]
    exact IntsL.none HE.out
  | true =>
  go_wp2_with fail
  refine (C1.out _ K1.out.row).mono ?_
  rintro e w2 ⟨rfl, b2⟩
  clear hU
  have K2 := Lib.hid (K1.out.next b2)
  clear d0 d1 d2 d3 d4 d5 d6 d7 d8 K1 b2
  obtain ⟨d0, d1, d2, d3, d4, d5, d6, d7, d8⟩ := K2.out.cells
  by_cases hx : 0 ≤ x ∧ x ≤ (b.nf : Int) - 1
  case neg =>
    obtain rfl := HN.out (fun h => hx h.2)
    go_wp2_with fail
    refine (l01In_no _ _ _ _ hx).mono ?_
    rintro e wx ⟨rfl, rfl⟩
    have HE := Lib.hid K2.out.bel
    go_wp2
    go_ret
    rw [HRF.out (by first | rfl | trivial)]
    exact IntsL.none HE.out
  go_wp2_with fail
  refine (l01In_yes _ _ _ _ hx).mono ?_
  rintro e wx ⟨rfl, rfl⟩
  have HR := Lib.hid (HRT.out (HY.out ⟨by first | rfl | trivial, hx⟩))
  have CG := Lib.hid (CF.out (HP1.out (by first | rfl | trivial)))
  rw [HR.out] at CG
  clear HRF HRT HY HN CF HP1 C1 hx HR HR0 d0 d1 d2 d3 d4 d5 d6 d7 d8
  obtain ⟨S, HSd⟩ : ∃ S : World → Prop, S = fun w' => BkAt w w' w.heap.size fa fc la lc ga gc qa qc ta tc b := ⟨_, rfl⟩
  have KS : Hid (∀ wa wb, S wa → Below wa.heap.size wa wb → S wb) := by subst HSd; exact fun wa wb h bb => h.next bb
  have OS : Hid (∀ wa, S wa → BkAt w wa w.heap.size fa fc la lc ga gc qa qc ta tc b) := by subst HSd; exact fun wa h => h
  have IK : Hid (∀ wa, BkAt w wa w.heap.size fa fc la lc ga gc qa qc ta tc b → S wa) := by subst HSd; exact fun wa h => h
  have IS : Hid (S w2) := IK.out _ K2.out
  clear HSd K2
  go_wp2_with fail
  refine wp_region_held_drew (S := S) (by kernel_rfl) ?_ (fun hHeld => ?_)
  · exact KS.out _ _ IS.out (Below.refl _ _).drew
  generalize w2.drew = wd at *
  refine wpAnyH_take (i := 0) (v := ?_) rfl (by kernel_rfl) (by kernel_rfl) (by kernel_rfl) (fun _ _ _ h => h) (Or.inl ⟨by rfl, ?_⟩) hHeld ?_
  rotate_left
  · (intro wa hSw; have K := OS.out _ hSw; obtain ⟨d0, d1, d2, d3, d4, d5, d6, d7, d8⟩ := K.cells; go_simp; try with_reducible rfl)
  simp only [Act.put, List.getElem_toArray, List.getElem_cons_zero, List.setIfInBounds_toArray, List.set_cons_zero, List.set_cons_succ]
  refine wpAnyH_take (i := 1) (v := ?_) rfl (by kernel_rfl) (by kernel_rfl) (by kernel_rfl) (fun _ _ _ h => h) (Or.inl ⟨by rfl, ?_⟩) hHeld ?_
  rotate_left
  · (intro wa hSw; have K := OS.out _ hSw; obtain ⟨d0, d1, d2, d3, d4, d5, d6, d7, d8⟩ := K.cells; go_simp; try with_reducible rfl)
  simp only [Act.put, List.getElem_toArray, List.getElem_cons_zero, List.getElem_cons_succ, List.setIfInBounds_toArray, List.set_cons_zero, List.set_cons_succ]
  refine wpAnyH_take (i := 3) (v := ?_) rfl (by kernel_rfl) (by kernel_rfl) (by kernel_rfl) (fun _ _ _ h => h) (Or.inl ⟨by rfl, ?_⟩) hHeld ?_
  rotate_left
  · (intro wa hSw; go_simp; try with_reducible rfl)
  simp only [Act.put, List.getElem_toArray, List.getElem_cons_zero, List.getElem_cons_succ, List.setIfInBounds_toArray, List.set_cons_zero, List.set_cons_succ]
  refine wpAnyH_ready (rs := [2, 4]) (by kernel_rfl) (by simp) ?_
  refine AllReadyH.cons (o := _) rfl (fun K hK => ?_) (AllReadyH.cons (o := _) rfl (fun K hK => ?_) AllReadyH.nil)
  · go_simp
    refine (CA.out _ (OS.out _ hHeld).row).mono ?_
    rintro e w3 ⟨va, rfl, hao, b3⟩
    obtain ⟨aa, ac, hvf⟩ := owns_form hao
    subst hvf
    have hao' := IntRow.of_list hao (by rw [HLN.out]; omega)
    rw [HLN.out] at hao' ⊢
    have AR := Lib.hid hao'
    have B3 := Lib.hid b3
    clear hao hao'
    (try go_wp2_with fail)
    refine hK.out _ _ ?_ (fun hHeld3 => ?_)
    · exact KS.out _ _ hHeld B3.out
    clear hK K b3 B3 hHeld
    refine wpAnyH_ready (rs := [4]) (by kernel_rfl) (by simp) ?_
    refine AllReadyH.cons (o := _) rfl (fun K hK => ?_) AllReadyH.nil
    have hA : Below w3.heap.size w3 (w3.alloc (.cells #[] 3)) := (Below.refl _ _).alloc (Nat.le_refl _) _
    have OE := Lib.hid (owns_mono (World.ownsRow_lit (e := 3) (size := 1) w3 #[] 0 (Nat.le_refl _) (by decide) rfl) (base' := w.heap.size) (OS.out _ hHeld3).bel.size)
    have HA := Lib.hid hA
    have LTX := (OS.out _ hHeld3).lt
    clear hA
    replace AR := Lib.hid (AR.out.below HA.out (Nat.le_refl _))
    go_simp
    refine hK.out _ _ ?_ (fun hHeld4 => ?_)
    · exact KS.out _ _ hHeld3 HA.out
    clear hK K HA hHeld3
    have HXX : Hid (w.heap.size + 1 ≤ w3.heap.size) := LTX
    generalize w3.heap.size = X at *
    generalize w3.alloc (.cells #[] 3) = w4 at *
    refine wpAnyH_ready (rs := [5]) (by kernel_rfl) (by simp) ?_
    refine AllReadyH.cons (o := _) rfl (fun K hK => ?_) AllReadyH.nil
    go_simp
    have KK := OS.out _ hHeld4
    refine (CG.out _ _ _ KK.bel AR.out OE.out).mono ?_
    rintro e w9 ⟨rv, rfl, hro, b9⟩
    have b9' := b9 (w.heap.size + 1) KK.lt (fun q he => by have he' : X = q := (by simpa [Value.ownBlock] using he); have := HXX.out; omega)
    have K9 : BkAt w w9 w.heap.size fa fc la lc ga gc qa qc ta tc b := ⟨box_low KK.box b9' (Nat.lt_succ_self _), KK.row0, KK.bel.trans (b9'.mono (Nat.le_succ _))⟩
    have HE := Lib.hid K9.bel
    have HRO := Lib.hid hro
    clear KK hro b9 b9'
    (try go_wp2_with fail)
    refine hK.out _ _ ?_ (fun hHeld9 => ?_)
    · exact IK.out _ K9
    clear hK K
    refine wpAnyH_take (i := 6) (v := ?_) rfl (by kernel_rfl) (by kernel_rfl) (by kernel_rfl) (fun _ _ _ h => h) (Or.inl ⟨by rfl, ?_⟩) hHeld9 ?_
    rotate_left
    · (intro wa hSw; go_simp; try with_reducible rfl)
    simp only [Act.put, List.getElem_toArray, List.getElem_cons_zero, List.getElem_cons_succ, List.setIfInBounds_toArray, List.set_cons_zero, List.set_cons_succ]
    refine wpAnyH_done (by kernel_rfl) ?_ _
    clear KS OS hHeld9 K9 hHeld4 IK
    go_wp2
    go_ret
    exact ⟨_, rfl, HRO.out, HE.out⟩
  · have hA : Below wd.heap.size wd (wd.alloc (.cells #[] 3)) := (Below.refl _ _).alloc (Nat.le_refl _) _
    have OE := Lib.hid (owns_mono (World.ownsRow_lit (e := 3) (size := 1) wd #[] 0 (Nat.le_refl _) (by decide) rfl) (base' := w.heap.size) (OS.out _ hHeld).bel.size)
    have HA := Lib.hid hA
    have LTX := (OS.out _ hHeld).lt
    clear hA
    go_simp
    refine hK.out _ _ ?_ (fun hHeld3 => ?_)
    · exact KS.out _ _ hHeld HA.out
    clear hK K HA hHeld
    have HXX : Hid (w.heap.size + 1 ≤ wd.heap.size) := LTX
    generalize wd.heap.size = X at *
    generalize wd.alloc (.cells #[] 3) = w3 at *
    refine wpAnyH_ready (rs := [2]) (by kernel_rfl) (by simp) ?_
    refine AllReadyH.cons (o := _) rfl (fun K hK => ?_) AllReadyH.nil
    go_simp
    refine (CA.out _ (OS.out _ hHeld3).row).mono ?_
    rintro e w4 ⟨va, rfl, hao, b3⟩
    obtain ⟨aa, ac, hvf⟩ := owns_form hao
    subst hvf
    have hao' := IntRow.of_list hao (by rw [HLN.out]; omega)
    rw [HLN.out] at hao' ⊢
    have AR := Lib.hid hao'
    have B3 := Lib.hid b3
    clear hao hao'
    replace OE := Lib.hid (owns_below OE.out B3.out (Nat.le_refl _))
    (try go_wp2_with fail)
    refine hK.out _ _ ?_ (fun hHeld4 => ?_)
    · exact KS.out _ _ hHeld3 B3.out
    clear hK K b3 B3 hHeld3
    refine wpAnyH_ready (rs := [5]) (by kernel_rfl) (by simp) ?_
    refine AllReadyH.cons (o := _) rfl (fun K hK => ?_) AllReadyH.nil
    go_simp
    have KK := OS.out _ hHeld4
    refine (CG.out _ _ _ KK.bel AR.out OE.out).mono ?_
    rintro e w9 ⟨rv, rfl, hro, b9⟩
    have b9' := b9 (w.heap.size + 1) KK.lt (fun q he => by have he' : X = q := (by simpa [Value.ownBlock] using he); have := HXX.out; omega)
    have K9 : BkAt w w9 w.heap.size fa fc la lc ga gc qa qc ta tc b := ⟨box_low KK.box b9' (Nat.lt_succ_self _), KK.row0, KK.bel.trans (b9'.mono (Nat.le_succ _))⟩
    have HE := Lib.hid K9.bel
    have HRO := Lib.hid hro
    clear KK hro b9 b9'
    (try go_wp2_with fail)
    refine hK.out _ _ ?_ (fun hHeld9 => ?_)
    · exact IK.out _ K9
    clear hK K
    refine wpAnyH_take (i := 6) (v := ?_) rfl (by kernel_rfl) (by kernel_rfl) (by kernel_rfl) (fun _ _ _ h => h) (Or.inl ⟨by rfl, ?_⟩) hHeld9 ?_
    rotate_left
    · (intro wa hSw; go_simp; try with_reducible rfl)
    simp only [Act.put, List.getElem_toArray, List.getElem_cons_zero, List.getElem_cons_succ, List.setIfInBounds_toArray, List.set_cons_zero, List.set_cons_succ]
    refine wpAnyH_done (by kernel_rfl) ?_ _
    clear KS OS hHeld9 K9 hHeld4 IK
    go_wp2
    go_ret
    exact ⟨_, rfl, HRO.out, HE.out⟩
end Go.Proofs.YteciobkjfmddcaaGreat
set_option linter.unusedVariables false
namespace Go.Proofs.YteciobkjfmddcaaGreat
open Go.RowKit

theorem own_one {T : Ty} {w : World} {lo hi : Nat} {c : Value} {d : T.D} (h : T.Ow w lo [c] d []) (hh : hi ≤ w.heap.size) : OwN T w lo hi [c] d := ⟨[], h, List.nodup_nil, (fun q hq => by cases hq), hh⟩
theorem own_reason {w : World} {lo hi : Nat} {k f o : Int} {v : Value} {G : List Int} (h : OwN tIntS w lo hi [v] G) (hl : lo ≤ hi) : OwN tReason w lo hi [.int .i64 k, v, .int .i64 f, .int .i64 o] (k, G, f, o) := by
  have hh : hi ≤ w.heap.size := by obtain ⟨_, _, _, _, h4⟩ := h; exact h4
  have i1 : OwN tInt w hi hi [.int .i64 o] o := own_one (T := tInt) (d := o) ⟨rfl, rfl⟩ hh
  have i2 : OwN tInt w hi hi [.int .i64 f] f := own_one (T := tInt) (d := f) ⟨rfl, rfl⟩ hh
  have i3 : OwN tInt w lo lo [.int .i64 k] k := own_one (T := tInt) (d := k) ⟨rfl, rfl⟩ (Nat.le_trans hl hh)
  exact OwN.two i3 (OwN.two h (OwN.two i2 i1 (Nat.le_refl _) (Nat.le_refl _)) hl (Nat.le_refl _)) (Nat.le_refl _) hl
def rsnD (r : RsnD) : tReason.D := (r.key, r.grp, r.first, r.other)
theorem ReasonL.owN {w w' : World} {r : Option RsnD} {e : Ending} (h : ReasonL w r e w') :
    ∃ v : Value, e = .returned (.tuple #[.agg #[.int .i64 (r.getD rsn0).key, v, .int .i64 (r.getD rsn0).first, .int .i64 (r.getD rsn0).other], .bool r.isSome]) ∧ OwN tReason w' w.heap.size w'.heap.size [.int .i64 (r.getD rsn0).key, v, .int .i64 (r.getD rsn0).first, .int .i64 (r.getD rsn0).other] (rsnD (r.getD rsn0)) ∧ Below w.heap.size w w' := by
  obtain ⟨v, he, ho, hb⟩ := h
  exact ⟨v, he, own_reason (own_ints ho (fun q hq => (ho.lt q hq).2) (Nat.le_refl _)) hb.size, hb⟩
theorem rsn_len (b : BookD) (x y : Int) {c : Prop} [Decidable c] (hn : b.nf ≤ 1048576) : ((if c then findP b x y (allL b.nf) 0 else none).getD rsn0).grp.length ≤ 1048576 := by
  split
  · cases h : findP b x y (allL b.nf) 0 with
    | none => exact Nat.zero_le _
    | some r => have := findP_len b x y _ _ r h; rw [allL_len] at this; show r.grp.length ≤ _; omega
  · exact Nat.zero_le _
theorem marks_rsn {r : RsnD} (h : r.grp.length ≤ 1048576) : cnt_Reason (rsnD r) ≤ 100000000000 := by
  have := mks_IntS r.grp
  show 0 + (tIntS.mks r.grp + (0 + 0)) ≤ _
  omega
theorem steps_len (b : BookD) (hp : bookP b) (t : Int) : (stepP b t (allL b.nf) 0).length ≤ 1048576 := by
  have h1 := stepP_len b t _ (allL b.nf) 0 (Nat.lt_succ_self _)
  have hn8 : b.nf ≤ 8 := by have := hp.1.1; omega
  have hl8 : b.nl ≤ 8 := by have := hp.2.1.2.2.2.1; omega
  rw [allL_len] at h1
  unfold rankM at h1
  have h7 : b.nf * (b.nl + 1) ≤ 8 * (b.nl + 1) := Nat.mul_le_mul_right _ hn8
  omega
theorem marks_steps {c : Prop} [Decidable c] (b : BookD) (hp : c → bookP b) (t : Int) : tIntS.mks (if c then stepP b t (allL b.nf) 0 else []) ≤ 100000000000 := by
  have h2 : ∀ M : List Int, M = (if c then stepP b t (allL b.nf) 0 else []) → tIntS.mks M ≤ 100000000000 := by
    intro M hM
    rw [mks_IntS, hM]
    split
    · have := steps_len b (hp ‹_›) t; omega
    · simp
  exact h2 _ rfl
theorem rsn_ints {w : World} {k f o : Int} {v : Value} {d : tReason.D} (h : RdA tReason w [.int .i64 k, v, .int .i64 f, .int .i64 o] d) : IntRow w v (List.length (α := Int) d.2.1) (getI d.2.1) := by
  have t0 := (rd_split h).2
  have h1 : RdA tIntS w [v] d.2.1 := (rd_split t0).1
  exact rd_IntS.1 h1
end Go.Proofs.YteciobkjfmddcaaGreat
