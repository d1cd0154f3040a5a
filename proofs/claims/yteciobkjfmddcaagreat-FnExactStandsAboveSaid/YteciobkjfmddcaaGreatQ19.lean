/-
  Packed: Find.
-/
import Derived.Test.YteciobkjfmddcaaGreatQ2
import Derived.Test.YteciobkjfmddcaaGreatQ7
import Derived.Test.YteciobkjfmddcaaGreatQ15
import Derived.Test.YteciobkjfmddcaaGreatQ17
import Derived.Test.YteciobkjfmddcaaGreatQ18
set_option linter.unusedVariables false
namespace Go.Proofs.YteciobkjfmddcaaGreat
open Go.RowKit

def RsnD.vals (r : RsnD) (v : Value) : Array Value := #[.int .i64 r.key, v, .int .i64 r.first, .int .i64 r.other]
def ReasonL (w : World) (r : Option RsnD) (e : Ending) (w' : World) : Prop :=
  ∃ v, e = .returned (.tuple #[.agg ((r.getD rsn0).vals v), .bool r.isSome]) ∧ w'.ownsRow w.heap.size 3 1 v (r.getD rsn0).grp.length ((r.getD rsn0).grp.map (Value.int .i64)) ∧ Below w.heap.size w w'
theorem put_cell {B : Nat} {p : Addr} {v : Value} (hp : p.block ≠ B) : ∀ (vs : List Value) (o : Nat) (w : World), w.cell? p = some v → (putCs w B o vs).cell? p = some v
  | [], _, _, h => h
  | u :: vs, o, w, h => put_cell hp vs (o + 1) _ ((World.cell?_of_block (w := w) (w' := w.setCell ⟨B, o, none⟩ u) (a := p) (Below.heap_setCell w ⟨B, o, none⟩ u p.block hp)).trans h)
theorem BkAt.put {w0 : World} {B C : Nat} {fa : Option Addr} {fc : Nat} {la : Option Addr} {lc : Nat} {ga : Option Addr} {gc : Nat} {qa : Option Addr} {qc : Nat} {ta : Option Addr} {tc : Nat} {b : BookD} (hC : B ≠ C) (h0 : w0.heap.size ≤ C) :
    ∀ (vs : List Value) (o : Nat) (w : World), BkAt w0 w B fa fc la lc ga gc qa qc ta tc b → BkAt w0 (putCs w C o vs) B fa fc la lc ga gc qa qc ta tc b
  | [], _, _, h => h
  | u :: vs, o, w, h => BkAt.put hC h0 vs (o + 1) _ (h.store (p := ⟨C, o, none⟩) hC h0 u)
theorem owns_puts {w : World} {base B : Nat} {e : TypeId} {size n : Nat} {v : Value} {xs : List Value} (hB : B < base) : ∀ (vs : List Value) (o : Nat) (w : World), w.ownsRow base e size v n xs → (putCs w B o vs).ownsRow base e size v n xs
  | [], _, _, h => h
  | u :: vs, o, w, h => owns_puts (w := w) hB vs (o + 1) _ (owns_low h o u hB)
theorem valsL_get {V : Nat → Int} {k n : Nat} (h : k < n) : getI (valsL V n) k = V k := by unfold valsL getI; simp [h]
theorem valsL_len {V : Nat → Int} {n : Nat} : (valsL V n).length = n := by unfold valsL; simp
theorem l02Has_mem (v : Value) (p : List Int) (x : Int) (R : Bool) (w : World) (hR : R = true ↔ x ∈ p) (h : IntRow w v p.length (getI p)) :
    Calls Tryz.prog 92 #[v, .int .i64 x] w fun e w' => e = .returned (.bool R) ∧ w = w' := by
  cases R with
  | true => exact l02Has_yes v _ _ x w h ((hasP_mem p x).2 (hR.1 rfl))
  | false => exact l02Has_no v _ _ x w h (fun hh => by have := hR.2 ((hasP_mem p x).1 hh); cases this)
set_option maxRecDepth 100000 in
set_option maxHeartbeats 4000000 in
theorem l08Find_spec (vf vl vg vfa vta : Value) (b : BookD) (hp : bookP b) (x y : Nat) (hx : x < b.nf) (hy : y < b.nf) : ∀ (m : Nat) (G : List Int) (s : Nat) (gv : Value) (w : World), rankM b.nl G.length s < m → BookRow w vf vl vg vfa vta b → IntRow w gv G.length (getI G) → teamsP b.nf G.length (getI G) → G.length ≤ 1048576 → (s : Int) ≤ 9223372036854775807 →
    Calls Tryz.prog 46 #[.agg #[vf, .int .i64 b.win, .int .i64 b.draw, .int .i64 b.loss, vl, .bool b.again, vg, vfa, vta], gv, .int .i64 s, .int .i64 x, .int .i64 y] w (ReasonL w (findP b x y G s)) := by
  intro m
  induction m with
  | zero => intro G s gv w hm; exact absurd hm (Nat.not_lt_zero _)
  | succ m IH =>
  intro G s gv w hm h hgv ht hn6 hs63
  obtain ⟨i0, hi, hz0, hz1, hz2⟩ := info_parts Tryz.infoI
  obtain ⟨fa, fc, la, lc, ga, gc, qa, qc, ta, tc, rfl, rfl, rfl, rfl, rfl⟩ := h.form
  obtain ⟨xa, xc, rfl, hx64, _⟩ := hgv.form
  have hn8 : b.nl ≤ 8 := by have := hp.2.1.2.2.2.1; omega
  have hf8 : b.nf ≤ 8 := by have := hp.1.1; omega
  by_cases hsl : b.nl ≤ s
  · have K0 := Lib.hid (BkAt.made h 29)
    rw [findP_end b x y hsl]
    have g2 : decide ((b.nl : Int) ≤ s) = true := decide_eq_true (by omega)
    have g3 : decide (b.nl ≤ s) = true := decide_eq_true hsl
    clear IH
    have K1 := Lib.hid (K0.out.alloc (.cells #[.int .i64 0, .slice none 0 0, .int .i64 0, .int .i64 0] 45))
    have ZF1 := Lib.hid (BoxF.made (cs := #[.int .i64 0, .slice none 0 0, .int .i64 0, .int .i64 0]) (t := 45) (Below.refl _ (World.alloc _ (.cells #[.int .i64 0, .slice none 0 0, .int .i64 0, .int .i64 0] 45))) (by simp : (w.alloc (.cells (bkList fa fc la lc ga gc qa qc ta tc b).toArray 29)).heap.size = w.heap.size + 1))
    obtain ⟨d0, d1, d2, d3, d4, d5, d6, d7, d8⟩ := K1.out.cells
    have q0 := (ZF1.out.2 0 _ rfl).1
    have q1 := (ZF1.out.2 1 _ rfl).1
    have q2 := (ZF1.out.2 2 _ rfl).1
    have q3 := (ZF1.out.2 3 _ rfl).1
    go_enter Tryz.func46, Tryz.ntmps46
    go_wp2
    refine bodyPost_ret (v := .tuple #[.agg #[.int .i64 0, .slice none 0 0, .int .i64 0, .int .i64 0], .bool false]) (by simp [results, Tryz.results46, go_sem, q0, q1, q2, q3]) rfl ⟨.slice none 0 0, rfl, World.ownsRow_nil _ _ _ _, K1.out.bel⟩
  have hsl' : s < b.nl := by omega
  obtain ⟨lb, lof, rfl, hlc, cl0⟩ := int_at h.2.1 hsl'
  have K0 := Lib.hid (BkAt.made h 29)
  have hsx : (s : Int) < b.nl := by omega
  have g2 : decide ((b.nl : Int) ≤ s) = false := decide_eq_false (by omega)
  have g3 : decide (b.nl ≤ s) = false := decide_eq_false (by omega)
  obtain ⟨n, hn⟩ : ∃ n, G.length = n := ⟨_, rfl⟩
  have HLT : Hid (∀ p ∈ partsL b (b.l s) (getI G) n, rankM b.nl p.length (nextS b (partsL b (b.l s) (getI G) n).length s) < m) := fun p hp => by
    have := rankM_lt (b := b) (G := G) hsl' (by rw [hn]; exact hp)
    rw [hn] at this
    have h9 := hm
    rw [hn] at h9
    omega
  have HNX : Hid (nextS b (partsL b (b.l s) (getI G) n).length s = if 1 < (partsL b (b.l s) (getI G) n).length ∧ b.again = true ∧ mutualB (b.l s) = true then 0 else s + 1) := rfl
  have HPL : Hid (∀ p ∈ partsL b (b.l s) (getI G) n, p.length ≤ n ∧ teamsP b.nf p.length (getI p)) := fun p hp => ⟨partsL_le hp, fun i hi => by
    obtain ⟨j, hj, e⟩ := partsL_mem hp (getI p i) (by simp [getI, hi])
    rw [e]
    exact ht j (by omega)⟩
  have HPO : Hid (∀ p ∈ partsL b (b.l s) (getI G) n, p ≠ [] → 0 < n) := fun p hp hne => by
    have := (partsL_le hp); have := List.length_pos_iff.2 hne; omega
  have HF0 : Hid (hitL x y (partsL b (b.l s) (getI G) n) = none → findP b x y G s = none) := fun h => findP_none b (by rw [hn]; exact h)
  have HF1 : Hid (∀ p, hitL x y (partsL b (b.l s) (getI G) n) = some p → ((x : Int) ∈ p ∧ (y : Int) ∈ p) → findP b x y G s = findP b x y p (nextS b (partsL b (b.l s) (getI G) n).length s)) := fun p h1 h2 => by
    have := findP_on b hsl' (by rw [hn]; exact h1) h2
    rw [hn] at this; exact this
  have HF2 : Hid (∀ p, hitL x y (partsL b (b.l s) (getI G) n) = some p → ¬ ((x : Int) ∈ p ∧ (y : Int) ∈ p) → findP b x y G s = some ⟨b.l s, G, bookV b (b.l s) (getI G) n x, bookV b (b.l s) (getI G) n y⟩) := fun p h1 h2 => by
    have := findP_here b hsl' (by rw [hn]; exact h1) h2
    rw [hn] at this; exact this
  have HG : Hid (((List.range n).map fun j => Value.int .i64 (getI G j)) = G.map (Value.int .i64)) := by show _ = _; rw [← hn]; exact getI_range G
  have HN := Lib.hid hn
  rw [hn] at hgv ht hx64 hn6 ⊢
  have CV : Hid (∀ wa, BookRow wa (.slice fa b.nf fc) (.slice (some ⟨lb, lof, none⟩) b.nl lc) (.slice ga b.m gc) (.slice qa b.nfa qc) (.slice ta b.nta tc) b → IntRow wa (.slice xa n xc) n (getI G) → Calls Tryz.prog 93 #[.agg #[.slice fa b.nf fc, .int .i64 b.win, .int .i64 b.draw, .int .i64 b.loss, .slice (some ⟨lb, lof, none⟩) b.nl lc, .bool b.again, .slice ga b.m gc, .slice qa b.nfa qc, .slice ta b.nta tc], .int .i64 (b.l s), .slice xa n xc] wa (IntsL wa (valsL (bookV b (b.l s) (getI G) n) b.nf))) := fun wa h1 h2 => l07Values_spec _ _ _ _ _ b (b.l s) _ n (getI G) wa hp h1 h2
  have CMU : Hid (∀ wa, Calls Tryz.prog 94 #[.int .i64 (b.l s)] wa fun e w' => e = .returned (.bool (mutualB (b.l s))) ∧ wa = w') := fun wa => (isMutual_spec (b.l s) wa).mono fun _ _ h => ⟨h.1, h.2⟩
  have CSP : Hid (∀ wa, BookRow wa (.slice fa b.nf fc) (.slice (some ⟨lb, lof, none⟩) b.nl lc) (.slice ga b.m gc) (.slice qa b.nfa qc) (.slice ta b.nta tc) b → IntRow wa (.slice xa n xc) n (getI G) → Calls Tryz.prog 91 #[.agg #[.slice fa b.nf fc, .int .i64 b.win, .int .i64 b.draw, .int .i64 b.loss, .slice (some ⟨lb, lof, none⟩) b.nl lc, .bool b.again, .slice ga b.m gc, .slice qa b.nfa qc, .slice ta b.nta tc], .int .i64 (b.l s), .slice xa n xc] wa (ListsL wa (partsL b (b.l s) (getI G) n))) := fun wa h1 h2 => l07Split_spec _ _ _ _ _ b (b.l s) _ n (getI G) wa hp h1 h2 ht hn6
  have hpn := partsL_len (b := b) (key := b.l s) (gg := getI G) (n := n)
  have HGV := Lib.hid hgv
  clear hn hgv ht hm hp
  generalize partsL b (b.l s) (getI G) n = PL at *
  generalize mutualB (b.l s) = mu at *
  generalize bookV b (b.l s) (getI G) n = V at *
  generalize hkey : b.l s = key at *
  clear hkey
  generalize nextS b PL.length s = nx at *
  have CR : Hid (∀ z : Int, z = (nx : Int) → ∀ p ∈ PL, ∀ pv wa, BookRow wa (.slice fa b.nf fc) (.slice (some ⟨lb, lof, none⟩) b.nl lc) (.slice ga b.m gc) (.slice qa b.nfa qc) (.slice ta b.nta tc) b → IntRow wa pv p.length (getI p) → Calls Tryz.prog 46 #[.agg #[.slice fa b.nf fc, .int .i64 b.win, .int .i64 b.draw, .int .i64 b.loss, .slice (some ⟨lb, lof, none⟩) b.nl lc, .bool b.again, .slice ga b.m gc, .slice qa b.nfa qc, .slice ta b.nta tc], pv, .int .i64 z, .int .i64 x, .int .i64 y] wa (ReasonL wa (findP b x y p nx))) := by
    intro z hz p hp pv wa h1 h2
    subst hz
    refine IH p nx pv wa (HLT.out p hp) h1 h2 (HPL.out p hp).2 (by have := (HPL.out p hp).1; omega) ?_
    have := HNX.out
    split at this <;> omega
  clear IH HLT h
  have K1 := Lib.hid (K0.out.alloc (.cells #[.int .i64 0, .slice none 0 0, .int .i64 0, .int .i64 0] 45))
  have ZF1 := Lib.hid (BoxF.made (cs := #[.int .i64 0, .slice none 0 0, .int .i64 0, .int .i64 0]) (t := 45) (Below.refl _ (World.alloc _ (.cells #[.int .i64 0, .slice none 0 0, .int .i64 0, .int .i64 0] 45))) (by simp : (w.alloc (.cells (bkList fa fc (some ⟨lb, lof, none⟩) lc ga gc qa qc ta tc b).toArray 29)).heap.size = w.heap.size + 1)).of_put
  obtain ⟨U, hU⟩ : ∃ U, (w.alloc (.cells #[.slice fa b.nf fc, .int .i64 b.win, .int .i64 b.draw, .int .i64 b.loss, .slice (some ⟨lb, lof, none⟩) b.nl lc, .bool b.again, .slice ga b.m gc, .slice qa b.nfa qc, .slice ta b.nta tc] 29)).alloc (.cells #[.int .i64 0, .slice none 0 0, .int .i64 0, .int .i64 0] 45) = U := ⟨_, rfl⟩
  have hU' : (w.alloc (.cells (bkList fa fc (some ⟨lb, lof, none⟩) lc ga gc qa qc ta tc b).toArray 29)).alloc (.cells #[.int .i64 0, .slice none 0 0, .int .i64 0, .int .i64 0] 45) = U := hU
  rw [hU'] at K1 ZF1
  change Hid (ResAt U (w.heap.size + 1) 4) at ZF1
  clear hU' K0
  have cl1 := (Below.cell K1.out.bel (p := ⟨lb, lof + s, none⟩) (World.block_lt_of_cell? w _ cl0)).trans cl0
  obtain ⟨d0, d1, d2, d3, d4, d5, d6, d7, d8⟩ := K1.out.cells
  go_enter Tryz.func46, Tryz.ntmps46
  go_wp2_with fail
  refine (CSP.out _ K1.out.row (HGV.out.below K1.out.bel (Nat.le_refl _))).mono ?_
  rintro e w1 ⟨v8, T, rfl, hT, hLL, b1⟩
  clear hU
  have K2 := Lib.hid (K1.out.next b1)
  have ZF2 := Lib.hid (ZF1.out.below b1)
  have HL2 := Lib.hid hLL
  have HT := Lib.hid hT
  obtain ⟨pa, pc, hvf⟩ := owns_form hLL.1
  subst hvf
  have hTl : T.length = PL.length := by rw [← hT, List.length_map]
  have hTn : T.length ≤ 1048576 := by omega
  have HTL := Lib.hid hTl
  clear d0 d1 d2 d3 d4 d5 d6 d7 d8 K1 ZF1 CSP hT hLL b1 hTl cl1 cl0
  go_wp2
  go_loop [38] (fun iv => ∃ k : Nat, k ≤ T.length ∧ iv = .int .i64 k ∧ Hid (∀ j q, j < k → PL[j]? = some q → ¬ ((x : Int) ∈ q ∨ (y : Int) ∈ q))) (fun iv => T.length - (RowKit.intOf iv).toNat)
  case atStart => exact ⟨0, Nat.zero_le _, rfl, fun j q hj => absurd hj (Nat.not_lt_zero _)⟩
  case round =>
    obtain ⟨k, hk, rfl, HNO⟩ := hrel
    by_cases hlt : k < T.length
    · obtain ⟨⟨pv, p⟩, hy9⟩ : ∃ y, T[k]? = some y := ⟨_, List.getElem?_eq_getElem hlt⟩
      have hyp : PL[k]? = some p := by rw [← HT.out, List.getElem?_map, hy9]; rfl
      have hyP : p ∈ PL := List.mem_of_getElem? hyp
      have hrow := HL2.out.2.1 _ (List.mem_of_getElem? hy9)
      have hpn2 : p.length ≤ n := (HPL.out _ hyP).1
      obtain ⟨pg, pcap, he, hpc, _, cp⟩ := vals_at (x := pv) (j := k) HL2.out.1 (by rw [List.getElem?_map, hy9]; rfl)
      simp only [Value.slice.injEq, true_and] at he
      obtain ⟨rfl, rfl⟩ := he
      have PR := Lib.hid (IntRow.of_list hrow (by show p.length ≤ _; omega))
      change Hid (IntRow w1 pv p.length (getI p)) at PR
      obtain ⟨ya, yc, hyf⟩ := owns_form hrow
      change pv = .slice ya p.length yc at hyf
      subst hyf
      change Hid (IntRow w1 (.slice ya p.length yc) p.length (getI p)) at PR
      obtain ⟨r1, hr1⟩ := boolEx ((x : Int) ∈ p)
      obtain ⟨r2, hr2⟩ := boolEx ((y : Int) ∈ p)
      have H1 := Lib.hid (fun wa h => l02Has_mem (.slice ya p.length yc) p x r1 wa hr1 h)
      have H2 := Lib.hid (fun wa h => l02Has_mem (.slice ya p.length yc) p y r2 wa hr2 h)
      have HR1 := Lib.hid hr1
      have HR2 := Lib.hid hr2
      have hklt : (k : Int) < T.length := by omega
      clear hrow hy9 hr1 hr2
      go_wp2_with fail
      refine (H1.out _ PR.out).mono ?_
      rintro e wa ⟨rfl, rfl⟩
      go_wp2_with fail
      refine (H2.out _ PR.out).mono ?_
      rintro e wa ⟨rfl, rfl⟩
      cases r1 with
      | false =>
        cases r2 with
        | false =>
          have HNN : Hid (∀ j q, j < k + 1 → PL[j]? = some q → ¬ ((x : Int) ∈ q ∨ (y : Int) ∈ q)) := fun j q hj hq h => by
            by_cases hjk : j = k
            · subst hjk
              rw [hyp] at hq
              cases hq
              rcases h with h | h
              · have := HR1.out.2 h; cases this
              · have := HR2.out.2 h; cases this
            · exact HNO.out j q (by omega) hq h
          clear HNO HF0 HF1 HF2 CR CV CMU
          go_wp2
          go_round
          case rel => exact ⟨k + 1, by omega, by go_num, HNN⟩
          case measure => simp [RowKit.intOf]; omega
        | true =>
          have HH : Hid (findP b x y G s = some ⟨key, G, V x, V y⟩) := HF2.out p (hit_at hyp (.inr (HR2.out.1 rfl)) HNO.out) (fun h => by have := HR1.out.2 h.1; cases this)
          have hn0 : 0 < n := HPO.out p hyP (by intro h0; subst h0; cases HR2.out.1 rfl)
          obtain ⟨d0, d1, d2, d3, d4, d5, d6, d7, d8⟩ := K2.out.cells
          clear HF0 HF1 HF2 CR HNO HR1 HR2 hyp hyP H1 H2 PR
          go_wp2_with fail
          refine (CV.out _ K2.out.row (HGV.out.below K2.out.bel (Nat.le_refl _))).mono ?_
          rintro e w3 h3
          obtain ⟨vv, rfl, hVR, ⟨xs, hVO⟩, b3⟩ := h3.made (by rw [valsL_len]; omega)
          rw [valsL_len] at hVR hVO
          obtain ⟨va, vc, hvv⟩ := owns_form hVO
          subst hvv
          obtain ⟨vb, vo, rfl, hvc, cx⟩ := int_at hVR hx
          obtain ⟨vb', vo', he, _, cy⟩ := int_at hVR hy
          simp only [Option.some.injEq, Addr.mk.injEq, and_true] at he
          obtain ⟨rfl, rfl⟩ := he
          rw [valsL_get hx] at cx
          rw [valsL_get hy] at cy
          have h2lt := ZF2.out.lt
          have hvb : w.heap.size + 2 ≤ vb := by have := (hVO.lt vb rfl).1; omega
          have K3 := Lib.hid (K2.out.next b3)
          have ZF3 := Lib.hid (ZF2.out.below b3)
          clear d0 d1 d2 d3 d4 d5 d6 d7 d8 K2 ZF2 hVR hVO b3 CV h3 h2lt
          generalize V x = vx at *
          generalize V y = vy at *
          have hxI : (x : Int) < b.nf := by omega
          have hyI : (y : Int) < b.nf := by omega
          have h3lt := ZF3.out.lt
          have hWD : Hid (w.heap.size + 1 < w3.drew.heap.size) := by show _ < _; have := (Below.refl w3.heap.size w3).drew.size; omega
          obtain ⟨S, HSd⟩ : ∃ S : World → Prop, S = fun w' => BkAt w w' w.heap.size fa fc (some ⟨lb, lof, none⟩) lc ga gc qa qc ta tc b ∧ ResAt w' (w.heap.size + 1) 4 ∧ World.cell? w' ⟨vb, vo + x, none⟩ = some (.int .i64 vx) ∧ World.cell? w' ⟨vb, vo + y, none⟩ = some (.int .i64 vy) := ⟨_, rfl⟩
          have KS : Hid (∀ wa wb, S wa → Below wa.heap.size wa wb → S wb) := by subst HSd; exact fun wa wb h b => ⟨h.1.next b, h.2.1.below b, (Below.cell b (World.block_lt_of_cell? wa _ h.2.2.1)).trans h.2.2.1, (Below.cell b (World.block_lt_of_cell? wa _ h.2.2.2)).trans h.2.2.2⟩
          have OS : Hid (∀ wa, S wa → BkAt w wa w.heap.size fa fc (some ⟨lb, lof, none⟩) lc ga gc qa qc ta tc b ∧ ResAt wa (w.heap.size + 1) 4 ∧ World.cell? wa ⟨vb, vo + x, none⟩ = some (.int .i64 vx) ∧ World.cell? wa ⟨vb, vo + y, none⟩ = some (.int .i64 vy)) := by subst HSd; exact fun wa h => h
          have IS : Hid (∀ wa, (BkAt w wa w.heap.size fa fc (some ⟨lb, lof, none⟩) lc ga gc qa qc ta tc b ∧ ResAt wa (w.heap.size + 1) 4 ∧ World.cell? wa ⟨vb, vo + x, none⟩ = some (.int .i64 vx) ∧ World.cell? wa ⟨vb, vo + y, none⟩ = some (.int .i64 vy)) → S wa) := by subst HSd; exact fun wa h => h
          have KS0 : Hid (S w3) := IS.out _ ⟨K3.out, ZF3.out, cx, cy⟩
          clear HSd cx cy
          go_wp2_with fail
          refine wp_region_held_drew (S := S) (by kernel_rfl) ?_ (fun hHeld => ?_)
          · exact KS.out _ _ KS0.out (Below.refl _ _).drew
          generalize w3.drew = wd at *
          refine wpAnyH_take (i := 0) (v := ?_) rfl (by kernel_rfl) (by kernel_rfl) (by kernel_rfl) (fun _ _ _ h => h) (Or.inl ⟨by rfl, ?_⟩) hHeld ?_
          rotate_left
          · (intro wa hSw; go_simp; try with_reducible rfl)
          simp only [Act.put, List.getElem_toArray, List.getElem_cons_zero, List.setIfInBounds_toArray, List.set_cons_zero, List.set_cons_succ]
          refine wpAnyH_take (i := 2) (v := ?_) rfl (by kernel_rfl) (by kernel_rfl) (by kernel_rfl) (fun _ _ _ h => h) (Or.inl ⟨by rfl, ?_⟩) hHeld ?_
          rotate_left
          · (intro wa hSw; go_simp; try with_reducible rfl)
          simp only [Act.put, List.getElem_toArray, List.getElem_cons_zero, List.getElem_cons_succ, List.setIfInBounds_toArray, List.set_cons_zero, List.set_cons_succ]
          refine wpAnyH_take (i := 4) (v := ?_) rfl (by kernel_rfl) (by kernel_rfl) (by kernel_rfl) (fun _ _ _ h => h) (Or.inl ⟨by rfl, ?_⟩) hHeld ?_
          rotate_left
          · (intro wa hSw; go_simp; try with_reducible rfl)
          simp only [Act.put, List.getElem_toArray, List.getElem_cons_zero, List.getElem_cons_succ, List.setIfInBounds_toArray, List.set_cons_zero, List.set_cons_succ]
          refine wpAnyH_take (i := 5) (v := ?_) rfl (by kernel_rfl) (by kernel_rfl) (by kernel_rfl) (fun _ _ _ h => h) (Or.inl ⟨by rfl, ?_⟩) hHeld ?_
          rotate_left
          · (intro wa hSw; go_simp; try with_reducible rfl)
          simp only [Act.put, List.getElem_toArray, List.getElem_cons_zero, List.getElem_cons_succ, List.setIfInBounds_toArray, List.set_cons_zero, List.set_cons_succ]
          refine wpAnyH_take (i := 6) (v := ?_) rfl (by kernel_rfl) (by kernel_rfl) (by kernel_rfl) (fun _ _ _ h => h) (Or.inl ⟨by rfl, ?_⟩) hHeld ?_
          rotate_left
          · (intro wa hSw; go_simp; try with_reducible rfl)
          simp only [Act.put, List.getElem_toArray, List.getElem_cons_zero, List.getElem_cons_succ, List.setIfInBounds_toArray, List.set_cons_zero, List.set_cons_succ]
          refine wpAnyH_take (i := 7) (v := ?_) rfl (by kernel_rfl) (by kernel_rfl) (by kernel_rfl) (fun _ _ _ h => h) (Or.inl ⟨by rfl, ?_⟩) hHeld ?_
          rotate_left
          · (intro wa hSw; obtain ⟨_, _, cx, cy⟩ := OS.out _ hSw; go_simp; try with_reducible rfl)
          simp only [Act.put, List.getElem_toArray, List.getElem_cons_zero, List.getElem_cons_succ, List.setIfInBounds_toArray, List.set_cons_zero, List.set_cons_succ]
          refine wpAnyH_take (i := 8) (v := ?_) rfl (by kernel_rfl) (by kernel_rfl) (by kernel_rfl) (fun _ _ _ h => h) (Or.inl ⟨by rfl, ?_⟩) hHeld ?_
          rotate_left
          · (intro wa hSw; go_simp; try with_reducible rfl)
          simp only [Act.put, List.getElem_toArray, List.getElem_cons_zero, List.getElem_cons_succ, List.setIfInBounds_toArray, List.set_cons_zero, List.set_cons_succ]
          refine wpAnyH_take (i := 9) (v := ?_) rfl (by kernel_rfl) (by kernel_rfl) (by kernel_rfl) (fun _ _ _ h => h) (Or.inl ⟨by rfl, ?_⟩) hHeld ?_
          rotate_left
          · (intro wa hSw; go_simp; try with_reducible rfl)
          simp only [Act.put, List.getElem_toArray, List.getElem_cons_zero, List.getElem_cons_succ, List.setIfInBounds_toArray, List.set_cons_zero, List.set_cons_succ]
          refine wpAnyH_take (i := 10) (v := ?_) rfl (by kernel_rfl) (by kernel_rfl) (by kernel_rfl) (fun _ _ _ h => h) (Or.inl ⟨by rfl, ?_⟩) hHeld ?_
          rotate_left
          · (intro wa hSw; go_simp; try with_reducible rfl)
          simp only [Act.put, List.getElem_toArray, List.getElem_cons_zero, List.getElem_cons_succ, List.setIfInBounds_toArray, List.set_cons_zero, List.set_cons_succ]
          refine wpAnyH_take (i := 11) (v := ?_) rfl (by kernel_rfl) (by kernel_rfl) (by kernel_rfl) (fun _ _ _ h => h) (Or.inl ⟨by rfl, ?_⟩) hHeld ?_
          rotate_left
          · (intro wa hSw; obtain ⟨_, _, cx, cy⟩ := OS.out _ hSw; go_simp; try with_reducible rfl)
          simp only [Act.put, List.getElem_toArray, List.getElem_cons_zero, List.getElem_cons_succ, List.setIfInBounds_toArray, List.set_cons_zero, List.set_cons_succ]
          refine wpAnyH_ready (rs := [1]) (by kernel_rfl) (by simp) ?_
          refine AllReadyH.cons (o := _) rfl (fun K hK => ?_) AllReadyH.nil
          have hA : Below wd.heap.size wd (wd.alloc (.cells #[] 3)) := (Below.refl _ _).alloc (Nat.le_refl _) _
          have ON := Lib.hid (World.ownsRow_lit (e := 3) (size := 1) wd #[] 0 (Nat.le_refl _) (by decide) rfl)
          have HX : Hid (wd.heap.size < (wd.alloc (.cells #[] 3)).heap.size) := by show _ < _; simp
          have HA := Lib.hid hA
          go_simp
          refine hK.out _ _ ?_ (fun hHeld1 => ?_)
          · exact KS.out _ _ hHeld HA.out
          clear hK K hA
          generalize wd.alloc (.cells #[] 3) = we at *
          have GV1 := Lib.hid (HGV.out.below (OS.out _ hHeld1).1.bel (Nat.le_refl _))
          refine wpAnyH_ready (rs := [3]) (by kernel_rfl) (by simp) ?_
          refine AllReadyH.cons (o := _) rfl (fun K hK => ?_) AllReadyH.nil
          refine step_cloneI _ (by rfl) (.tmp 56) (.tmp 57) 24 (by rfl) wd.heap.size 3 i0 Tryz.underlying24 hi hz0 hz1 hz2 wd.heap.size (by rfl) ON.out (.slice xa n xc) n (getI G) (by rfl) GV1.out hn0 hn6 (Nat.le_refl _) HX.out ?_
          intro gg cc wc og g5
          have OG := Lib.hid og
          have HC : Hid (Below wd.heap.size wd wc) := HA.out.grown g5 (by have := HX.out; omega) (fun k hk => by cases hk; exact Nat.le_refl _)
          have HS1 := Lib.hid (KS.out _ _ hHeld HC.out)
          clear og g5 hHeld1 GV1 ON HX HA
          refine hK.out _ _ ?_ (fun hHeld2 => ?_)
          · exact HS1.out
          clear hK K HS1
          refine wpAnyH_take (i := 12) (v := ?_) rfl (by kernel_rfl) (by kernel_rfl) (by kernel_rfl) (fun _ _ _ h => h) (Or.inl ⟨by rfl, ?_⟩) hHeld2 ?_
          rotate_left
          · (intro wa hSw; go_simp; try with_reducible rfl)
          simp only [Act.put, List.getElem_toArray, List.getElem_cons_zero, List.getElem_cons_succ, List.setIfInBounds_toArray, List.set_cons_zero, List.set_cons_succ]
          refine wpAnyH_ready (rs := [13]) (by kernel_rfl) (by simp) ?_
          refine AllReadyH.cons (o := _) rfl (fun K hK => ?_) AllReadyH.nil
          have KK := OS.out _ hHeld2
          obtain ⟨⟨x0, q0⟩, z0⟩ := KK.2.1.at 0 (by omega)
          obtain ⟨⟨x1, q1⟩, z1⟩ := KK.2.1.at 1 (by omega)
          obtain ⟨⟨x2, q2⟩, z2⟩ := KK.2.1.at 2 (by omega)
          obtain ⟨⟨x3, q3⟩, z3⟩ := KK.2.1.at 3 (by omega)
          have hRlt := KK.2.1.lt
          clear KK
          go_simp
          refine hK.out _ _ ?_ (fun hHeld3 => ?_)
          · exact IS.out _ ((fun K => ⟨BkAt.put (B := w.heap.size) (C := w.heap.size + 1) (by omega) (by omega) [.int .i64 key, .slice (some ⟨gg, 0, none⟩) n cc, .int .i64 vx, .int .i64 vy] 0 _ K.1, (K.2.1.put (vs := [.int .i64 key, .slice (some ⟨gg, 0, none⟩) n cc, .int .i64 vx, .int .i64 vy]) rfl).of_put, put_cell (by show vb ≠ _; omega) [.int .i64 key, .slice (some ⟨gg, 0, none⟩) n cc, .int .i64 vx, .int .i64 vy] 0 _ K.2.2.1, put_cell (by show vb ≠ _; omega) [.int .i64 key, .slice (some ⟨gg, 0, none⟩) n cc, .int .i64 vx, .int .i64 vy] 0 _ K.2.2.2⟩) (OS.out _ hHeld2))
          clear hK K q0 q1 q2 q3 z0 z1 z2 z3 hRlt
          refine wpAnyH_take (i := 14) (v := ?_) rfl (by kernel_rfl) (by kernel_rfl) (by kernel_rfl) (fun _ _ _ h => h) (Or.inl ⟨by rfl, ?_⟩) hHeld3 ?_
          rotate_left
          · (intro wa hSw; go_simp; try with_reducible rfl)
          simp only [Act.put, List.getElem_toArray, List.getElem_cons_zero, List.getElem_cons_succ, List.setIfInBounds_toArray, List.set_cons_zero, List.set_cons_succ]
          have KE := Lib.hid (OS.out _ hHeld2)
          clear hHeld3 hHeld2 hHeld
          refine wpAnyH_done (by kernel_rfl) ?_ _
          clear KS OS IS KS0
          refine post_named fun w9 hw9 => ?_
          have e9 : w9 = putCs wc (w.heap.size + 1) 0 [.int .i64 key, .slice (some ⟨gg, 0, none⟩) n cc, .int .i64 vx, .int .i64 vy] := hw9.out
          have HB9 := Lib.hid (BkAt.put (B := w.heap.size) (C := w.heap.size + 1) (by omega) (by omega) [.int .i64 key, .slice (some ⟨gg, 0, none⟩) n cc, .int .i64 vx, .int .i64 vy] 0 _ KE.out.1).bel
          have HX9 := Lib.hid (KE.out.2.1.put (vs := [.int .i64 key, .slice (some ⟨gg, 0, none⟩) n cc, .int .i64 vx, .int .i64 vy]) rfl)
          have HO9 := Lib.hid (owns_puts (w := wc) (B := w.heap.size + 1) (by have := hWD.out; omega) [.int .i64 key, .slice (some ⟨gg, 0, none⟩) n cc, .int .i64 vx, .int .i64 vy] 0 _ OG.out)
          rw [← e9] at HX9 HO9
          have HB9' : Hid (Below w.heap.size w w9) := by rw [e9]; exact HB9
          clear hw9 e9 HB9 KE OG
          have y0 := (HX9.out.2 0 _ rfl).1
          have y1 := (HX9.out.2 1 _ rfl).1
          have y2 := (HX9.out.2 2 _ rfl).1
          have y3 := (HX9.out.2 3 _ rfl).1
          have y_lt := HX9.out.1
          clear HX9
          go_wp2
          (try simp only [Exit.inBlock, Exit.then])
          refine bodyPost_ret (v := .tuple #[.agg #[.int .i64 key, .slice (some ⟨gg, 0, none⟩) n cc, .int .i64 vx, .int .i64 vy], .bool true]) (by simp [results, Tryz.results46, go_sem, y0, y1, y2, y3]) rfl ?_
          rw [HH.out]
          refine ⟨_, rfl, ?_, HB9'.out⟩
          rw [HG.out] at HO9
          have hO := owns_mono HO9.out (base' := w.heap.size) (by have := hWD.out; omega)
          show World.ownsRow _ _ _ _ _ G.length _
          rw [HN.out]
          exact hO
      | true =>
        cases r2 with
        | false =>
          have HH : Hid (findP b x y G s = some ⟨key, G, V x, V y⟩) := HF2.out p (hit_at hyp (.inl (HR1.out.1 rfl)) HNO.out) (fun h => by have := HR2.out.2 h.2; cases this)
          have hn0 : 0 < n := HPO.out p hyP (by intro h0; subst h0; cases HR1.out.1 rfl)
          obtain ⟨d0, d1, d2, d3, d4, d5, d6, d7, d8⟩ := K2.out.cells
          clear HF0 HF1 HF2 CR HNO HR1 HR2 hyp hyP H1 H2 PR
          go_wp2_with fail
          refine (CV.out _ K2.out.row (HGV.out.below K2.out.bel (Nat.le_refl _))).mono ?_
          rintro e w3 h3
          obtain ⟨vv, rfl, hVR, ⟨xs, hVO⟩, b3⟩ := h3.made (by rw [valsL_len]; omega)
          rw [valsL_len] at hVR hVO
          obtain ⟨va, vc, hvv⟩ := owns_form hVO
          subst hvv
          obtain ⟨vb, vo, rfl, hvc, cx⟩ := int_at hVR hx
          obtain ⟨vb', vo', he, _, cy⟩ := int_at hVR hy
          simp only [Option.some.injEq, Addr.mk.injEq, and_true] at he
          obtain ⟨rfl, rfl⟩ := he
          rw [valsL_get hx] at cx
          rw [valsL_get hy] at cy
          have h2lt := ZF2.out.lt
          have hvb : w.heap.size + 2 ≤ vb := by have := (hVO.lt vb rfl).1; omega
          have K3 := Lib.hid (K2.out.next b3)
          have ZF3 := Lib.hid (ZF2.out.below b3)
          clear d0 d1 d2 d3 d4 d5 d6 d7 d8 K2 ZF2 hVR hVO b3 CV h3 h2lt
          generalize V x = vx at *
          generalize V y = vy at *
          have hxI : (x : Int) < b.nf := by omega
          have hyI : (y : Int) < b.nf := by omega
          have h3lt := ZF3.out.lt
          have hWD : Hid (w.heap.size + 1 < w3.drew.heap.size) := by show _ < _; have := (Below.refl w3.heap.size w3).drew.size; omega
          obtain ⟨S, HSd⟩ : ∃ S : World → Prop, S = fun w' => BkAt w w' w.heap.size fa fc (some ⟨lb, lof, none⟩) lc ga gc qa qc ta tc b ∧ ResAt w' (w.heap.size + 1) 4 ∧ World.cell? w' ⟨vb, vo + x, none⟩ = some (.int .i64 vx) ∧ World.cell? w' ⟨vb, vo + y, none⟩ = some (.int .i64 vy) := ⟨_, rfl⟩
          have KS : Hid (∀ wa wb, S wa → Below wa.heap.size wa wb → S wb) := by subst HSd; exact fun wa wb h b => ⟨h.1.next b, h.2.1.below b, (Below.cell b (World.block_lt_of_cell? wa _ h.2.2.1)).trans h.2.2.1, (Below.cell b (World.block_lt_of_cell? wa _ h.2.2.2)).trans h.2.2.2⟩
          have OS : Hid (∀ wa, S wa → BkAt w wa w.heap.size fa fc (some ⟨lb, lof, none⟩) lc ga gc qa qc ta tc b ∧ ResAt wa (w.heap.size + 1) 4 ∧ World.cell? wa ⟨vb, vo + x, none⟩ = some (.int .i64 vx) ∧ World.cell? wa ⟨vb, vo + y, none⟩ = some (.int .i64 vy)) := by subst HSd; exact fun wa h => h
          have IS : Hid (∀ wa, (BkAt w wa w.heap.size fa fc (some ⟨lb, lof, none⟩) lc ga gc qa qc ta tc b ∧ ResAt wa (w.heap.size + 1) 4 ∧ World.cell? wa ⟨vb, vo + x, none⟩ = some (.int .i64 vx) ∧ World.cell? wa ⟨vb, vo + y, none⟩ = some (.int .i64 vy)) → S wa) := by subst HSd; exact fun wa h => h
          have KS0 : Hid (S w3) := IS.out _ ⟨K3.out, ZF3.out, cx, cy⟩
          clear HSd cx cy
          go_wp2_with fail
          refine wp_region_held_drew (S := S) (by kernel_rfl) ?_ (fun hHeld => ?_)
          · exact KS.out _ _ KS0.out (Below.refl _ _).drew
          generalize w3.drew = wd at *
          refine wpAnyH_take (i := 0) (v := ?_) rfl (by kernel_rfl) (by kernel_rfl) (by kernel_rfl) (fun _ _ _ h => h) (Or.inl ⟨by rfl, ?_⟩) hHeld ?_
          rotate_left
          · (intro wa hSw; go_simp; try with_reducible rfl)
          simp only [Act.put, List.getElem_toArray, List.getElem_cons_zero, List.setIfInBounds_toArray, List.set_cons_zero, List.set_cons_succ]
          refine wpAnyH_take (i := 2) (v := ?_) rfl (by kernel_rfl) (by kernel_rfl) (by kernel_rfl) (fun _ _ _ h => h) (Or.inl ⟨by rfl, ?_⟩) hHeld ?_
          rotate_left
          · (intro wa hSw; go_simp; try with_reducible rfl)
          simp only [Act.put, List.getElem_toArray, List.getElem_cons_zero, List.getElem_cons_succ, List.setIfInBounds_toArray, List.set_cons_zero, List.set_cons_succ]
          refine wpAnyH_take (i := 4) (v := ?_) rfl (by kernel_rfl) (by kernel_rfl) (by kernel_rfl) (fun _ _ _ h => h) (Or.inl ⟨by rfl, ?_⟩) hHeld ?_
          rotate_left
          · (intro wa hSw; go_simp; try with_reducible rfl)
          simp only [Act.put, List.getElem_toArray, List.getElem_cons_zero, List.getElem_cons_succ, List.setIfInBounds_toArray, List.set_cons_zero, List.set_cons_succ]
          refine wpAnyH_take (i := 5) (v := ?_) rfl (by kernel_rfl) (by kernel_rfl) (by kernel_rfl) (fun _ _ _ h => h) (Or.inl ⟨by rfl, ?_⟩) hHeld ?_
          rotate_left
          · (intro wa hSw; go_simp; try with_reducible rfl)
          simp only [Act.put, List.getElem_toArray, List.getElem_cons_zero, List.getElem_cons_succ, List.setIfInBounds_toArray, List.set_cons_zero, List.set_cons_succ]
          refine wpAnyH_take (i := 6) (v := ?_) rfl (by kernel_rfl) (by kernel_rfl) (by kernel_rfl) (fun _ _ _ h => h) (Or.inl ⟨by rfl, ?_⟩) hHeld ?_
          rotate_left
          · (intro wa hSw; go_simp; try with_reducible rfl)
          simp only [Act.put, List.getElem_toArray, List.getElem_cons_zero, List.getElem_cons_succ, List.setIfInBounds_toArray, List.set_cons_zero, List.set_cons_succ]
          refine wpAnyH_take (i := 7) (v := ?_) rfl (by kernel_rfl) (by kernel_rfl) (by kernel_rfl) (fun _ _ _ h => h) (Or.inl ⟨by rfl, ?_⟩) hHeld ?_
          rotate_left
          · (intro wa hSw; obtain ⟨_, _, cx, cy⟩ := OS.out _ hSw; go_simp; try with_reducible rfl)
          simp only [Act.put, List.getElem_toArray, List.getElem_cons_zero, List.getElem_cons_succ, List.setIfInBounds_toArray, List.set_cons_zero, List.set_cons_succ]
          refine wpAnyH_take (i := 8) (v := ?_) rfl (by kernel_rfl) (by kernel_rfl) (by kernel_rfl) (fun _ _ _ h => h) (Or.inl ⟨by rfl, ?_⟩) hHeld ?_
          rotate_left
          · (intro wa hSw; go_simp; try with_reducible rfl)
          simp only [Act.put, List.getElem_toArray, List.getElem_cons_zero, List.getElem_cons_succ, List.setIfInBounds_toArray, List.set_cons_zero, List.set_cons_succ]
          refine wpAnyH_take (i := 9) (v := ?_) rfl (by kernel_rfl) (by kernel_rfl) (by kernel_rfl) (fun _ _ _ h => h) (Or.inl ⟨by rfl, ?_⟩) hHeld ?_
          rotate_left
          · (intro wa hSw; go_simp; try with_reducible rfl)
          simp only [Act.put, List.getElem_toArray, List.getElem_cons_zero, List.getElem_cons_succ, List.setIfInBounds_toArray, List.set_cons_zero, List.set_cons_succ]
          refine wpAnyH_take (i := 10) (v := ?_) rfl (by kernel_rfl) (by kernel_rfl) (by kernel_rfl) (fun _ _ _ h => h) (Or.inl ⟨by rfl, ?_⟩) hHeld ?_
          rotate_left
          · (intro wa hSw; go_simp; try with_reducible rfl)
          simp only [Act.put, List.getElem_toArray, List.getElem_cons_zero, List.getElem_cons_succ, List.setIfInBounds_toArray, List.set_cons_zero, List.set_cons_succ]
          refine wpAnyH_take (i := 11) (v := ?_) rfl (by kernel_rfl) (by kernel_rfl) (by kernel_rfl) (fun _ _ _ h => h) (Or.inl ⟨by rfl, ?_⟩) hHeld ?_
          rotate_left
          · (intro wa hSw; obtain ⟨_, _, cx, cy⟩ := OS.out _ hSw; go_simp; try with_reducible rfl)
          simp only [Act.put, List.getElem_toArray, List.getElem_cons_zero, List.getElem_cons_succ, List.setIfInBounds_toArray, List.set_cons_zero, List.set_cons_succ]
          refine wpAnyH_ready (rs := [1]) (by kernel_rfl) (by simp) ?_
          refine AllReadyH.cons (o := _) rfl (fun K hK => ?_) AllReadyH.nil
          have hA : Below wd.heap.size wd (wd.alloc (.cells #[] 3)) := (Below.refl _ _).alloc (Nat.le_refl _) _
          have ON := Lib.hid (World.ownsRow_lit (e := 3) (size := 1) wd #[] 0 (Nat.le_refl _) (by decide) rfl)
          have HX : Hid (wd.heap.size < (wd.alloc (.cells #[] 3)).heap.size) := by show _ < _; simp
          have HA := Lib.hid hA
          go_simp
          refine hK.out _ _ ?_ (fun hHeld1 => ?_)
          · exact KS.out _ _ hHeld HA.out
          clear hK K hA
          generalize wd.alloc (.cells #[] 3) = we at *
          have GV1 := Lib.hid (HGV.out.below (OS.out _ hHeld1).1.bel (Nat.le_refl _))
          refine wpAnyH_ready (rs := [3]) (by kernel_rfl) (by simp) ?_
          refine AllReadyH.cons (o := _) rfl (fun K hK => ?_) AllReadyH.nil
          refine step_cloneI _ (by rfl) (.tmp 56) (.tmp 57) 24 (by rfl) wd.heap.size 3 i0 Tryz.underlying24 hi hz0 hz1 hz2 wd.heap.size (by rfl) ON.out (.slice xa n xc) n (getI G) (by rfl) GV1.out hn0 hn6 (Nat.le_refl _) HX.out ?_
          intro gg cc wc og g5
          have OG := Lib.hid og
          have HC : Hid (Below wd.heap.size wd wc) := HA.out.grown g5 (by have := HX.out; omega) (fun k hk => by cases hk; exact Nat.le_refl _)
          have HS1 := Lib.hid (KS.out _ _ hHeld HC.out)
          clear og g5 hHeld1 GV1 ON HX HA
          refine hK.out _ _ ?_ (fun hHeld2 => ?_)
          · exact HS1.out
          clear hK K HS1
          refine wpAnyH_take (i := 12) (v := ?_) rfl (by kernel_rfl) (by kernel_rfl) (by kernel_rfl) (fun _ _ _ h => h) (Or.inl ⟨by rfl, ?_⟩) hHeld2 ?_
          rotate_left
          · (intro wa hSw; go_simp; try with_reducible rfl)
          simp only [Act.put, List.getElem_toArray, List.getElem_cons_zero, List.getElem_cons_succ, List.setIfInBounds_toArray, List.set_cons_zero, List.set_cons_succ]
          refine wpAnyH_ready (rs := [13]) (by kernel_rfl) (by simp) ?_
          refine AllReadyH.cons (o := _) rfl (fun K hK => ?_) AllReadyH.nil
          have KK := OS.out _ hHeld2
          obtain ⟨⟨x0, q0⟩, z0⟩ := KK.2.1.at 0 (by omega)
          obtain ⟨⟨x1, q1⟩, z1⟩ := KK.2.1.at 1 (by omega)
          obtain ⟨⟨x2, q2⟩, z2⟩ := KK.2.1.at 2 (by omega)
          obtain ⟨⟨x3, q3⟩, z3⟩ := KK.2.1.at 3 (by omega)
          have hRlt := KK.2.1.lt
          clear KK
          go_simp
          refine hK.out _ _ ?_ (fun hHeld3 => ?_)
          · exact IS.out _ ((fun K => ⟨BkAt.put (B := w.heap.size) (C := w.heap.size + 1) (by omega) (by omega) [.int .i64 key, .slice (some ⟨gg, 0, none⟩) n cc, .int .i64 vx, .int .i64 vy] 0 _ K.1, (K.2.1.put (vs := [.int .i64 key, .slice (some ⟨gg, 0, none⟩) n cc, .int .i64 vx, .int .i64 vy]) rfl).of_put, put_cell (by show vb ≠ _; omega) [.int .i64 key, .slice (some ⟨gg, 0, none⟩) n cc, .int .i64 vx, .int .i64 vy] 0 _ K.2.2.1, put_cell (by show vb ≠ _; omega) [.int .i64 key, .slice (some ⟨gg, 0, none⟩) n cc, .int .i64 vx, .int .i64 vy] 0 _ K.2.2.2⟩) (OS.out _ hHeld2))
          clear hK K q0 q1 q2 q3 z0 z1 z2 z3 hRlt
          refine wpAnyH_take (i := 14) (v := ?_) rfl (by kernel_rfl) (by kernel_rfl) (by kernel_rfl) (fun _ _ _ h => h) (Or.inl ⟨by rfl, ?_⟩) hHeld3 ?_
          rotate_left
          · (intro wa hSw; go_simp; try with_reducible rfl)
          simp only [Act.put, List.getElem_toArray, List.getElem_cons_zero, List.getElem_cons_succ, List.setIfInBounds_toArray, List.set_cons_zero, List.set_cons_succ]
          have KE := Lib.hid (OS.out _ hHeld2)
          clear hHeld3 hHeld2 hHeld
          refine wpAnyH_done (by kernel_rfl) ?_ _
          clear KS OS IS KS0
          refine post_named fun w9 hw9 => ?_
          have e9 : w9 = putCs wc (w.heap.size + 1) 0 [.int .i64 key, .slice (some ⟨gg, 0, none⟩) n cc, .int .i64 vx, .int .i64 vy] := hw9.out
          have HB9 := Lib.hid (BkAt.put (B := w.heap.size) (C := w.heap.size + 1) (by omega) (by omega) [.int .i64 key, .slice (some ⟨gg, 0, none⟩) n cc, .int .i64 vx, .int .i64 vy] 0 _ KE.out.1).bel
          have HX9 := Lib.hid (KE.out.2.1.put (vs := [.int .i64 key, .slice (some ⟨gg, 0, none⟩) n cc, .int .i64 vx, .int .i64 vy]) rfl)
          have HO9 := Lib.hid (owns_puts (w := wc) (B := w.heap.size + 1) (by have := hWD.out; omega) [.int .i64 key, .slice (some ⟨gg, 0, none⟩) n cc, .int .i64 vx, .int .i64 vy] 0 _ OG.out)
          rw [← e9] at HX9 HO9
          have HB9' : Hid (Below w.heap.size w w9) := by rw [e9]; exact HB9
          clear hw9 e9 HB9 KE OG
          have y0 := (HX9.out.2 0 _ rfl).1
          have y1 := (HX9.out.2 1 _ rfl).1
          have y2 := (HX9.out.2 2 _ rfl).1
          have y3 := (HX9.out.2 3 _ rfl).1
          have y_lt := HX9.out.1
          clear HX9
          go_wp2
          (try simp only [Exit.inBlock, Exit.then])
          refine bodyPost_ret (v := .tuple #[.agg #[.int .i64 key, .slice (some ⟨gg, 0, none⟩) n cc, .int .i64 vx, .int .i64 vy], .bool true]) (by simp [results, Tryz.results46, go_sem, y0, y1, y2, y3]) rfl ?_
          rw [HH.out]
          refine ⟨_, rfl, ?_, HB9'.out⟩
          rw [HG.out] at HO9
          have hO := owns_mono HO9.out (base' := w.heap.size) (by have := hWD.out; omega)
          show World.ownsRow _ _ _ _ _ G.length _
          rw [HN.out]
          exact hO
        | true =>
          have HH : Hid (findP b x y G s = findP b x y p nx) := HF1.out p (hit_at hyp (.inl (HR1.out.1 rfl)) HNO.out) ⟨HR1.out.1 rfl, HR2.out.1 rfl⟩
          have CRk := Lib.hid (fun z hz => CR.out z hz p hyP)
          have HNX2 := HNX
          clear HF0 HF1 HF2 HNO HR1 HR2 H1 H2 CV CR HNX
          obtain ⟨rq, hrq⟩ : ∃ r, findP b x y p nx = r := ⟨_, rfl⟩
          rw [hrq] at HH CRk
          obtain ⟨ag, hag⟩ : ∃ ag, b.again = ag := ⟨_, rfl⟩
          have hw : (¬ 1 < PL.length) ∨ (1 < PL.length ∧ ag = false) ∨ (1 < PL.length ∧ ag = true ∧ mu = false) ∨ (1 < PL.length ∧ ag = true ∧ mu = true) := by
            by_cases h : 1 < PL.length
            · cases ag <;> cases mu <;> simp [h]
            · exact .inl h
          obtain ⟨d0, d1, d2, d3, d4, d5, d6, d7, d8⟩ := K2.out.cells
          simp only [hag] at CRk d5 HNX2
          clear hrq hag
          rcases hw with hA | ⟨hA, rfl⟩ | ⟨hA, rfl, rfl⟩ | ⟨hA, rfl, rfl⟩
          · have HZ : Hid ((s : Int) + 1 = nx) := by have := HNX2.out; rw [if_neg (fun h => hA h.1)] at this; show _ = _; omega
            clear HNX2
            have g4 : decide ((1 : Int) < (T.length : Int)) = false := by rw [HTL.out]; first | exact decide_eq_true (by omega) | exact decide_eq_false (by omega)
            have g5 : decide (1 < T.length) = false := by rw [HTL.out]; first | exact decide_eq_true (by omega) | exact decide_eq_false (by omega)
            go_wp2_with fail
            refine (CRk.out _ HZ.out _ _ K2.out.row PR.out).mono ?_
            rintro e w4 ⟨rv, rfl, hro, b4⟩
            have K4 := Lib.hid (K2.out.next b4)
            have ZF4 := Lib.hid (ZF2.out.below b4)
            obtain ⟨ra, rc, hrf⟩ := owns_form hro
            subst hrf
            have h2lt := ZF2.out.lt
            have HO4 := Lib.hid (owns_mono hro (base' := w.heap.size + 2) (by omega))
            clear d0 d1 d2 d3 d4 d5 d6 d7 d8 hro b4 CRk PR K2 h2lt
            obtain ⟨⟨x0, q0⟩, z0⟩ := ZF4.out.at 0 (by omega)
            obtain ⟨⟨x1, q1⟩, z1⟩ := ZF4.out.at 1 (by omega)
            obtain ⟨⟨x2, q2⟩, z2⟩ := ZF4.out.at 2 (by omega)
            obtain ⟨⟨x3, q3⟩, z3⟩ := ZF4.out.at 3 (by omega)
            have hRlt := ZF4.out.lt
            unfold RsnD.vals
            obtain ⟨dk, df, do', hd⟩ : ∃ k f o, k = (rq.getD rsn0).key ∧ f = (rq.getD rsn0).first ∧ o = (rq.getD rsn0).other := ⟨_, _, _, rfl, rfl, rfl⟩
            obtain ⟨sm, hsm⟩ : ∃ s, s = rq.isSome := ⟨_, rfl⟩
            obtain ⟨ln, hln⟩ : ∃ l, l = (rq.getD rsn0).grp.length := ⟨_, rfl⟩
            rw [← hd.1, ← hd.2.1, ← hd.2.2, ← hsm, ← hln]
            rw [← hln] at HO4
            have HD := Lib.hid hd
            have HSM := Lib.hid hsm
            have HLN := Lib.hid hln
            clear hd hsm hln
            go_wp2
            refine post_named fun w9 hw9 => ?_
            have e9 : w9 = putCs w4 (w.heap.size + 1) 0 [.int .i64 dk, .slice ra ln rc, .int .i64 df, .int .i64 do'] := hw9.out
            have HX9 := Lib.hid (ZF4.out.put (vs := [.int .i64 dk, .slice ra ln rc, .int .i64 df, .int .i64 do']) rfl)
            have HB9 := Lib.hid (BkAt.put (B := w.heap.size) (C := w.heap.size + 1) (by omega) (by omega) [.int .i64 dk, .slice ra ln rc, .int .i64 df, .int .i64 do'] 0 _ K4.out).bel
            have HO9 := Lib.hid (owns_puts (w := w) (B := w.heap.size + 1) (by omega) [.int .i64 dk, .slice ra ln rc, .int .i64 df, .int .i64 do'] 0 _ HO4.out)
            rw [← e9] at HX9 HB9 HO9
            clear e9 hw9 q0 q1 q2 q3 z0 z1 z2 z3 K4 ZF4
            have y0 := (HX9.out.2 0 _ rfl).1
            have y1 := (HX9.out.2 1 _ rfl).1
            have y2 := (HX9.out.2 2 _ rfl).1
            have y3 := (HX9.out.2 3 _ rfl).1
            clear HX9
            (try simp only [Exit.inBlock, Exit.then])
            refine bodyPost_ret (v := .tuple #[.agg #[.int .i64 dk, .slice ra ln rc, .int .i64 df, .int .i64 do'], .bool sm]) (by simp [results, Tryz.results46, go_sem, y0, y1, y2, y3]) rfl ?_
            rw [HH.out]
            refine ⟨.slice ra ln rc, ?_, ?_, HB9.out⟩
            · rw [HD.out.1, HD.out.2.1, HD.out.2.2, HSM.out, HLN.out]; rfl
            · have h9 := owns_mono HO9.out (base' := w.heap.size) (by omega)
              rw [HLN.out] at h9 ⊢
              exact h9
          · have HZ : Hid ((s : Int) + 1 = nx) := by have := HNX2.out; rw [if_neg (fun h => by cases h.2.1)] at this; show _ = _; omega
            clear HNX2
            have g4 : decide ((1 : Int) < (T.length : Int)) = true := by rw [HTL.out]; first | exact decide_eq_true (by omega) | exact decide_eq_false (by omega)
            have g5 : decide (1 < T.length) = true := by rw [HTL.out]; first | exact decide_eq_true (by omega) | exact decide_eq_false (by omega)
            go_wp2_with fail
            refine (CRk.out _ HZ.out _ _ K2.out.row PR.out).mono ?_
            rintro e w4 ⟨rv, rfl, hro, b4⟩
            have K4 := Lib.hid (K2.out.next b4)
            have ZF4 := Lib.hid (ZF2.out.below b4)
            obtain ⟨ra, rc, hrf⟩ := owns_form hro
            subst hrf
            have h2lt := ZF2.out.lt
            have HO4 := Lib.hid (owns_mono hro (base' := w.heap.size + 2) (by omega))
            clear d0 d1 d2 d3 d4 d5 d6 d7 d8 hro b4 CRk PR K2 h2lt
            obtain ⟨⟨x0, q0⟩, z0⟩ := ZF4.out.at 0 (by omega)
            obtain ⟨⟨x1, q1⟩, z1⟩ := ZF4.out.at 1 (by omega)
            obtain ⟨⟨x2, q2⟩, z2⟩ := ZF4.out.at 2 (by omega)
            obtain ⟨⟨x3, q3⟩, z3⟩ := ZF4.out.at 3 (by omega)
            have hRlt := ZF4.out.lt
            unfold RsnD.vals
            obtain ⟨dk, df, do', hd⟩ : ∃ k f o, k = (rq.getD rsn0).key ∧ f = (rq.getD rsn0).first ∧ o = (rq.getD rsn0).other := ⟨_, _, _, rfl, rfl, rfl⟩
            obtain ⟨sm, hsm⟩ : ∃ s, s = rq.isSome := ⟨_, rfl⟩
            obtain ⟨ln, hln⟩ : ∃ l, l = (rq.getD rsn0).grp.length := ⟨_, rfl⟩
            rw [← hd.1, ← hd.2.1, ← hd.2.2, ← hsm, ← hln]
            rw [← hln] at HO4
            have HD := Lib.hid hd
            have HSM := Lib.hid hsm
            have HLN := Lib.hid hln
            clear hd hsm hln
            go_wp2
            refine post_named fun w9 hw9 => ?_
            have e9 : w9 = putCs w4 (w.heap.size + 1) 0 [.int .i64 dk, .slice ra ln rc, .int .i64 df, .int .i64 do'] := hw9.out
            have HX9 := Lib.hid (ZF4.out.put (vs := [.int .i64 dk, .slice ra ln rc, .int .i64 df, .int .i64 do']) rfl)
            have HB9 := Lib.hid (BkAt.put (B := w.heap.size) (C := w.heap.size + 1) (by omega) (by omega) [.int .i64 dk, .slice ra ln rc, .int .i64 df, .int .i64 do'] 0 _ K4.out).bel
            have HO9 := Lib.hid (owns_puts (w := w) (B := w.heap.size + 1) (by omega) [.int .i64 dk, .slice ra ln rc, .int .i64 df, .int .i64 do'] 0 _ HO4.out)
            rw [← e9] at HX9 HB9 HO9
            clear e9 hw9 q0 q1 q2 q3 z0 z1 z2 z3 K4 ZF4
            have y0 := (HX9.out.2 0 _ rfl).1
            have y1 := (HX9.out.2 1 _ rfl).1
            have y2 := (HX9.out.2 2 _ rfl).1
            have y3 := (HX9.out.2 3 _ rfl).1
            clear HX9
            (try simp only [Exit.inBlock, Exit.then])
            refine bodyPost_ret (v := .tuple #[.agg #[.int .i64 dk, .slice ra ln rc, .int .i64 df, .int .i64 do'], .bool sm]) (by simp [results, Tryz.results46, go_sem, y0, y1, y2, y3]) rfl ?_
            rw [HH.out]
            refine ⟨.slice ra ln rc, ?_, ?_, HB9.out⟩
            · rw [HD.out.1, HD.out.2.1, HD.out.2.2, HSM.out, HLN.out]; rfl
            · have h9 := owns_mono HO9.out (base' := w.heap.size) (by omega)
              rw [HLN.out] at h9 ⊢
              exact h9
          · have HZ : Hid ((s : Int) + 1 = nx) := by have := HNX2.out; rw [if_neg (fun h => by cases h.2.2)] at this; show _ = _; omega
            clear HNX2
            have g4 : decide ((1 : Int) < (T.length : Int)) = true := by rw [HTL.out]; first | exact decide_eq_true (by omega) | exact decide_eq_false (by omega)
            have g5 : decide (1 < T.length) = true := by rw [HTL.out]; first | exact decide_eq_true (by omega) | exact decide_eq_false (by omega)
            go_wp2_with fail
            refine (CMU.out _).mono ?_
            rintro e wx ⟨rfl, rfl⟩
            go_wp2_with fail
            refine (CRk.out _ HZ.out _ _ K2.out.row PR.out).mono ?_
            rintro e w4 ⟨rv, rfl, hro, b4⟩
            have K4 := Lib.hid (K2.out.next b4)
            have ZF4 := Lib.hid (ZF2.out.below b4)
            obtain ⟨ra, rc, hrf⟩ := owns_form hro
            subst hrf
            have h2lt := ZF2.out.lt
            have HO4 := Lib.hid (owns_mono hro (base' := w.heap.size + 2) (by omega))
            clear d0 d1 d2 d3 d4 d5 d6 d7 d8 hro b4 CRk PR K2 h2lt
            obtain ⟨⟨x0, q0⟩, z0⟩ := ZF4.out.at 0 (by omega)
            obtain ⟨⟨x1, q1⟩, z1⟩ := ZF4.out.at 1 (by omega)
            obtain ⟨⟨x2, q2⟩, z2⟩ := ZF4.out.at 2 (by omega)
            obtain ⟨⟨x3, q3⟩, z3⟩ := ZF4.out.at 3 (by omega)
            have hRlt := ZF4.out.lt
            unfold RsnD.vals
            obtain ⟨dk, df, do', hd⟩ : ∃ k f o, k = (rq.getD rsn0).key ∧ f = (rq.getD rsn0).first ∧ o = (rq.getD rsn0).other := ⟨_, _, _, rfl, rfl, rfl⟩
            obtain ⟨sm, hsm⟩ : ∃ s, s = rq.isSome := ⟨_, rfl⟩
            obtain ⟨ln, hln⟩ : ∃ l, l = (rq.getD rsn0).grp.length := ⟨_, rfl⟩
            rw [← hd.1, ← hd.2.1, ← hd.2.2, ← hsm, ← hln]
            rw [← hln] at HO4
            have HD := Lib.hid hd
            have HSM := Lib.hid hsm
            have HLN := Lib.hid hln
            clear hd hsm hln
            go_wp2
            refine post_named fun w9 hw9 => ?_
            have e9 : w9 = putCs w4 (w.heap.size + 1) 0 [.int .i64 dk, .slice ra ln rc, .int .i64 df, .int .i64 do'] := hw9.out
            have HX9 := Lib.hid (ZF4.out.put (vs := [.int .i64 dk, .slice ra ln rc, .int .i64 df, .int .i64 do']) rfl)
            have HB9 := Lib.hid (BkAt.put (B := w.heap.size) (C := w.heap.size + 1) (by omega) (by omega) [.int .i64 dk, .slice ra ln rc, .int .i64 df, .int .i64 do'] 0 _ K4.out).bel
            have HO9 := Lib.hid (owns_puts (w := w) (B := w.heap.size + 1) (by omega) [.int .i64 dk, .slice ra ln rc, .int .i64 df, .int .i64 do'] 0 _ HO4.out)
            rw [← e9] at HX9 HB9 HO9
            clear e9 hw9 q0 q1 q2 q3 z0 z1 z2 z3 K4 ZF4
            have y0 := (HX9.out.2 0 _ rfl).1
            have y1 := (HX9.out.2 1 _ rfl).1
            have y2 := (HX9.out.2 2 _ rfl).1
            have y3 := (HX9.out.2 3 _ rfl).1
            clear HX9
            (try simp only [Exit.inBlock, Exit.then])
            refine bodyPost_ret (v := .tuple #[.agg #[.int .i64 dk, .slice ra ln rc, .int .i64 df, .int .i64 do'], .bool sm]) (by simp [results, Tryz.results46, go_sem, y0, y1, y2, y3]) rfl ?_
            rw [HH.out]
            refine ⟨.slice ra ln rc, ?_, ?_, HB9.out⟩
            · rw [HD.out.1, HD.out.2.1, HD.out.2.2, HSM.out, HLN.out]; rfl
            · have h9 := owns_mono HO9.out (base' := w.heap.size) (by omega)
              rw [HLN.out] at h9 ⊢
              exact h9
          · have HZ : Hid ((0 : Int) = nx) := by have := HNX2.out; rw [if_pos ⟨hA, by first | rfl | trivial, by first | rfl | trivial⟩] at this; show _ = _; omega
            clear HNX2
            have g4 : decide ((1 : Int) < (T.length : Int)) = true := by rw [HTL.out]; first | exact decide_eq_true (by omega) | exact decide_eq_false (by omega)
            have g5 : decide (1 < T.length) = true := by rw [HTL.out]; first | exact decide_eq_true (by omega) | exact decide_eq_false (by omega)
            go_wp2_with fail
            refine (CMU.out _).mono ?_
            rintro e wx ⟨rfl, rfl⟩
            go_wp2_with fail
            refine (CRk.out _ HZ.out _ _ K2.out.row PR.out).mono ?_
            rintro e w4 ⟨rv, rfl, hro, b4⟩
            have K4 := Lib.hid (K2.out.next b4)
            have ZF4 := Lib.hid (ZF2.out.below b4)
            obtain ⟨ra, rc, hrf⟩ := owns_form hro
            subst hrf
            have h2lt := ZF2.out.lt
            have HO4 := Lib.hid (owns_mono hro (base' := w.heap.size + 2) (by omega))
            clear d0 d1 d2 d3 d4 d5 d6 d7 d8 hro b4 CRk PR K2 h2lt
            obtain ⟨⟨x0, q0⟩, z0⟩ := ZF4.out.at 0 (by omega)
            obtain ⟨⟨x1, q1⟩, z1⟩ := ZF4.out.at 1 (by omega)
            obtain ⟨⟨x2, q2⟩, z2⟩ := ZF4.out.at 2 (by omega)
            obtain ⟨⟨x3, q3⟩, z3⟩ := ZF4.out.at 3 (by omega)
            have hRlt := ZF4.out.lt
            unfold RsnD.vals
            obtain ⟨dk, df, do', hd⟩ : ∃ k f o, k = (rq.getD rsn0).key ∧ f = (rq.getD rsn0).first ∧ o = (rq.getD rsn0).other := ⟨_, _, _, rfl, rfl, rfl⟩
            obtain ⟨sm, hsm⟩ : ∃ s, s = rq.isSome := ⟨_, rfl⟩
            obtain ⟨ln, hln⟩ : ∃ l, l = (rq.getD rsn0).grp.length := ⟨_, rfl⟩
            rw [← hd.1, ← hd.2.1, ← hd.2.2, ← hsm, ← hln]
            rw [← hln] at HO4
            have HD := Lib.hid hd
            have HSM := Lib.hid hsm
            have HLN := Lib.hid hln
            clear hd hsm hln
            go_wp2
            refine post_named fun w9 hw9 => ?_
            have e9 : w9 = putCs w4 (w.heap.size + 1) 0 [.int .i64 dk, .slice ra ln rc, .int .i64 df, .int .i64 do'] := hw9.out
            have HX9 := Lib.hid (ZF4.out.put (vs := [.int .i64 dk, .slice ra ln rc, .int .i64 df, .int .i64 do']) rfl)
            have HB9 := Lib.hid (BkAt.put (B := w.heap.size) (C := w.heap.size + 1) (by omega) (by omega) [.int .i64 dk, .slice ra ln rc, .int .i64 df, .int .i64 do'] 0 _ K4.out).bel
            have HO9 := Lib.hid (owns_puts (w := w) (B := w.heap.size + 1) (by omega) [.int .i64 dk, .slice ra ln rc, .int .i64 df, .int .i64 do'] 0 _ HO4.out)
            rw [← e9] at HX9 HB9 HO9
            clear e9 hw9 q0 q1 q2 q3 z0 z1 z2 z3 K4 ZF4
            have y0 := (HX9.out.2 0 _ rfl).1
            have y1 := (HX9.out.2 1 _ rfl).1
            have y2 := (HX9.out.2 2 _ rfl).1
            have y3 := (HX9.out.2 3 _ rfl).1
            clear HX9
            (try simp only [Exit.inBlock, Exit.then])
            refine bodyPost_ret (v := .tuple #[.agg #[.int .i64 dk, .slice ra ln rc, .int .i64 df, .int .i64 do'], .bool sm]) (by simp [results, Tryz.results46, go_sem, y0, y1, y2, y3]) rfl ?_
            rw [HH.out]
            refine ⟨.slice ra ln rc, ?_, ?_, HB9.out⟩
            · rw [HD.out.1, HD.out.2.1, HD.out.2.2, HSM.out, HLN.out]; rfl
            · have h9 := owns_mono HO9.out (base' := w.heap.size) (by omega)
              rw [HLN.out] at h9 ⊢
              exact h9
    obtain rfl : k = T.length := by omega
    have HH : Hid (findP b x y G s = none) := HF0.out (hit_none (by rw [← HTL.out]; exact HNO.out))
    clear HF0 HF1 HF2 CR CV CMU HNO
    obtain ⟨⟨x0, q0⟩, z0⟩ := ZF2.out.at 0 (by omega)
    obtain ⟨⟨x1, q1⟩, z1⟩ := ZF2.out.at 1 (by omega)
    obtain ⟨⟨x2, q2⟩, z2⟩ := ZF2.out.at 2 (by omega)
    obtain ⟨⟨x3, q3⟩, z3⟩ := ZF2.out.at 3 (by omega)
    have hRlt := ZF2.out.lt
    go_wp2
    refine post_named fun w9 hw9 => ?_
    have e9 : w9 = putCs w1 (w.heap.size + 1) 0 [.int .i64 0, .slice none 0 0, .int .i64 0, .int .i64 0] := hw9.out
    have HX9 := Lib.hid (ZF2.out.put (vs := [.int .i64 0, .slice none 0 0, .int .i64 0, .int .i64 0]) rfl)
    have HB9 := Lib.hid (BkAt.put (B := w.heap.size) (C := w.heap.size + 1) (by omega) (by omega) [.int .i64 0, .slice none 0 0, .int .i64 0, .int .i64 0] 0 _ K2.out).bel
    rw [← e9] at HX9 HB9
    have y0 := (HX9.out.2 0 _ rfl).1
    have y1 := (HX9.out.2 1 _ rfl).1
    have y2 := (HX9.out.2 2 _ rfl).1
    have y3 := (HX9.out.2 3 _ rfl).1
    clear e9 hw9 HX9 q0 q1 q2 q3 z0 z1 z2 z3
    (try simp only [Exit.inBlock, Exit.then])
    refine bodyPost_ret (v := .tuple #[.agg #[.int .i64 0, .slice none 0 0, .int .i64 0, .int .i64 0], .bool false]) (by simp [results, Tryz.results46, go_sem, y0, y1, y2, y3]) rfl ?_
    rw [HH.out]
    exact ⟨.slice none 0 0, rfl, World.ownsRow_nil _ _ _ _, HB9.out⟩
end Go.Proofs.YteciobkjfmddcaaGreat
