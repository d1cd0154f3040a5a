/-
  Packed: DrawMake, PotsMake.
-/
import Derived.Deep.RegionHeld3
import Derived.Deep.RegionLaw
import Derived.Test.YtmhkkdnopcdibaaQ15
import Derived.Test.YtmhkkdnopcdibaaQ19
import Derived.Test.YtmhkkdnopcdibaaQ21
set_option linter.unusedVariables false
namespace Go.Proofs.Ytmhkkdnopcdibaa
open Go.RowKit

theorem RowsAp.offD {t : TypeId} {e : Ty} {w w' : World} {B : Nat} {v : Value} {d : List e.D} {xs : List Value} (h : RowsAp t e w B v d xs) (hk : ∀ q, B ≤ q → q < w.heap.size → w'.heap[q]? = w.heap[q]?) (hs : w.heap.size ≤ w'.heap.size) : RowsAp t e w' B v d xs := by
  obtain ⟨h0, f, h1, h2, h3, h4⟩ := h
  exact ⟨owns_frame h0 (fun q hq => hk q (h0.lt q hq).1 (h0.lt q hq).2), f, fun i x hx => e.ow_frame (h1 i x hx) (fun q hq => hk q (e.ow_lt (h1 i x hx) q hq).1 (e.ow_lt (h1 i x hx) q hq).2) hs, h2, h3, h4⟩
theorem RowsAp.pushD {t : TypeId} {e : Ty} {w1 w2 w3 : World} {B : Nat} {v vv rv : Value} {d : List e.D} {xs : List Value} {x : e.D} (h : RowsAp t e w1 B v d xs) (hk2 : ∀ q, B ≤ q → q < w1.heap.size → w2.heap[q]? = w1.heap[q]?) (hsz : w1.heap.size ≤ w2.heap.size) (ho : OwN e w2 w1.heap.size w2.heap.size [rv] x) (hB : B ≤ w1.heap.size)
    (hg : w2.grownBy w3 v.ownBlock) (hown : w3.ownsRow B t 1 vv (d.length + 1) (xs ++ [rv])) (hat : ∀ q, vv.ownBlock = some q → v.ownBlock = some q ∨ w2.heap.size ≤ q) : RowsAp t e w3 B vv (d ++ [x]) (xs ++ [rv]) := by
  obtain ⟨h0, f, h1, h2, h3, h4⟩ := h
  obtain ⟨bs, b1, b2, b3, _⟩ := ho
  have b4 := e.ow_lt b1
  obtain ⟨_, _, _, hs3, hk⟩ := hg
  have hl := h0.1
  rw [Nat.mul_one] at hl
  have hvlt : ∀ q, v.ownBlock = some q → q < w1.heap.size := fun q hq => (h0.lt q hq).2
  obtain ⟨F, hF1, hF2⟩ : ∃ F : Nat → List Nat, F d.length = bs ∧ ∀ i, i ≠ d.length → F i = f i := ⟨fun i => if i = d.length then bs else f i, if_pos rfl, fun i h => if_neg h⟩
  have hdl : (d ++ [x]).length = d.length + 1 := by simp
  have hlt : ∀ i, i < d.length → ∀ q, q ∈ f i → B ≤ q ∧ q < w1.heap.size := fun i hi q hq => e.ow_lt (h1 i _ (List.getElem?_eq_getElem hi)) q hq
  refine ⟨by rw [hdl]; exact hown, F, fun i y hy => ?_, fun i hi => ?_, fun i k hi hkk hik q hq => ?_, fun i hi q hq => ?_⟩
  · by_cases e1 : i = d.length
    · subst e1
      have hyx : y = x := by simpa using hy.symm
      subst hyx
      rw [hF1]
      have e2 : (xs ++ [rv]).getD d.length undef = rv := by rw [← hl]; simp [List.getD_eq_getElem?_getD]
      rw [e2]
      exact e.ow_mono (e.ow_frame b1 (fun q hq => hk q (b4 q hq).2 (fun e => by have h7 := hvlt q e.symm; have := (b4 q hq).1; omega)) hs3) hB
    · have hi : i < d.length := by have := (List.getElem?_eq_some_iff.1 hy).1; omega
      rw [hF2 i e1]
      have e2 : (xs ++ [rv]).getD i undef = xs.getD i undef := by simp [List.getD_eq_getElem?_getD, List.getElem?_append_left (show i < xs.length by omega)]
      rw [e2]
      have hy2 : d[i]? = some y := by rw [List.getElem?_append_left hi] at hy; exact hy
      refine e.ow_frame (h1 i y hy2) (fun q hq => ?_) (Nat.le_trans hsz hs3)
      have h5 := hlt i hi q hq
      exact (hk q (by omega) (fun e => h4 i hi q hq e.symm)).trans (hk2 q h5.1 h5.2)
  · by_cases e1 : i = d.length
    · rw [e1, hF1]; exact b2
    · rw [hF2 i e1]; exact h2 i (by omega)
  · by_cases e1 : i = d.length
    · rw [e1, hF1] at hq
      rw [hF2 k (by omega)]
      intro hq2
      have := (hlt k (by omega) q hq2).2
      have := (b4 q hq).1
      omega
    · rw [hF2 i e1] at hq
      have h5 := (hlt i (by omega) q hq).2
      by_cases e2 : k = d.length
      · rw [e2, hF1]; intro hq2; have := (b4 q hq2).1; omega
      · rw [hF2 k e2]; exact h3 i k (by omega) (by omega) hik q hq
  · intro e3
    by_cases e1 : i = d.length
    · rw [e1, hF1] at hq
      have h5 := b4 q hq
      rcases hat q e3 with h6 | h6
      · have := hvlt q h6; omega
      · omega
    · rw [hF2 i e1] at hq
      rcases hat q e3 with h6 | h6
      · exact h4 i (by omega) q hq h6
      · have := (hlt i (by omega) q hq).2; omega
def fromL (a : Nat) : Nat → List Int
  | 0 => []
  | k + 1 => fromL a k ++ [((a + k : Nat) : Int)]
theorem fromL_len (a : Nat) : ∀ k, (fromL a k).length = k
  | 0 => rfl
  | k + 1 => by show (fromL a k ++ _).length = _; rw [List.length_append, fromL_len a k]; rfl
theorem fromL_get (a : Nat) : ∀ k i, i < k → getI (fromL a k) i = ((a + i : Nat) : Int)
  | 0, i, h => absurd h (Nat.not_lt_zero _)
  | k + 1, i, h => by
    show getI (fromL a k ++ [((a + k : Nat) : Int)]) i = _
    by_cases e : i < k
    · rw [getI_left _ _ i (by rw [fromL_len]; exact e)]; exact fromL_get a k i e
    · obtain rfl : i = k := by omega
      have := getI_last (fromL a i) ((a + i : Nat) : Int)
      rw [fromL_len] at this
      exact this
theorem fromL_app (a k : Nat) : ∀ m, fromL a k ++ fromL (a + k) m = fromL a (k + m)
  | 0 => by show fromL a k ++ [] = _; rw [List.append_nil]; rfl
  | m + 1 => by
    show fromL a k ++ (fromL (a + k) m ++ [((a + k + m : Nat) : Int)]) = fromL a (k + m) ++ [((a + (k + m) : Nat) : Int)]
    rw [← List.append_assoc, fromL_app a k m, Nat.add_assoc]
def PotL (T : List (List Int)) (n G : Nat) : Prop := T.flatten = fromL 0 n ∧ T.length ≤ 2 ∧ n ≤ 3 * T.length ∧ ∀ r ∈ T, 1 ≤ r.length ∧ r.length ≤ G
theorem PotL.push {T : List (List Int)} {n G k : Nat} (h : PotL T n G) (h2 : T.length ≤ 1) (h1 : 1 ≤ k) (hk : k ≤ G) (hG : G ≤ 3) : PotL (T ++ [fromL n k]) (n + k) G := by
  obtain ⟨a, b, c, d⟩ := h
  refine ⟨?_, ?_, ?_, fun r hr => ?_⟩
  · rw [List.flatten_append, a]
    show fromL 0 n ++ (fromL n k ++ []) = _
    rw [List.append_nil]
    have := fromL_app 0 n k
    rwa [Nat.zero_add] at this
  · rw [List.length_append]; show T.length + 1 ≤ 2; omega
  · rw [List.length_append]; show n + k ≤ 3 * (T.length + 1); omega
  · rcases List.mem_append.1 hr with e | e
    · exact d r e
    · rw [List.mem_singleton] at e
      subst e
      rw [fromL_len]
      exact ⟨h1, hk⟩
theorem PotL.diff {T : List (List Int)} {n G : Nat} (h : PotL T n G) {nf : Nat} (hn : n ≤ nf) : diffP nf T.flatten := by
  rw [h.1]
  intro i hi
  rw [fromL_len] at hi
  rw [fromL_get 0 n i hi]
  refine ⟨⟨by omega, by omega⟩, fun hm => ?_⟩
  obtain ⟨j, hj, e⟩ := List.mem_iff_getElem.1 hm
  rw [List.length_take, fromL_len] at hj
  rw [List.getElem_take] at e
  have h9 := fromL_get 0 n j (by omega)
  unfold getI at h9
  rw [List.getD_eq_getElem?_getD, List.getElem?_eq_getElem (by rw [fromL_len]; omega)] at h9
  have h8 : (fromL 0 n)[j]'(by rw [fromL_len]; omega) = ((0 + j : Nat) : Int) := h9
  rw [h8] at e
  omega
def PotV (B : Nat) (a : Option Addr) (len cap : Nat) (g : Nat → Nat) (w0 : World) (D : Nat) (G M : Nat) (vp : Value) (w : World) : Prop :=
  Cur B a len cap g w ∧ w.heap[D]? = some (.cells #[vp, .int .i64 G, .int .i64 M] 26 (0, 0)) ∧
    w.heap[w0.heap.size]? = some (.cells #[.slice none 0 0, .int .i64 0, .int .i64 0] 26 (0, 0)) ∧ w0.heap.size + 1 ≤ D ∧ w0.grownBy w (some B) ∧ B < w0.heap.size
section
variable {B : Nat} {a : Option Addr} {len cap : Nat} {g : Nat → Nat} {w0 : World} {D G M : Nat} {vp : Value} {T : List (List Int)} {xs : List Value} {w w' : World}
theorem PotV.cur (h : PotV B a len cap g w0 D G M vp w) : Cur B a len cap g w := h.1
theorem PotV.ltD (h : PotV B a len cap g w0 D G M vp w) : D < w.heap.size := (Array.getElem?_eq_some_iff.1 h.2.1).1
theorem PotV.cell (h : PotV B a len cap g w0 D G M vp w) (j : Nat) : w.cell? ⟨D, j, none⟩ = #[vp, .int .i64 G, .int .i64 M][j]? := cell_of_row w D j _ _ (0, 0) h.2.1
theorem PotV.free (h : PotV B a len cap g w0 D G M vp w) (j : Nat) : w.frozen? ⟨D, j, none⟩ = false := frozen_of_row w D j _ _ h.2.1
theorem PotV.high {lo : Nat} (hb : Below lo w w') (hD : D < lo) (h : PotV B a len cap g w0 D G M vp w) : PotV B a len cap g w0 D G M vp w' := by
  obtain ⟨h1, h2, h3, h5, h8, h9⟩ := h
  exact ⟨h1.belowW hb (by omega), (hb.block D hD).trans h2, (hb.block _ (by omega)).trans h3, h5, ⟨hb.os.trans h8.os, hb.tape.trans h8.tape, hb.output.trans h8.output, Nat.le_trans h8.size hb.size, fun k hk hne => (hb.block k (by omega)).trans (h8.block k hk hne)⟩, h9⟩
theorem PotV.below (hb : Below w.heap.size w w') (h : PotV B a len cap g w0 D G M vp w) : PotV B a len cap g w0 D G M vp w' := PotV.high hb h.ltD h
theorem PotV.drawn (hc : Cur B a len cap g w') (hg : w.grownBy w' (some B)) (h : PotV B a len cap g w0 D G M vp w) : PotV B a len cap g w0 D G M vp w' := by
  have hD := h.ltD
  obtain ⟨h1, h2, h3, h5, h8, h9⟩ := h
  exact ⟨hc, (hg.block D hD (by intro e; simp at e; omega)).trans h2, (hg.block _ (by omega) (by intro e; simp at e; omega)).trans h3, h5, grown_trans h8 hg, h9⟩
end
theorem owns_sliceD {w : World} {base k n : Nat} {e : TypeId} {v : Value} {xs : List Value} (h : w.ownsRow base e k v n xs) : ∃ a c, v = .slice a n c := by
  rcases h.2 with ⟨rfl, h0⟩ | ⟨g, cap, cur, rfl, _⟩
  · exact ⟨none, 0, by rw [h0]⟩
  · exact ⟨_, _, rfl⟩
theorem PotV.push {B : Nat} {a : Option Addr} {len cap : Nat} {g : Nat → Nat} {w0 : World} {D G M : Nat} {vp vv vpot : Value} {T : List (List Int)} {xs : List Value} {L : List Int} {gg n9 cc : Nat} {wr wi w7 : World} (hvv : vv = .slice (some ⟨gg, 0, none⟩) n9 cc) (h : PotV B a len cap g w0 D G M vp wi) (h0 : RowsAp 31 tIntS wr (D + 1) vp T xs)
    (hk : ∀ q, D + 1 ≤ q → q < wr.heap.size → wi.heap[q]? = wr.heap[q]?) (hs : wr.heap.size ≤ wi.heap.size) (hD : D < wr.heap.size) (ho : wi.ownsRow wr.heap.size 3 1 vpot L.length (L.map (Value.int .i64))) (hg : wi.grownBy w7 vp.ownBlock)
    (hown : w7.ownsRow (D + 1) 31 1 vv (T.length + 1) (xs ++ [vpot])) (hat9 : vp.ownBlock = some gg ∨ wi.heap.size ≤ gg) :
    PotV B a len cap g w0 D G M vv (w7.setCell ⟨D, 0, none⟩ vv) ∧ RowsAp 31 tIntS (w7.setCell ⟨D, 0, none⟩ vv) (D + 1) vv (T ++ [L]) (xs ++ [vpot]) ∧ w7.frozen? ⟨D, 0, none⟩ = false ∧ w7.cell? ⟨D, 0, none⟩ = some vp := by
  have hDi := h.ltD
  have hat : ∀ q, vv.ownBlock = some q → vp.ownBlock = some q ∨ wi.heap.size ≤ q := fun q hq => by
    have e9 : gg = q := by rw [hvv] at hq; simpa [Value.ownBlock] using hq
    subst e9
    exact hat9
  have hR := h0.pushD hk hs (own_ints ho (fun q hq => (ho.lt q hq).2) (Nat.le_refl _)) (by omega) hg hown hat
  have hvp : ∀ q, vp.ownBlock = some q → D + 1 ≤ q := fun q hq => (h0.1.lt q hq).1
  obtain ⟨h1, h2, h3, h5, h8, h9⟩ := h
  have hDw : w7.heap[D]? = _ := (hg.block D hDi (fun e => by have := hvp D e.symm; omega)).trans h2
  have hs8 := h8.size
  have hbel : Below w0.heap.size wi (w7.setCell ⟨D, 0, none⟩ vv) := ((Below.refl _ _).grown hg hs8 (fun k hk => by have := hvp k hk; omega)).setCell (by show w0.heap.size ≤ D; omega) _
  refine ⟨⟨h1.belowW hbel h9, ?_, ?_, h5, ?_, h9⟩, ?_, frozen_of_row w7 D 0 _ _ hDw, cell_of_row w7 D 0 _ _ (0, 0) hDw⟩
  · rw [heap_setCell_same w7 D 0 _ _ _ hDw]; rfl
  · rw [Below.heap_setCell _ _ _ _ (by show w0.heap.size ≠ D; omega), hg.block _ (by omega) (fun e => by have := hvp _ e.symm; omega)]; exact h3
  · exact ⟨hbel.os.trans h8.os, hbel.tape.trans h8.tape, hbel.output.trans h8.output, Nat.le_trans hs8 hbel.size, fun k hk hne => (hbel.block k hk).trans (h8.block k hk hne)⟩
  · exact hR.offD (fun q k1 k2 => Below.heap_setCell _ _ _ _ (by show q ≠ D; omega)) (by simp [World.setCell])
theorem PotV.fin {B : Nat} {a : Option Addr} {len cap : Nat} {g : Nat → Nat} {w0 : World} {D G M : Nat} {vp vf : Value} {T : List (List Int)} {xs fx : List Value} {m lo : Nat} {w w' : World} (h : PotV B a len cap g w0 D G M vp w) (hr : RowsAp 31 tIntS w (D + 1) vp T xs) (hlo : D < lo) (ho : w.ownsRow lo 86 3 vf m fx) (ht : Touch w0.heap.size (w0.heap.size + 1) w w') :
    w'.ownsRow (w0.heap.size + 1) 86 3 vf m fx ∧ OwN tIntSS w' (w0.heap.size + 1) w'.heap.size [vp] T ∧ Cur B a len cap g w' ∧ w0.grownBy w' (some B) := by
  obtain ⟨h1, h2, h3, h5, h8, h9⟩ := h
  have hs := h8.size
  have hb : Below w0.heap.size w w' := ⟨ht.os, ht.tape, ht.output, ht.size, fun k hk => ht.block k (by omega) (by omega)⟩
  have hg : w.grownBy w' (some w0.heap.size) := ⟨ht.os, ht.tape, ht.output, ht.size, fun k hk hne => ht.block k hk (by have : k ≠ w0.heap.size := fun e => hne (by rw [e]); omega)⟩
  refine ⟨owns_mono (ho.kept hg ?_) (by omega), ?_, h1.belowW hb h9, ⟨hb.os.trans h8.os, hb.tape.trans h8.tape, hb.output.trans h8.output, Nat.le_trans hs hb.size, fun k hk hne => (hb.block k hk).trans (h8.block k hk hne)⟩⟩
  · cases hv : vf.ownBlock with
    | none => exact .inl rfl
    | some q => exact .inr fun e => by have := (ho.lt q hv).1; simp at e; omega
  · exact (RowsAp.own rfl (hr.offD (fun q k1 k2 => ht.block q k2 (by omega)) ht.size)).mono (by omega) (Nat.le_refl _) (Nat.le_refl _)
def PotsDrawn (B : Nat) (a : Option Addr) (len cap : Nat) (g : Nat → Nat) (w : World) (e : Ending) (w' : World) : Prop :=
  ∃ (vf vp : Value) (G M n m : Nat) (T : List (List Int)) (F : Nat → TeamD) (xs : List Value) (turn : Nat), e = .returned (.tuple #[vf, .agg #[vp, .int .i64 G, .int .i64 M]]) ∧ ((2 ≤ G ∧ G ≤ 3) ∧ (1 ≤ M ∧ M ≤ 2) ∧ 1 ≤ T.length ∧ PotL T n G ∧ m = max 2 n) ∧
    (turn < m ∧ MadeF m turn F m ∧ w'.ownsRow (w.heap.size + 1) 86 3 vf m xs ∧ ∀ t, t < m → xs[t * 3]? = some (.string (F t).nm) ∧ xs[t * 3 + 1]? = some (.int .i64 (F t).club) ∧ xs[t * 3 + 2]? = some (.int .i64 (F t).seed)) ∧
    OwN tIntSS w' (w.heap.size + 1) w'.heap.size [vp] T ∧ Cur B a len cap g w' ∧ w.grownBy w' (some B)
set_option maxRecDepth 100000 in
set_option maxHeartbeats 8000000 in
theorem l12Draw_any (B : Nat) (a : Option Addr) (len cap : Nat) (g : Nat → Nat) (w : World) (hc : Cur B a len cap g w) :
    Calls Try.prog 41 #[.pointer (some ⟨B, 0, none⟩)] w (PotsDrawn B a len cap g w) := by
  obtain ⟨i0, hi, hz0, hz1, hz2⟩ := info_parts Try.infoI
  obtain ⟨j0, ji, jz0, jz1, jz2⟩ := info_parts Try.infoIntSS
  have hlB := hc.ltW
  have L1 := Lib.hid (fun w1 hc (m : Nat) (h1 : 0 < m) (h2 : m ≤ 256) => l01Below_small B a len cap g m w1 hc h1 h2)
  have LF := Lib.hid (fun (n : Nat) w1 hc (h0 : 0 < n) (hn : n ≤ 6) => l02Field_any B a len cap g n w1 hc h0 hn)
  have HC := Lib.hid hc
  clear hc
  go_enter Try.func41, Try.ntmps41
  go_wp2_with fail
  refine (L1.out _ (HC.out.belowW ((Below.refl _ w).alloc (Nat.le_refl _) _) hlB) 2 (by omega) (by omega)).mono ?_
  rintro e w1 ⟨x, hx, rfl, c1, g1⟩
  have G1 : Hid (w.grownBy w1 (some B)) := grown_trans (World.grownBy_alloc w _ _) g1
  have H1 : Hid (w1.heap[w.heap.size]? = some (.cells #[.slice none 0 0, .int .i64 0, .int .i64 0] 26 (0, 0))) := by
    show _ = _
    rw [g1.block _ (by simp) (by intro e; simp at e; omega)]; exact heap_alloc_new w _
  have C1 := Lib.hid c1
  have F1 : Hid (w.heap.size < w1.heap.size) := by have := g1.size; simp at this; show w.heap.size < w1.heap.size; omega
  clear c1 g1 HC
  obtain ⟨G, hG⟩ : ∃ G : Nat, 2 + (x : Int) = (G : Int) := ⟨2 + x, by omega⟩
  have hG2 : 2 ≤ G := by omega
  have hG3 : G ≤ 3 := by omega
  go_wp2_with fail
  refine (L1.out _ C1.out 2 (by omega) (by omega)).mono ?_
  rintro e w2 ⟨y, hy, rfl, c2, g2⟩
  have H2 : Hid (w2.heap[w.heap.size]? = some (.cells #[.slice none 0 0, .int .i64 0, .int .i64 0] 26 (0, 0))) := (g2.block _ F1.out (by intro e; simp at e; omega)).trans H1.out
  have G2 := Lib.hid (grown_trans G1.out g2)
  have C2 := Lib.hid c2
  have F2 : Hid (w.heap.size < w2.heap.size) := Nat.lt_of_lt_of_le F1.out g2.size
  clear c2 g2 C1 H1 G1 F1
  obtain ⟨M, hM⟩ : ∃ M : Nat, 1 + (y : Int) = (M : Int) := ⟨1 + y, by omega⟩
  have hM1 : 1 ≤ M := by omega
  have hM2 : M ≤ 2 := by omega
  have S3 : Hid (PotV B a len cap g w w2.heap.size G M (.slice none 0 0) (w2.alloc (.cells #[.slice none 0 0, .int .i64 G, .int .i64 M] 26))) := by
    have hb : Below w2.heap.size w2 (w2.alloc (.cells #[.slice none 0 0, .int .i64 G, .int .i64 M] 26)) := (Below.refl _ _).alloc (Nat.le_refl _) _
    have f2 := F2.out
    exact ⟨C2.out.belowW hb C2.out.ltW, heap_alloc_new w2 _, (hb.block _ f2).trans H2.out, f2, grown_to G2.out hb, hlB⟩
  clear H2 G2 C2 F2
  go_wp2_with fail
  generalize w2.alloc (.cells #[.slice none 0 0, .int .i64 G, .int .i64 M] 26) = w4 at *
  generalize w2.heap.size = D at *
  refine (L1.out _ S3.out.cur 2 (by omega) (by omega)).mono ?_
  rintro e w5 ⟨k0, hk0, rfl, c5, g5⟩
  have S5 := Lib.hid (S3.out.drawn c5 g5)
  clear c5 g5 S3 hG hM hx hy
  have hk1 : 1 + k0 ≤ 2 := by omega
  go_wp2
  go_loopw [5, 6] (fun nv kv wr => ∃ (n k : Nat) (vp : Value) (T : List (List Int)) (xs : List Value), kv = .int .i64 k ∧ nv = .int .i64 n ∧ T.length + k ≤ 2 ∧ 1 ≤ T.length + k ∧ Hid (PotL T n G) ∧ Hid (PotV B a len cap g w D G M vp wr) ∧ Hid (RowsAp 31 tIntS wr (D + 1) vp T xs)) (fun _ kv _ => (RowKit.intOf kv).toNat)
  case atStart => exact ⟨0, 1 + k0, _, [], [], by simp, rfl, by simpa using hk1, by simp, ⟨rfl, by simp, by simp, fun r hr => by cases hr⟩, S5.out, RowsAp.nil (World.ownsRow_nil _ _ _ _)⟩
  case round =>
    clear S5
    obtain ⟨n, k, vp, T, xs, rfl, rfl, hTk, hT1, hPL, hS, RR⟩ := hrel
    have hn6 : n ≤ 3 * T.length := hPL.out.2.2.1
    by_cases hlt : 0 < k
    · obtain ⟨W0, hW0⟩ : ∃ W0, wr.alloc (.cells #[] 3) = W0 := ⟨_, rfl⟩
      have bW : Below wr.heap.size wr W0 := by rw [← hW0]; exact (Below.refl _ _).alloc (Nat.le_refl _) _
      have SW := Lib.hid (PotV.below bW hS.out)
      have OW : Hid (W0.ownsRow wr.heap.size 3 1 (.slice (some ⟨wr.heap.size, 0, none⟩) 0 0) 0 []) := by rw [← hW0]; exact World.ownsRow_lit (e := 3) (size := 1) wr #[] 0 (Nat.le_refl _) (by decide) rfl
      have c1 := SW.out.cell 1
      have c1' : W0.cell? ⟨D, 1, none⟩ = some (.int .i64 G) := c1
      have hDr : Hid (D < wr.heap.size) := hS.out.ltD
      have KW : Hid (∀ q, D + 1 ≤ q → q < wr.heap.size → W0.heap[q]? = wr.heap[q]?) := fun q _ hq => bW.block q hq
      have ZW : Hid (wr.heap.size ≤ W0.heap.size) := bW.size
      have hBD : Hid (B ≠ wr.heap.size ∧ B < D) := ⟨by have h1 := hS.out.2.2.2.2.2; have h2 := hS.out.ltD; have h3 := hS.out.2.2.2.1; omega, by have h1 := hS.out.2.2.2.2.2; have h3 := hS.out.2.2.2.1; omega⟩
      clear c1 bW hS
      go_wp2_with fail
      clear hW0
      refine (L1.out _ SW.out.cur G (by omega) (by omega)).mono ?_
      rintro e w6 ⟨z, hz, rfl, c6, g6⟩
      have S6 := Lib.hid (SW.out.drawn c6 g6)
      have O6 : Hid (w6.ownsRow wr.heap.size 3 1 (.slice (some ⟨wr.heap.size, 0, none⟩) 0 0) 0 []) := OW.out.kept g6 (.inr fun e => hBD.out.1 (by simpa [Value.ownBlock] using e.symm))
      have K6 : Hid (∀ q, D + 1 ≤ q → q < wr.heap.size → w6.heap[q]? = wr.heap[q]?) := fun q h1 h2 => (g6.block q (Nat.lt_of_lt_of_le h2 ZW.out) (by intro e; simp at e; have := hBD.out.2; omega)).trans (KW.out q h1 h2)
      have Z6 : Hid (wr.heap.size ≤ w6.heap.size) := Nat.le_trans ZW.out g6.size
      clear c6 g6 SW OW KW ZW c1'
      obtain ⟨tot, htot⟩ : ∃ t : Nat, 1 + (z : Int) = (t : Int) := ⟨1 + z, by omega⟩
      have ht1 : 1 ≤ tot := by omega
      have htG : tot ≤ G := by omega
      clear hz
      go_wp2
      clear htot
      generalize wr = ws at *
      go_loopw [5, 7, 8] (fun nv pv iv wi => ∃ (j i : Nat) (pa : Option Addr) (pc : Nat), iv = .int .i64 i ∧ nv = .int .i64 ((n + j : Nat) : Int) ∧ pv = .slice pa j pc ∧ j + i = tot ∧ Hid (PotV B a len cap g w D G M vp wi) ∧ Hid (wi.ownsRow ws.heap.size 3 1 (.slice pa j pc) j ((fromL n j).map (Value.int .i64))) ∧ Hid (∀ q, D + 1 ≤ q → q < ws.heap.size → wi.heap[q]? = ws.heap[q]?) ∧ Hid (ws.heap.size ≤ wi.heap.size)) (fun _ _ iv _ => (RowKit.intOf iv).toNat)
      case atStart => exact ⟨0, tot, some ⟨ws.heap.size, 0, none⟩, 0, by simp, by simp, rfl, by simp, S6, O6, K6, Z6⟩
      case round =>
        clear S6 O6 K6 Z6
        obtain ⟨j, i, pa, pc, rfl, rfl, rfl, hji, SI, OI, KI, ZI⟩ := hrel
        by_cases hlt2 : 0 < i
        · have hj3 : j ≤ 3 := by omega
          have zI : ws.heap.size ≤ wr.heap.size := ZI.out
          obtain ⟨nj, hnj⟩ : ∃ m : Nat, n + j = m := ⟨_, rfl⟩
          have HNJ := Lib.hid hnj
          have hnj9 : nj ≤ 100 := by omega
          rw [hnj]
          have s1 : IntKind.i64.wrap ((nj : Int) + 1) = (nj : Int) + 1 := IntWalk.i64_in _ (by omega)
          clear hnj
          go_wp2_with (at_builtin; refine wpList_pushL rfl (.tmp 33) (.tmp 35) 31 rfl ws.heap.size 3 Try.underlying31 hi hz0 hz1 hz2 rfl (by decide) [.int .i64 (nj : Int)] rfl (by intro u hu; simp at hu; subst hu; rfl) rfl (by show Value.slice (some ⟨_, 0, none⟩) 1 1 = _; simp) OI.out (by unfold maxLen; omega) (by omega) zI ?_; intro gg cc7 w7 o7 g7 at7 lt7)
          have bI : Below ws.heap.size wr w7 := (Below.refl _ _).grown g7 zI (fun q hq => (OI.out.lt q hq).1)
          have S7 := Lib.hid (PotV.high bI hDr.out SI.out)
          have K7 : Hid (∀ q, D + 1 ≤ q → q < ws.heap.size → w7.heap[q]? = ws.heap[q]?) := fun q h1 h2 => (bI.block q h2).trans (KI.out q h1 h2)
          have Z7 : Hid (ws.heap.size ≤ w7.heap.size) := Nat.le_trans zI bI.size
          have O7 : Hid (w7.ownsRow ws.heap.size 3 1 (.slice (some ⟨gg, 0, none⟩) (j + 1) cc7) (j + 1) ((fromL n (j + 1)).map (Value.int .i64))) := by
            have e9 : fromL n (j + 1) = fromL n j ++ [((n + j : Nat) : Int)] := rfl
            rw [e9, List.map_append, HNJ.out]
            exact o7
          clear bI o7 g7 at7 lt7 SI OI KI ZI
          have HNN : Hid (((nj : Int) + 1) = ((n + (j + 1) : Nat) : Int)) := by show _ = _; rw [← HNJ.out]; omega
          go_wp2
          go_roundw
          case rel => exact ⟨j + 1, i - 1, _, _, by go_num, by rw [HNN.out], rfl, by omega, S7, O7, K7, Z7⟩
          case measure => simp [RowKit.intOf]; omega
        obtain rfl : i = 0 := by omega
        obtain rfl : j = tot := by omega
        obtain ⟨va, vc, hvf⟩ := owns_sliceD RR.out.1
        obtain ⟨tl, hTL⟩ : ∃ tl, List.length (α := tIntS.D) T = tl := ⟨_, rfl⟩
        have HTL : Hid (T.length = tl) := hTL
        rw [hTL] at hvf
        subst hvf
        have c0 : wr.cell? ⟨D, 0, none⟩ = some (.slice va tl vc) := SI.out.cell 0
        have hTl : T.length ≤ 1 := by omega
        have htl1 : tl ≤ 1 := by have := HTL.out; omega
        have RW : Hid (wr.ownsRow (D + 1) 31 1 (.slice va tl vc) tl xs) := by
          have h9 := owns_frame (w' := wr) RR.out.1 fun q hq => KI.out q (RR.out.1.lt q hq).1 (RR.out.1.lt q hq).2
          rw [hTL] at h9
          exact h9
        have hDw : D + 1 ≤ wr.heap.size := Nat.le_trans hDr.out ZI.out
        have HPN := Lib.hid (hPL.out.push hTl ht1 htG hG3)
        have HTK9 : Hid (tl + k ≤ 2) := by show tl + k ≤ 2; have := HTL.out; omega
        have hk2 : k ≤ 2 := by have := HTK9.out; omega
        clear hTL hTl hTk hT1 hn6
        go_wp2_with (at_builtin; refine wpList_pushL rfl (.tmp 40) (.tmp 42) 24 rfl (D + 1) 31 Try.underlying24 ji jz0 jz1 jz2 rfl (by decide) [.slice pa j pc] rfl (by intro u hu; simp at hu; subst hu; rfl) rfl (by show Value.slice (some ⟨_, 0, none⟩) 1 1 = _; simp) RW.out (by unfold maxLen; omega) (by omega) hDw ?_; intro gg cc7 w7 o7 g7 at7 lt7; have S7 := Lib.hid (PotV.push (vp := .slice va tl vc) (L := fromL n j) rfl SI.out RR.out KI.out ZI.out hDr.out (by rw [fromL_len]; exact OI.out) g7 (by rw [HTL.out]; exact o7) at7); have f7 : w7.frozen? ⟨D, 0, none⟩ = false := S7.out.2.2.1; have e7 : w7.cell? ⟨D, 0, none⟩ = some (.slice va tl vc) := S7.out.2.2.2)
        have RN := Lib.hid S7.out.2.1
        have SN := Lib.hid S7.out.1
        clear S7 o7 g7 at7 lt7 SI OI KI ZI c0 RW RR
        go_wp2
        go_roundw
        case rel => exact ⟨n + j, k - 1, _, T ++ [fromL n j], _, by go_num, rfl, by rw [List.length_append, HTL.out]; show tl + 1 + (k - 1) ≤ 2; have := HTK9.out; omega, by rw [List.length_append, HTL.out]; show 1 ≤ tl + 1 + (k - 1); omega, HPN, SN, RN⟩
        case measure => simp [RowKit.intOf]; omega
    obtain rfl : k = 0 := by omega
    have hT1' : 1 ≤ T.length := by omega
    have hn6' : n ≤ 6 := by omega
    obtain ⟨va, vc, hvf⟩ := owns_sliceD RR.out.1
    obtain ⟨tl, hTL⟩ : ∃ tl, List.length (α := tIntS.D) T = tl := ⟨_, rfl⟩
    rw [hTL] at hvf
    subst hvf
    have s0 : Hid (PotV B a len cap g w D G M (.slice va tl vc) wr.drew) := PotV.below (Below.refl _ _).drew hS.out
    have r0 : Hid (RowsAp 31 tIntS wr.drew (D + 1) (.slice va tl vc) T xs) := RowsAp.below RR.out (Below.refl _ _).drew
    have hDd : Hid (D < wr.drew.heap.size) := s0.out.ltD
    have hBD : Hid (B < w.heap.size ∧ w.heap.size + 1 ≤ D) := ⟨s0.out.2.2.2.2.2, s0.out.2.2.2.1⟩
    have ne1 : ¬ w.heap.size = D := by have := hBD.out; omega
    have ne2 : ¬ D = w.heap.size := by omega
    clear hS RR hTL hTk hT1 hn6
    obtain ⟨m, hm⟩ : ∃ m : Nat, max 2 n = m := ⟨_, rfl⟩
    have HM9 : Hid ((if (2 : Int) < (n : Int) then (n : Int) else 2) = (m : Int)) := by
      show _ = _
      by_cases h : (2 : Int) < (n : Int)
      · rw [if_pos h]; omega
      · rw [if_neg h]; omega
    have hm6 : 0 < m ∧ m ≤ 6 := by omega
    have HMX := Lib.hid hm
    clear hm
    have LF9 : Hid (∀ wa, Cur B a len cap g wa → Calls Try.prog 76 #[.pointer (some ⟨B, 0, none⟩), .int .i64 (if (2 : Int) < (n : Int) then (n : Int) else 2)] wa (FieldMade B a len cap g m wa)) := fun wa h => by rw [HM9.out]; exact LF.out m wa h hm6.1 hm6.2
    obtain ⟨S, HSd⟩ : ∃ S : World → Prop, S = fun w' => Cur B a len cap g w' ∧ w'.heap[D]? = some (.cells #[.slice va tl vc, .int .i64 G, .int .i64 M] 26 (0, 0)) := ⟨_, rfl⟩
    have OS : Hid (∀ wa, S wa → Cur B a len cap g wa ∧ wa.heap[D]? = some (.cells #[.slice va tl vc, .int .i64 G, .int .i64 M] 26 (0, 0))) := by subst HSd; exact fun wa h => h
    have IS : Hid (∀ wa, Cur B a len cap g wa → wa.heap[D]? = some (.cells #[.slice va tl vc, .int .i64 G, .int .i64 M] 26 (0, 0)) → S wa) := by subst HSd; exact fun wa h1 h2 => ⟨h1, h2⟩
    clear HSd
    go_wp2_with fail
    refine wp_region_held_drew (S := S) (by kernel_rfl) ?_ (fun hHeld => ?_)
    · exact IS.out _ s0.out.1 s0.out.2.1
    refine wpAnyH_take (i := 0) (v := ?_) rfl (by kernel_rfl) (by kernel_rfl) (by kernel_rfl) (fun _ _ _ h => h) (Or.inl ⟨by rfl, ?_⟩) hHeld ?_
    rotate_left
    · (intro wa hSw; go_simp; try with_reducible rfl)
    simp only [Act.put, List.getElem_toArray, List.getElem_cons_zero, List.setIfInBounds_toArray, List.set_cons_zero, List.set_cons_succ]
    refine wpAnyH_take (i := 1) (v := ?_) rfl (by kernel_rfl) (by kernel_rfl) (by kernel_rfl) (fun _ _ _ h => h) (Or.inl ⟨by rfl, ?_⟩) hHeld ?_
    rotate_left
    · (intro wa hSw; go_simp; try with_reducible rfl)
    simp only [Act.put, List.getElem_toArray, List.getElem_cons_zero, List.getElem_cons_succ, List.setIfInBounds_toArray, List.set_cons_zero, List.set_cons_succ]
    refine wpAnyH_take (i := 2) (v := ?_) rfl (by kernel_rfl) (by kernel_rfl) (by kernel_rfl) (fun _ _ _ h => h) (Or.inl ⟨by rfl, ?_⟩) hHeld ?_
    rotate_left
    · (intro wa hSw; go_simp; try with_reducible rfl)
    simp only [Act.put, List.getElem_toArray, List.getElem_cons_zero, List.getElem_cons_succ, List.setIfInBounds_toArray, List.set_cons_zero, List.set_cons_succ]
    refine wpAnyH_take (i := 4) (v := ?_) rfl (by kernel_rfl) (by kernel_rfl) (by kernel_rfl) (fun _ _ _ h => h) (Or.inl ⟨by rfl, ?_⟩) hHeld ?_
    rotate_left
    · (intro wa hSw; have K := OS.out _ hSw; have d0 := cell_of_row wa D 0 _ _ (0, 0) K.2; have d1 := cell_of_row wa D 1 _ _ (0, 0) K.2; have d2 := cell_of_row wa D 2 _ _ (0, 0) K.2; go_simp; try with_reducible rfl)
    simp only [Act.put, List.getElem_toArray, List.getElem_cons_zero, List.getElem_cons_succ, List.setIfInBounds_toArray, List.set_cons_zero, List.set_cons_succ]
    refine wpAnyH_ready (rs := [3]) (by kernel_rfl) (by simp) ?_
    refine AllReadyH.cons (o := _) rfl (fun K hK => ?_) AllReadyH.nil
    go_simp
    refine (LF9.out _ s0.out.1).mono ?_
    rintro e wa ⟨vf, F, turn, fx, rfl, htu, hmf, hof, hcf, hca, hga⟩
    obtain ⟨fa, fc, hvf⟩ := owns_sliceD hof
    subst hvf
    have sa := Lib.hid (PotV.drawn hca hga s0.out)
    have ra := Lib.hid (RowsAp.offD r0.out (fun q k1 k2 => hga.block q k2 (by intro e; simp at e; have := hBD.out; omega)) hga.size)
    have hF := Lib.hid (⟨htu, hmf, hof, hcf⟩ : turn < m ∧ MadeF m turn F m ∧ _ ∧ _)
    clear htu hmf hof hcf hca hga
    refine hK.out _ _ ?_ (fun hHeld1 => ?_)
    · exact IS.out _ sa.out.1 sa.out.2.1
    clear hK K
    refine wpAnyH_take (i := 5) (v := ?_) rfl (by kernel_rfl) (by kernel_rfl) (by kernel_rfl) (fun _ _ _ h => h) (Or.inl ⟨by rfl, ?_⟩) hHeld1 ?_
    rotate_left
    · (intro wa hSw; go_simp; try with_reducible rfl)
    simp only [Act.put, List.getElem_toArray, List.getElem_cons_zero, List.getElem_cons_succ, List.setIfInBounds_toArray, List.set_cons_zero, List.set_cons_succ]
    have q0 : wa.cell? ⟨w.heap.size, 0, none⟩ = some (.slice none 0 0) := cell_of_row _ _ 0 _ _ (0, 0) sa.out.2.2.1
    have q1 : wa.cell? ⟨w.heap.size, 1, none⟩ = some (.int .i64 0) := cell_of_row _ _ 1 _ _ (0, 0) sa.out.2.2.1
    have q2 : wa.cell? ⟨w.heap.size, 2, none⟩ = some (.int .i64 0) := cell_of_row _ _ 2 _ _ (0, 0) sa.out.2.2.1
    have f0 : wa.frozen? ⟨w.heap.size, 0, none⟩ = false := frozen_of_row _ _ 0 _ _ sa.out.2.2.1
    have f1 : wa.frozen? ⟨w.heap.size, 1, none⟩ = false := frozen_of_row _ _ 1 _ _ sa.out.2.2.1
    have f2 : wa.frozen? ⟨w.heap.size, 2, none⟩ = false := frozen_of_row _ _ 2 _ _ sa.out.2.2.1
    refine wpAnyH_ready (rs := [6]) (by kernel_rfl) (by simp) ?_
    refine AllReadyH.cons (o := _) rfl (fun K hK => ?_) AllReadyH.nil
    go_simp
    have TT : Touch w.heap.size (w.heap.size + 1) wa (((wa.setCell ⟨w.heap.size, 0, none⟩ (.slice va tl vc)).setCell ⟨w.heap.size, 1, none⟩ (.int .i64 G)).setCell ⟨w.heap.size, 2, none⟩ (.int .i64 M)) := (((Touch.refl _ _ _).setCell ⟨w.heap.size, 0, none⟩ _ (by simp) (by simp)).setCell ⟨w.heap.size, 1, none⟩ _ (by simp) (by simp)).setCell ⟨w.heap.size, 2, none⟩ _ (by simp) (by simp)
    obtain ⟨x1, x2, x3, x4⟩ := PotV.fin sa.out ra.out (lo := wr.drew.heap.size) hDd.out hF.out.2.2.1 TT
    have X1 := Lib.hid x1
    have X2 := Lib.hid x2
    have X3 := Lib.hid x3
    have X4 := Lib.hid x4
    refine hK.out _ _ ?_ (fun hHeld2 => ?_)
    · exact IS.out _ x3 ((TT.block D sa.out.ltD (by have := hBD.out; omega)).trans sa.out.2.1)
    clear hK K x1 x2 x3 x4 TT
    refine wpAnyH_done (by kernel_rfl) ?_ _
    clear OS IS hHeld hHeld1 hHeld2
    go_wp2
    all_goals
      refine bodyPost_ret (v := .tuple #[.slice fa m fc, .agg #[.slice va tl vc, .int .i64 G, .int .i64 M]]) (by simp [results, Try.results41, go_sem, q0, q1, q2]) rfl ?_
      exact ⟨_, _, G, M, n, m, T, F, fx, turn, rfl, ⟨⟨hG2, hG3⟩, ⟨hM1, hM2⟩, hT1', hPL.out, HMX.out.symm⟩, ⟨hF.out.1, hF.out.2.1, X1.out, hF.out.2.2.2⟩, X2.out, X3.out, X4.out⟩
end Go.Proofs.Ytmhkkdnopcdibaa
set_option linter.unusedVariables false
namespace Go.Proofs.Ytmhkkdnopcdibaa
open Go.RowKit

def PotsMade (w : World) (e : Ending) (w' : World) : Prop :=
  ∃ (vf vp : Value) (G M nf : Nat) (T : List (List Int)) (F : Nat → TeamD), e = .returned (.tuple #[vf, .agg #[vp, .int .i64 G, .int .i64 M]]) ∧ (2 ≤ G ∧ G ≤ 3) ∧ potsP nf F T G M ∧ (∀ i, (F i).nm.size ≤ maxLen) ∧ tIntSS.wt T ≤ 1048576 ∧ TeamRow w' vf nf F ∧ RdA tIntSS w' [vp] T ∧ Below w.heap.size w w'
theorem FieldGood.sizes {n : Nat} {G : Nat → TeamD} (h : FieldGood n G) (i : Nat) : (G i).nm.size ≤ maxLen := by
  obtain ⟨hn, ⟨turn, ht, hm⟩, hd⟩ := h
  by_cases hi : i < n
  · obtain ⟨h1, h2, h3⟩ := hm i hi
    rw [h1, madeNm_eq (by omega)]
    show 2 ≤ maxLen
    decide
  · rw [hd i (by omega)]
    exact Nat.zero_le _
theorem getD_mem {T : List (List Int)} {i : Nat} (hi : i < T.length) : T.getD i [] ∈ T := by
  rw [List.getD_eq_getElem?_getD, List.getElem?_eq_getElem hi]
  exact List.getElem_mem hi
theorem PotL.pots {T : List (List Int)} {n G M m : Nat} {F : Nat → TeamD} (h : PotL T n G) (hG : 2 ≤ G ∧ G ≤ 3) (hM : 1 ≤ M ∧ M ≤ 2) (h1 : 1 ≤ T.length) (hm : m = max 2 n) (hf : FieldGood m F) : potsP m F T G M := by
  refine ⟨hf.field, ⟨by omega, by omega⟩, ⟨by omega, by omega⟩, ⟨by omega, by have := h.2.1; omega⟩, fun i hi => ?_, h.diff (by omega)⟩
  have := h.2.2.2 _ (getD_mem hi)
  exact ⟨by omega, by omega⟩
theorem sum_wt : ∀ (T : List (List Int)) (G : Nat), (∀ r ∈ T, r.length ≤ G) → (T.map tIntS.wt).sum ≤ T.length * G
  | [], _, _ => Nat.zero_le _
  | r :: T, G, h => by
    have h1 := sum_wt T G fun x hx => h x (List.mem_cons_of_mem _ hx)
    have h2 := h r (List.mem_cons_self ..)
    have h3 : tIntS.wt r = r.length := by
      show r.length + (r.map tInt.wt).sum = r.length
      have : (r.map tInt.wt).sum = 0 := by
        clear h h1 h2
        induction r with
        | nil => rfl
        | cons a r ih => show 0 + (r.map tInt.wt).sum = 0; omega
      omega
    show tIntS.wt r + (T.map tIntS.wt).sum ≤ (T.length + 1) * G
    rw [h3, Nat.succ_mul]
    omega
theorem PotL.wt {T : List (List Int)} {n G : Nat} (h : PotL T n G) (hG : G ≤ 3) : tIntSS.wt T ≤ 1048576 := by
  have h1 := sum_wt T G fun r hr => (h.2.2.2 r hr).2
  have h2 := h.2.1
  have h3 : T.length * G ≤ 2 * 3 := Nat.mul_le_mul h2 hG
  show T.length + (T.map tIntS.wt).sum ≤ _
  omega
set_option maxRecDepth 100000 in
set_option maxHeartbeats 1000000 in
theorem makePots_any (a : Option Addr) (len cap : Nat) (g : Nat → Nat) (w : World) (hr : ByteRow w a len g) (hg : ∀ i, g i ≤ 255) (hl : len ≤ 1048576) :
    Calls Try.prog 12 #[.slice a len cap] w (PotsMade w) := by
  have C := Lib.hid (fun w1 hr => l01New_any a len cap g w1 hr hg hl)
  have L2 := Lib.hid (fun B w1 hc => l12Draw_any B a len cap g w1 hc)
  have HR := Lib.hid hr
  clear hr hg hl
  go_enter Try.func12, Try.ntmps12
  go_wp2_with fail
  refine (C.out _ (HR.out.below ((Below.refl _ w).alloc (Nat.le_refl _) _) (Nat.le_refl _))).mono ?_
  rintro e w1 ⟨B, rfl, hB, hc, hb⟩
  have L3 := Lib.hid (L2.out B w1 hc)
  have HB := Lib.hid hb
  have hs := hb.size
  clear C L2 hc hb
  go_wp2_with fail
  refine L3.out.mono ?_
  rintro e w2 ⟨vf, vp, G, M, n, m, T, F, xs, turn, rfl, hgood, ⟨htu, hmf, hof, hxs⟩, ho, hc, hg⟩
  replace ho : OwN tIntSS w2 (w1.heap.size + 1) w2.heap.size [vp] T := ho
  have b2 : Below (w.heap.size + 1) (w.alloc (.cells #[.slice none 0 0, .int .i64 0, .int .i64 0] 26)) w2 := by
    have h1 := HB.out.grown hg hs fun k hk => by cases hk; exact hB
    simpa using h1
  have bz := BoxN.made (u := w) (by simpa using b2) (B := w.heap.size) rfl
  have q0 := bz.2 0 _ rfl
  have q1 := bz.2 1 _ rfl
  have q2 := bz.2 2 _ rfl
  have f0 := fun j => BoxN.free (u := w) (by simpa using b2) (B := w.heap.size) rfl j
  have hlt : w.heap.size < w2.heap.size := bz.1
  obtain ⟨pa, pc, rfl, _⟩ := pots_form ho.rdA
  obtain ⟨fa, fc, rfl⟩ := owns_sliceD hof
  have HO := Lib.hid ho
  have HF := Lib.hid hof
  have HG := Lib.hid hgood
  have HMF := Lib.hid (⟨htu, hmf, hxs⟩ : turn < m ∧ MadeF m turn F m ∧ _)
  have B2 := Lib.hid b2
  have hs1 := hs
  simp only [World.size_alloc] at hs1
  have HSZ := Lib.hid hs1
  obtain ⟨np, hnp⟩ : ∃ np, List.length (α := List Int) T = np := ⟨_, rfl⟩
  rw [hnp] at HO ⊢
  clear ho hof hgood hc hg bz b2 hs hnp htu hmf hxs
  go_wp2
  have TT : Touch w.heap.size (w.heap.size + 1) w2 (((w2.setCell ⟨w.heap.size, 0, none⟩ (.slice pa np pc)).setCell ⟨w.heap.size, 1, none⟩ (.int .i64 G)).setCell ⟨w.heap.size, 2, none⟩ (.int .i64 M)) :=
    (((Touch.refl _ _ _).setCell ⟨w.heap.size, 0, none⟩ _ (by simp) (by simp)).setCell ⟨w.heap.size, 1, none⟩ _ (by simp) (by simp)).setCell ⟨w.heap.size, 2, none⟩ _ (by simp) (by simp)
  refine bodyPost_ret (v := .tuple #[.slice fa m fc, .agg #[.slice pa np pc, .int .i64 G, .int .i64 M]]) (by simp [results, Try.results12, go_sem, q0, q1, q2]) rfl ?_
  generalize (((w2.setCell ⟨w.heap.size, 0, none⟩ (.slice pa np pc)).setCell ⟨w.heap.size, 1, none⟩ (.int .i64 G)).setCell ⟨w.heap.size, 2, none⟩ (.int .i64 M)) = w9 at *
  have hsz := HSZ.out
  have hg9 : w2.grownBy w9 (some w.heap.size) := ⟨TT.os, TT.tape, TT.output, TT.size, fun k hk hne => TT.block k hk (by have : k ≠ w.heap.size := fun e => hne (by rw [e]); omega)⟩
  have hf9 := HF.out.kept hg9 (by
    cases hv : (Value.slice fa m fc).ownBlock with
    | none => exact .inl rfl
    | some q => exact .inr fun e => by have := (HF.out.lt q hv).1; simp at e; omega)
  have b9 : Below w.heap.size w w9 := ((Below.refl w.heap.size w).alloc (Nat.le_refl _) _).trans ((B2.out.mono (Nat.le_succ _)).trans (TT.below (Nat.le_refl _) (Nat.le_of_lt hlt)))
  obtain ⟨hG, hM, hT1, hPL, hm⟩ := HG.out
  have hgood : FieldGood m (fun i => if i < m then F i else ⟨ByteArray.empty, 0, 0⟩) := ⟨by have := hPL.2.1; have := hPL.2.2.1; omega, ⟨turn, HMF.out.1, fun i hi => by simp only [hi, if_true]; exact HMF.out.2.1 i hi⟩, fun i hi => if_neg (by omega)⟩
  exact ⟨_, _, G, M, m, T, _, rfl, hG, hPL.pots hG hM hT1 hm hgood, hgood.sizes, hPL.wt hG.2, TeamRow.of_owns hf9 (by have := hgood.1; omega) fun t ht => by simp only [ht, if_true]; exact HMF.out.2.2 t ht, (HO.out.touch TT (.inr (by omega))).rdA, b9⟩
end Go.Proofs.Ytmhkkdnopcdibaa
