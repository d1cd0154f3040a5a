/-
  Packed: DrwSym, CopyR, RepeatInt, DrwImplQ.
-/
import Derived.Laws.IdiomCopy
import Derived.Test.YtmhkkdnopcdibaaShelf
import Derived.Test.YtmhkkdnopcdibaaQ2
import Derived.Test.YtmhkkdnopcdibaaQ4
import Derived.Test.YtmhkkdnopcdibaaQ5
import Derived.Test.YtmhkkdnopcdibaaQ9
import Derived.Test.YtmhkkdnopcdibaaQ14
import Derived.Test.YtmhkkdnopcdibaaQ21
import Derived.Test.YtmhkkdnopcdibaaQ25
import Derived.Test.YtmhkkdnopcdibaaQ34
set_option linter.unusedVariables false
namespace Go.Proofs.Ytmhkkdnopcdibaa
open Go.RowKit

def sw (b g : Nat) : Nat := if g = 0 then b else if g = b then 0 else g
theorem sw_sw (b g : Nat) : sw b (sw b g) = g := by
  unfold sw
  by_cases h0 : g = 0
  · subst h0
    by_cases hb : b = 0
    · subst hb; simp
    · simp [hb]
  · by_cases hb : g = b
    · subst hb; simp [h0]
    · simp [h0, hb]
theorem sw_inj {b k g : Nat} : sw b k = sw b g ↔ k = g := ⟨fun h => by rw [← sw_sw b k, h, sw_sw], fun h => by rw [h]⟩
theorem sum_sw (F : Nat → Nat) (G b : Nat) (hG : G ≤ 4) (hb : b < G) : sumNN (fun g => F (sw b g)) G = sumNN F G := by
  have h : (G = 1 ∧ b = 0) ∨ (G = 2 ∧ (b = 0 ∨ b = 1)) ∨ (G = 3 ∧ (b = 0 ∨ b = 1 ∨ b = 2)) ∨ (G = 4 ∧ (b = 0 ∨ b = 1 ∨ b = 2 ∨ b = 3)) := by omega
  rcases h with ⟨rfl, rfl⟩ | ⟨rfl, rfl | rfl⟩ | ⟨rfl, rfl | rfl | rfl⟩ | ⟨rfl, rfl | rfl | rfl | rfl⟩ <;> simp [sumNN, sw] <;> omega
def swP (b : Nat) (P : Nat → Nat → Bool) : Nat → Nat → Bool := fun g p => P (sw b g) p
def swC (b : Nat) (C : Nat → Nat → Int) : Nat → Nat → Int := fun g c => C (sw b g) c
theorem put_swP (d : DrwD) (b i g : Nat) (P : Nat → Nat → Bool) : putP d (swP b P) i g true = swP b (putP d P i (sw b g) true) := by
  funext k p
  show (if k = g ∧ p = d.pot i then true else P (sw b k) p) = (if sw b k = sw b g ∧ p = d.pot i then true else P (sw b k) p)
  by_cases h : k = g ∧ p = d.pot i
  · rw [if_pos h, if_pos ⟨sw_inj.2 h.1, h.2⟩]
  · rw [if_neg h, if_neg (fun h9 => h ⟨sw_inj.1 h9.1, h9.2⟩)]
theorem put_swC (d : DrwD) (b i g : Nat) (C : Nat → Nat → Int) : putC d (swC b C) i g true = swC b (putC d C i (sw b g) true) := by
  funext k c
  show (if k = g ∧ c = d.cl i then C (sw b g) (d.cl i) + 1 else C (sw b k) c) = (if sw b k = sw b g ∧ c = d.cl i then C (sw b g) (d.cl i) + 1 else C (sw b k) c)
  by_cases h : k = g ∧ c = d.cl i
  · rw [if_pos h, if_pos ⟨sw_inj.2 h.1, h.2⟩]
  · rw [if_neg h, if_neg (fun h9 => h ⟨sw_inj.1 h9.1, h9.2⟩)]
theorem cnt_sw (d : DrwD) (b : Nat) (hG : d.G ≤ 4) (hb : b < d.G) : ∀ (f : Nat) (P : Nat → Nat → Bool) (C : Nat → Nat → Int) (i : Nat), cntF d f (swP b P) (swC b C) i = cntF d f P C i
  | 0, P, C, i => rfl
  | f + 1, P, C, i => by
    show (if i = d.N then 1 else sumNN (fun g => if fitB d (swP b P) (swC b C) i g = true then cntF d f (putP d (swP b P) i g true) (putC d (swC b C) i g true) (i + 1) else 0) d.G) = (if i = d.N then 1 else sumNN (fun g => if fitB d P C i g = true then cntF d f (putP d P i g true) (putC d C i g true) (i + 1) else 0) d.G)
    by_cases hi : i = d.N
    · rw [if_pos hi, if_pos hi]
    · rw [if_neg hi, if_neg hi, ← sum_sw (fun g => if fitB d P C i g = true then cntF d f (putP d P i g true) (putC d C i g true) (i + 1) else 0) d.G b hG hb]
      refine sumNN_congr _ fun g _ => ?_
      have e : fitB d (swP b P) (swC b C) i g = fitB d P C i (sw b g) := rfl
      rw [e, put_swP, put_swC, cnt_sw d b hG hb f]
theorem ch_sw (d : DrwD) (b : Nat) (hG : d.G ≤ 4) (hb : b < d.G) : ∀ (f : Nat) (P : Nat → Nat → Bool) (C : Nat → Nat → Int) (i h : Nat), chF d f (swP b P) (swC b C) i h = chF d f P C i (sw b h)
  | 0, P, C, i, h => by
    show (if fitB d (swP b P) (swC b C) i h = true then cntF d (d.N - (i + 1)) (putP d (swP b P) i h true) (putC d (swC b C) i h true) (i + 1) else 0) = (if fitB d P C i (sw b h) = true then cntF d (d.N - (i + 1)) (putP d P i (sw b h) true) (putC d C i (sw b h) true) (i + 1) else 0)
    have e : fitB d (swP b P) (swC b C) i h = fitB d P C i (sw b h) := rfl
    rw [e, put_swP, put_swC, cnt_sw d b hG hb]
  | f + 1, P, C, i, h => by
    show sumNN (fun g => if fitB d (swP b P) (swC b C) i g = true then chF d f (putP d (swP b P) i g true) (putC d (swC b C) i g true) (i + 1) h else 0) d.G = sumNN (fun g => if fitB d P C i g = true then chF d f (putP d P i g true) (putC d C i g true) (i + 1) (sw b h) else 0) d.G
    rw [← sum_sw (fun g => if fitB d P C i g = true then chF d f (putP d P i g true) (putC d C i g true) (i + 1) (sw b h) else 0) d.G b hG hb]
    refine sumNN_congr _ fun g _ => ?_
    have e : fitB d (swP b P) (swC b C) i g = fitB d P C i (sw b g) := rfl
    rw [e, put_swP, put_swC, ch_sw d b hG hb f]
theorem sum_constD (c : Nat) : ∀ G, sumNN (fun _ => c) G = G * c
  | 0 => by rw [Nat.zero_mul]; rfl
  | G + 1 => by
    show sumNN (fun _ => c) G + c = _
    rw [sum_constD c G, Nat.succ_mul]
theorem ch_each {d : DrwD} (ok : DrwOk d) {f h : Nat} (hf : f < d.N) (hh : h < d.G) : chF d f noP noC 0 h = cntP d [] / d.G := by
  have hG := ok.G
  have e0 : ∀ b, b < d.G → chF d f noP noC 0 b = chF d f noP noC 0 0 := fun b hb => by
    have h1 := ch_sw d b hG.2 hb f noP noC 0 0
    have e1 : swP b noP = noP := rfl
    have e2 : swC b noC = noC := rfl
    rw [e1, e2] at h1
    rw [h1]
    rfl
  have h1 := sum_ch d f noP noC 0 (by omega)
  rw [sumNN_congr d.G (g := fun _ => chF d f noP noC 0 0) (fun k hk => e0 k hk), sum_constD] at h1
  have h2 := (PreS.nil d).cnt ok (Nat.zero_le _)
  rw [h2, ← h1, e0 h hh, Nat.mul_div_cancel_left _ (by omega)]
end Go.Proofs.Ytmhkkdnopcdibaa
set_option linter.unusedVariables false
namespace Go.Proofs.Ytmhkkdnopcdibaa
open Go.RowKit

theorem owns_setCells {base : Nat} {e : TypeId} {size g n cap : Nat} (cs : List Value) : ∀ {w : World} {xs : List Value} (_ : w.ownsRow base e size (.slice (some ⟨g, 0, none⟩) n cap) n xs) (s : Nat),
    (w.setCells g s cs).ownsRow base e size (.slice (some ⟨g, 0, none⟩) n cap) n (setsFrom xs s cs) := by
  induction cs with
  | nil => intro w xs h s; exact h
  | cons u us ih => intro w xs h s; exact ih (h.stored s u).1 (s + 1)
theorem below_setCells {B0 g : Nat} {a : World} (cs : List Value) : ∀ {w : World} (_ : Below B0 a w) (_ : B0 ≤ g) (s : Nat), Below B0 a (w.setCells g s cs) := by
  induction cs with
  | nil => intro w h _ s; exact h
  | cons u us ih => intro w h hB s; exact ih (Below.setCell h (p := ⟨g, s, none⟩) hB u) hB (s + 1)
theorem run_copyR {P : Program} (w : World) (dT sT ty elem : TypeId) (i : TypeInfo) (k g o dLen dCap : Nat) (a : Addr) (sLen sCap : Nat) (cs : List Value)
    (hu : P.underlying dT = some (.slice elem)) (hi : P.info? elem = some i) (hk : i.size = k) (hn : cs.length = Nat.min sLen dLen * k)
    (hsrc : ∀ j v, cs[j]? = some v → w.cell? (a.add j) = some v) (hc : ∀ j, j < cs.length → (w.cell? ⟨g, o + j, none⟩).isSome = true) (hf : ∀ j, j < cs.length → w.frozen? ⟨g, o + j, none⟩ = false) (h1 : ∀ v ∈ cs, v.oneCell' = true) :
    (Builtin.copy_ #[dT, sT] ty #[.slice (some ⟨g, o, none⟩) dLen dCap, .slice (some a) sLen sCap]).run P w = .ok (goInt (Nat.min sLen dLen)) (w.setCells g o cs) := by
  have hl := run_loadCells_list (P := P) w a cs hsrc
  have hst := run_storeCells_cells (P := P) g o cs 0 w (by simpa using hc) (by simpa using hf) h1
  subst hk
  simp [Builtin.copy_, run_underlying hu, Builtin.lenOf, Builtin.firstCells, sizeOf, typeInfo, hi, ← hn, hl, hst]
section
variable {P : Program} {ops : Array Oper} {o : Oper} {a : Act} {w : World}
theorem upon_copyR {K : Act → World → Prop} {Q : Exit → Act → World → Prop} (d s : Operand) (dT sT : TypeId)
    (ho : o.op = .call { callee := .builtin .copy, args := #[d, s], argTypes := #[dT, sT] }) {base : Nat} {e : TypeId} {i : TypeInfo} {k : Nat} (hu : P.underlying dT = some (.slice e)) (hi : P.info? e = some i) (hk : i.size = k)
    {g n cap : Nat} {xs : List Value} (hown : w.ownsRow base e k (.slice (some ⟨g, 0, none⟩) n cap) n xs) (off dLen dCap : Nat) (ad : Addr) (sLen sCap : Nat)
    (hd : a.eval d = .slice (some ⟨g, off, none⟩) dLen dCap) (hs : a.eval s = .slice (some ad) sLen sCap) (cs : List Value) (q : Nat) (hq : q = Nat.min sLen dLen) (hn : cs.length = q * k)
    (hsrc : ∀ j v, cs[j]? = some v → w.cell? (ad.add j) = some v) (hfit : off + cs.length ≤ n * k) (h1 : ∀ v ∈ cs, v.oneCell' = true)
    (h : ∀ w', w'.ownsRow base e k (.slice (some ⟨g, 0, none⟩) n cap) n (setsFrom xs off cs) → Below base w w' → K (a.put o.dst (.int .i64 q)) w') :
    Oper.wp P o a w K Q := by
  subst hq
  have hlt := (hown.lt g rfl).1
  have hlen := hown.1
  have hrun := run_copyR (P := P) w dT sT o.type e i k g off dLen dCap ad sLen sCap cs hu hi hk hn hsrc
    (fun j hj => by rw [hown.cellAt _ (by omega)]; rw [List.getElem?_eq_getElem (by omega)]; rfl) (fun j hj => hown.frozenAt _) h1
  unfold Oper.wp
  simp [execOp, ho, resolve, invoke, builtin, hd, hs, hrun, Result.andThen]
  exact h _ (owns_setCells cs hown off) (below_setCells cs (Below.refl _ _) hlt off)
theorem step_copyR {K : Act → World → Prop} {Q : Exit → Act → World → Prop} {E : Prop} (hgd : o.guard = none) (d s : Operand) (dT sT : TypeId)
    (ho : o.op = .call { callee := .builtin .copy, args := #[d, s], argTypes := #[dT, sT] }) {base : Nat} {e : TypeId} {i : TypeInfo} {k : Nat} (hu : P.underlying dT = some (.slice e)) (hi : P.info? e = some i) (hk : i.size = k)
    {g n cap : Nat} {xs : List Value} (hown : w.ownsRow base e k (.slice (some ⟨g, 0, none⟩) n cap) n xs) (off dLen dCap : Nat) (ad : Addr) (sLen sCap : Nat)
    (hd : a.eval d = .slice (some ⟨g, off, none⟩) dLen dCap) (hs : a.eval s = .slice (some ad) sLen sCap) (cs : List Value) (q : Nat) (hq : q = Nat.min sLen dLen) (hn : cs.length = q * k)
    (hsrc : ∀ j v, cs[j]? = some v → w.cell? (ad.add j) = some v) (hfit : off + cs.length ≤ n * k) (h1 : ∀ v ∈ cs, v.oneCell' = true)
    (h : ∀ w', w'.ownsRow base e k (.slice (some ⟨g, 0, none⟩) n cap) n (setsFrom xs off cs) → Below base w w' → K (a.put o.dst (.int .i64 q)) w') :
    if Region.wanted o (yielded ops a.tmps) = true then Oper.wp P o a w K Q else E := by
  have hw : Region.wanted o (yielded ops a.tmps) = true := by simp [Region.wanted, hgd]
  rw [if_pos hw]
  exact upon_copyR d s dT sT ho hu hi hk hown off dLen dCap ad sLen sCap hd hs cs q hq hn hsrc hfit h1 h
theorem wpList_copyR {rest : List Oper} {Q : Exit → Act → World → Prop} (hgd : o.guard = none) (d s : Operand) (dT sT : TypeId)
    (ho : o.op = .call { callee := .builtin .copy, args := #[d, s], argTypes := #[dT, sT] }) {base : Nat} {e : TypeId} {i : TypeInfo} {k : Nat} (hu : P.underlying dT = some (.slice e)) (hi : P.info? e = some i) (hk : i.size = k)
    {g n cap : Nat} {xs : List Value} (hown : w.ownsRow base e k (.slice (some ⟨g, 0, none⟩) n cap) n xs) (off dLen dCap : Nat) (ad : Addr) (sLen sCap : Nat)
    (hd : a.eval d = .slice (some ⟨g, off, none⟩) dLen dCap) (hs : a.eval s = .slice (some ad) sLen sCap) (cs : List Value) (q : Nat) (hq : q = Nat.min sLen dLen) (hn : cs.length = q * k)
    (hsrc : ∀ j v, cs[j]? = some v → w.cell? (ad.add j) = some v) (hfit : off + cs.length ≤ n * k) (h1 : ∀ v ∈ cs, v.oneCell' = true)
    (h : ∀ w', w'.ownsRow base e k (.slice (some ⟨g, 0, none⟩) n cap) n (setsFrom xs off cs) → Below base w w' → wpList P ops Q rest (a.put o.dst (.int .i64 q)) w') :
    wpList P ops Q (o :: rest) a w := by
  refine wpList_plain hgd fun K hK => ?_
  exact upon_copyR d s dT sT ho hu hi hk hown off dLen dCap ad sLen sCap hd hs cs q hq hn hsrc hfit h1 (fun w' h1 h2 => hK _ _ (h w' h1 h2))
end
theorem cells_add {w : World} {B off : Nat} {cs : List Value} (h : CellsAt w B off cs) : ∀ j v, cs[j]? = some v → w.cell? ((⟨B, off, none⟩ : Addr).add j) = some v := fun j v hv => by
  have hadd : (⟨B, off, none⟩ : Addr).add j = ⟨B, off + j, none⟩ := by unfold Addr.add; split <;> simp_all
  rw [hadd]
  exact h.2 j v hv
def rep (cs : List Value) (q : Nat) : List Value := flatR (fun _ => cs) q
theorem rep_len {k : Nat} {cs : List Value} (h : cs.length = k) (q : Nat) : (rep cs q).length = q * k := flatR_len k _ q fun _ _ => h
theorem rep_cells {k : Nat} {cs : List Value} (h : cs.length = k) (q : Nat) : RecCells k q (rep cs q) (fun _ => cs) := flatR_cells k _ q fun _ _ => h
theorem cells_more {k n m q : Nat} {xs cs : List Value} (h : RecCells k m xs (fun _ => cs)) (hl : xs.length = n * k) (hcl : cs.length = k) (hmq : m + q ≤ n) :
    RecCells k (m + q) (setsFrom xs (m * k) (rep cs q)) (fun _ => cs) := by
  have hmul : m * k + q * k ≤ n * k := by rw [← Nat.add_mul]; exact Nat.mul_le_mul_right k hmq
  have hrl := rep_len hcl q
  intro i hi j u hu
  have hj : j < k := by rw [← hcl]; exact (List.getElem?_eq_some_iff.1 hu).1
  by_cases him : i < m
  · rw [setsFrom_out]
    · exact h i him j u hu
    · left
      have := Nat.mul_le_mul_right k (show i + 1 ≤ m by omega)
      rw [Nat.succ_mul] at this
      omega
  · obtain ⟨d, rfl⟩ : ∃ d, i = m + d := ⟨i - m, by omega⟩
    rw [show (m + d) * k + j = m * k + (d * k + j) by rw [Nat.add_mul]; omega]
    exact setsFrom_in _ _ _ _ u (by omega) (rep_cells hcl q d (by omega) j u hu)
theorem first_cells {k : Nat} {xs cs : List Value} (hcl : cs.length = k) (hl : k ≤ xs.length) : RecCells k 1 (setsFrom xs 0 cs) (fun _ => cs) := by
  intro i hi j u hu
  obtain rfl : i = 0 := by omega
  rw [Nat.zero_mul]
  exact setsFrom_in cs xs 0 j u (by omega) hu
theorem rep_one {cs : List Value} {q : Nat} {v : Value} (h1 : ∀ v ∈ cs, v.oneCell' = true) (h : v ∈ rep cs q) : v.oneCell' = true := by
  unfold rep flatR at h
  rw [List.mem_flatMap] at h
  obtain ⟨_, _, h⟩ := h
  exact h1 v h
theorem rep_at {w : World} {base g n cap m q k : Nat} {e : TypeId} {xs cs : List Value} (ho : w.ownsRow base e k (.slice (some ⟨g, 0, none⟩) n cap) n xs) (h : RecCells k m xs (fun _ => cs)) (hcl : cs.length = k) (hk : 0 < k) (hq : q ≤ m) (hm : m ≤ n) :
    ∀ j v, (rep cs q)[j]? = some v → w.cell? ((⟨g, 0, none⟩ : Addr).add j) = some v := by
  intro j v hv
  have hadd : (⟨g, 0, none⟩ : Addr).add j = ⟨g, j, none⟩ := by unfold Addr.add; split <;> simp_all
  obtain ⟨h1, h2⟩ := flatR_get k _ q (fun _ _ => hcl) hk j v hv
  have h3 := h (j / k) (by omega) (j % k) v h2
  rw [Nat.mul_comm, Nat.div_add_mod] at h3
  have hlen := ho.1
  have hj : j < xs.length := (List.getElem?_eq_some_iff.1 h3).1
  rw [hadd, ho.cellAt _ (by omega)]
  exact h3
end Go.Proofs.Ytmhkkdnopcdibaa
set_option linter.unusedVariables false
namespace Go.Proofs.Ytmhkkdnopcdibaa
open Go.RowKit

set_option maxRecDepth 100000 in
set_option maxHeartbeats 1000000 in
theorem repeatI_impl (n : Nat) (hn : 1 ≤ n ∧ n ≤ 8) (B : Nat) (cs : List Value) (hl : cs.length = 1) (h1 : ∀ v ∈ cs, v.oneCell' = true) (w : World) (hB : CellsAt w B 0 cs) :
    Calls Try.prog 54 #[.slice (some ⟨B, 0, none⟩) 1 1, .int .i64 n] w fun e w' => ∃ gg xs, e = .returned (.slice (some ⟨gg, 0, none⟩) n n) ∧ w'.ownsRow w.heap.size 3 1 (.slice (some ⟨gg, 0, none⟩) n n) n xs ∧
      RecCells 1 n xs (fun _ => cs) ∧ Below w.heap.size w w' := by
  obtain ⟨hn1, hn8⟩ := hn
  obtain ⟨i0, hi, hz0, hz1, hz2⟩ := info_parts Try.infoI
  have hw1 : IntKind.u64.wrap (n : Int) = n := by simp [IntKind.wrap, IntKind.bits, IntKind.signed]; omega
  have CM : Hid (∀ w1, Calls Try.prog 87 #[.int .u64 1, .int .u64 n] w1 fun e w' => e = .returned (.tuple #[.int .u64 0, .int .u64 n]) ∧ w' = w1) := fun w1 => by
    have h := Try.bits_Mul 1 n (by decide) (by omega) w1
    rw [Nat.one_mul, Nat.div_eq_of_lt (by omega), Nat.mod_eq_of_lt (by omega)] at h
    exact h
  have g0 : decide ((n : Int) < 0) = false := decide_eq_false (by omega)
  have g1 : decide (9223372036854775807 < (n : Int)) = false := decide_eq_false (by omega)
  have hn0 : (0 : Int) ≤ n := by omega
  have HBc := Lib.hid hB
  have H1 := Lib.hid h1
  clear hB h1
  go_enter Try.func54, Try.ntmps54
  go_wp2_with (first | (go_at_call 87; refine (CM.out _).mono ?_; rintro e w1 ⟨rfl, hw⟩; rw [hw]; clear hw) | (at_make; refine wpList_make_full _ rfl _ _ 31 rfl w.heap.size 3 i0 (.int .i64 0) 1 Try.underlying31 hi hz0 hz1 .i64 .i64 n n n rfl rfl rfl rfl (by rw [hz2]; omega) (by unfold maxLen; omega) (Nat.le_refl _) ?_; intro w1 hown hg1) | (with_reducible show wpList _ _ _ ((⟨some 33, _, _, _, _, _⟩ : Oper) :: _) _ _; refine wpList_copyR (o := ⟨some 33, _, _, _, _, _⟩) rfl (.tmp 31) (.tmp 32) 31 31 rfl Try.underlying31 hi hz1 hown 0 n n ⟨B, 0, none⟩ 1 1 rfl rfl cs 1 (by show 1 = min 1 n; omega) (by omega) (cells_add (HBc.out.below ((Below.refl _ _).grown hg1 (Nat.le_refl _) (fun k hk => by cases hk)))) (by omega) H1.out ?_; intro w2 ho2 hb2))
  have HO2 := Lib.hid ho2
  have HC2 := Lib.hid (first_cells (xs := (madeCells (Value.int .i64 0).cells (n * 1)).toList) hl (by have := hown.1; omega))
  have HB2 := Lib.hid (((Below.refl w.heap.size w).grown hg1 (Nat.le_refl _) (fun k hk => by cases hk)).trans hb2)
  clear ho2 hb2 hown hg1 HBc CM hw1
  go_loopw [8] (fun i wr => ∃ (m : Nat) (xs : List Value), 1 ≤ m ∧ m ≤ n ∧ i = .int .i64 m ∧ Hid (wr.ownsRow w.heap.size 3 1 (.slice (some ⟨w.heap.size, 0, none⟩) n n) n xs) ∧ Hid (RecCells 1 m xs (fun _ => cs)) ∧ Hid (Below w.heap.size w wr)) (fun i _ => n - (RowKit.intOf i).toNat)
  case atStart => exact ⟨1, _, Nat.le_refl _, hn1, rfl, HO2, HC2, HB2⟩
  case round =>
    clear HO2 HC2 HB2
    obtain ⟨m, xs, hm1, hmn, rfl, HO, HC, HB⟩ := hrel
    by_cases hlt : m < n
    · have hmi : (m : Int) < n := by omega
      have hm0 : (0 : Int) ≤ m := by omega
      have hmn' : (m : Int) ≤ n := by omega
      obtain ⟨q, hq⟩ : ∃ q, q = min m (n - m) := ⟨_, rfl⟩
      have hq1 : 1 ≤ q := by omega
      have hqm : q ≤ m := by omega
      have hqn : m + q ≤ n := by omega
      have HQ := Lib.hid hq
      have hwr : IntKind.i64.wrap ((m : Int) + q) = m + q := by simp [IntKind.wrap, IntKind.bits, IntKind.signed]; omega
      clear hq
      have HOd := Lib.hid (owns_below HO.out (Below.refl wr.heap.size wr).drew (Nat.le_refl _))
      have HBd := Lib.hid (HB.out.drew)
      obtain ⟨gg, hgg⟩ : ∃ gg, gg = w.heap.size := ⟨_, rfl⟩
      have Hgg := Lib.hid hgg
      clear hgg
      go_wp2_with fail
      refine Await.begin (S := Until 7 (fun _ => True)) (by kernel_rfl) ?_ (fun hS => ?_)
      · exact Until.of trivial
      refine Await.pure (i := 0) (v := ?_) rfl (by kernel_rfl) (by kernel_rfl) (by kernel_rfl) (by kernel_rfl) (fun _ _ _ h => h) (Or.inl ⟨by rfl, ?_⟩) (by assumption) ?_
      rotate_left
      · (intro wa _; go_simp; try with_reducible rfl)
      simp only [Act.put, List.getElem_toArray, List.getElem_cons_zero, List.setIfInBounds_toArray, List.set_cons_zero, List.set_cons_succ]
      refine Await.pure (i := 1) (v := ?_) rfl (by kernel_rfl) (by kernel_rfl) (by kernel_rfl) (by kernel_rfl) (fun _ _ _ h => h) (Or.inl ⟨by rfl, ?_⟩) (by assumption) ?_
      rotate_left
      · (intro wa _; go_simp; try with_reducible rfl)
      simp only [Act.put, List.getElem_toArray, List.getElem_cons_zero, List.getElem_cons_succ, List.setIfInBounds_toArray, List.set_cons_zero, List.set_cons_succ]
      refine Await.pure (i := 2) (v := ?_) rfl (by kernel_rfl) (by kernel_rfl) (by kernel_rfl) (by kernel_rfl) (fun _ _ _ h => h) (Or.inl ⟨by rfl, ?_⟩) (by assumption) ?_
      rotate_left
      · (intro wa _; go_simp; try with_reducible rfl)
      simp only [Act.put, List.getElem_toArray, List.getElem_cons_zero, List.getElem_cons_succ, List.setIfInBounds_toArray, List.set_cons_zero, List.set_cons_succ]
      refine Await.pure (i := 3) (v := .slice (some ⟨w.heap.size, m * 1, none⟩) (n - m) (n - m)) rfl (by kernel_rfl) (by kernel_rfl) (by kernel_rfl) (by kernel_rfl) (fun _ _ _ h => h) (Or.inl ⟨by rfl, ?_⟩) (by assumption) ?_
      · (intro wa _; go_simp; try omega)
      simp only [Act.put, List.getElem_toArray, List.getElem_cons_zero, List.getElem_cons_succ, List.setIfInBounds_toArray, List.set_cons_zero, List.set_cons_succ]
      refine Await.pure (i := 4) (v := ?_) rfl (by kernel_rfl) (by kernel_rfl) (by kernel_rfl) (by kernel_rfl) (fun _ _ _ h => h) (Or.inl ⟨by rfl, ?_⟩) (by assumption) ?_
      rotate_left
      · (intro wa _; go_simp; try with_reducible rfl)
      simp only [Act.put, List.getElem_toArray, List.getElem_cons_zero, List.getElem_cons_succ, List.setIfInBounds_toArray, List.set_cons_zero, List.set_cons_succ]
      refine Await.pure (i := 5) (v := ?_) rfl (by kernel_rfl) (by kernel_rfl) (by kernel_rfl) (by kernel_rfl) (fun _ _ _ h => h) (Or.inl ⟨by rfl, ?_⟩) (by assumption) ?_
      rotate_left
      · (intro wa _; go_simp; try with_reducible rfl)
      simp only [Act.put, List.getElem_toArray, List.getElem_cons_zero, List.getElem_cons_succ, List.setIfInBounds_toArray, List.set_cons_zero, List.set_cons_succ]
      refine Await.pure (i := 6) (v := .slice (some ⟨w.heap.size, 0, none⟩) m n) rfl (by kernel_rfl) (by kernel_rfl) (by kernel_rfl) (by kernel_rfl) (fun _ _ _ h => h) (Or.inl ⟨by rfl, ?_⟩) (by assumption) ?_
      · (intro wa _; go_simp; try omega)
      simp only [Act.put, List.getElem_toArray, List.getElem_cons_zero, List.getElem_cons_succ, List.setIfInBounds_toArray, List.set_cons_zero, List.set_cons_succ]
      refine Await.step (i := 7) (o := _) (by kernel_rfl) rfl (fun K1 hK1' => ?_)
      refine step_copyR rfl (.tmp 41) (.tmp 44) 31 31 rfl Try.underlying31 hi hz1 HOd.out (m * 1) (n - m) (n - m) ⟨w.heap.size, 0, none⟩ m n rfl rfl (rep cs q) q HQ.out (rep_len hl q) (rep_at HOd.out HC.out hl (by decide) hqm hmn) (by rw [rep_len hl q]; omega) (fun v hv => rep_one H1.out hv) ?_
      intro w3 ho3 hb3
      refine hK1'.out _ _ ?_ (fun hS => ?_)
      · exact Until.over (by kernel_rfl)
      clear hK1' K1
      clear hS
      have hS : Until 7 (fun _ : World => True) #[true, true, true, true, true, true, true, true, false, false] w3 := Until.of trivial
      refine Await.pure (i := 8) (v := ?_) rfl (by kernel_rfl) (by kernel_rfl) (by kernel_rfl) (by kernel_rfl) (fun _ _ _ h => h) (Or.inl ⟨by rfl, ?_⟩) (by assumption) ?_
      rotate_left
      · (intro wa _; go_simp; try with_reducible rfl)
      simp only [Act.put, List.getElem_toArray, List.getElem_cons_zero, List.getElem_cons_succ, List.setIfInBounds_toArray, List.set_cons_zero, List.set_cons_succ]
      refine Await.pure (i := 9) (v := ?_) rfl (by kernel_rfl) (by kernel_rfl) (by kernel_rfl) (by kernel_rfl) (fun _ _ _ h => h) (Or.inl ⟨by rfl, ?_⟩) (by assumption) ?_
      rotate_left
      · (intro wa _; go_simp; try with_reducible rfl)
      simp only [Act.put, List.getElem_toArray, List.getElem_cons_zero, List.getElem_cons_succ, List.setIfInBounds_toArray, List.set_cons_zero, List.set_cons_succ]
      refine Await.done (by kernel_rfl) ?_ _
      have HC3 := Lib.hid (cells_more HC.out HOd.out.1 hl hqn)
      have HO3 := Lib.hid ho3
      have HB3 := Lib.hid (HBd.out.trans hb3)
      clear hS ho3 hb3 HOd HBd HO HC HB
      go_wp2
      go_roundw
      case rel => exact ⟨m + q, _, by omega, hqn, by go_num, HO3, HC3, HB3⟩
      case measure => simp [RowKit.intOf]; omega
    · obtain rfl : m = n := by omega
      go_wp2
      go_ret
      exact ⟨_, xs, rfl, HO.out, HC.out, HB.out⟩

end Go.Proofs.Ytmhkkdnopcdibaa
set_option linter.unusedVariables false
namespace Go.Proofs.Ytmhkkdnopcdibaa
open Go.RowKit

def inRow (x : Int) (r : List Int) : Bool := decide (0 ≤ placeI (getI r) x r.length 0)
theorem has_mem12 (x : Int) (L : List Int) : hasP (getI L) x L.length ↔ x ∈ L := by
  unfold hasP
  rw [List.mem_iff_getElem]
  exact ⟨fun ⟨j, h1, h2⟩ => ⟨j, h1, by rw [← getI_ok h1]; exact h2⟩, fun ⟨j, h1, h2⟩ => ⟨j, h1, by rw [getI_ok h1]; exact h2⟩⟩
theorem inRow_iff (x : Int) (r : List Int) : inRow x r = true ↔ x ∈ r := by
  unfold inRow
  rw [decide_eq_true_eq, placeI_has, has_mem12]
theorem any_row (x : Int) (T : List (List Int)) : (∃ j, j < T.length ∧ inRow x (T.getD j []) = true) ↔ x ∈ T.flatten := by
  rw [List.mem_flatten]
  constructor
  · rintro ⟨j, h1, h2⟩
    rw [inRow_iff, List.getD_eq_getElem?_getD, List.getElem?_eq_getElem h1] at h2
    exact ⟨_, List.getElem_mem h1, h2⟩
  · rintro ⟨r, h1, h2⟩
    obtain ⟨j, hj, rfl⟩ := List.mem_iff_getElem.1 h1
    exact ⟨j, hj, by rw [inRow_iff, List.getD_eq_getElem?_getD, List.getElem?_eq_getElem hj]; exact h2⟩
set_option maxRecDepth 100000 in
set_option maxHeartbeats 2000000 in
theorem hasTeam1_impl (x : Int) (B : Nat) (r : List Int) (a : Option Addr) (k : Nat) (w : World) (hb : BoxN w B [.int .i64 x]) (h : IntRow w (.slice a r.length k) r.length (getI r)) :
    Calls Try.prog 85 #[.slice a r.length k, .pointer (some ⟨B, 0, none⟩)] w fun e w' => e = .returned (.bool (inRow x r)) ∧ Below w.heap.size w w' := by
  obtain ⟨R, hR⟩ : ∃ R, inRow x r = R := ⟨_, rfl⟩
  have H := Lib.hid (slicesContains_int (.slice a r.length k) r.length (getI r) x R w (by rw [← hR, inRow_iff, has_mem12]) h)
  have c0 := hb.2 0 _ rfl
  rw [hR]
  have hl := h.form
  obtain ⟨_, _, _, hl, _⟩ := hl
  generalize r.length = n at *
  clear hb h hR
  go_enter Try.func85, Try.ntmps85
  go_wp2_with (go_at_call 86; refine H.out.mono ?_; rintro e w' ⟨rfl, rfl⟩)
  go_ret
  exact ⟨rfl, Below.refl _ _⟩
set_option maxRecDepth 100000 in
set_option maxHeartbeats 2000000 in
theorem hasTeam_impl (v : Value) (T : List (List Int)) (gr most x : Int) (R : Bool) (w : World) (hR : R = true ↔ x ∈ T.flatten) (h : RdA tIntSS w [v] T) :
    Calls Try.prog 53 #[.agg #[v, .int .i64 gr, .int .i64 most], .int .i64 x] w fun e w' => e = .returned (.bool R) ∧ Below w.heap.size w w' := by
  obtain ⟨pa, pc, rfl, hpn⟩ := pots_form h
  obtain ⟨W, hW⟩ : ∃ W, (w.alloc (.cells #[.slice pa (List.length (α := List Int) T) pc, .int .i64 gr, .int .i64 most] 26)).alloc (.cells #[.int .i64 x] 3) = W := ⟨_, rfl⟩
  have b1 : Below w.heap.size w (w.alloc (.cells #[.slice pa (List.length (α := List Int) T) pc, .int .i64 gr, .int .i64 most] 26)) := (Below.refl _ _).alloc (Nat.le_refl _) _
  have bW : Below w.heap.size w W := by rw [← hW]; exact b1.alloc b1.size _
  have HBX : Hid (BoxN W (w.heap.size + 1) [.int .i64 x]) := by
    rw [← hW]
    have := BoxN.made (u := w.alloc (.cells #[.slice pa (List.length (α := List Int) T) pc, .int .i64 gr, .int .i64 most] 26)) (Below.refl _ _) (B := w.heap.size + 1) (cs := #[.int .i64 x]) (t := 3) (by simp)
    exact this
  have HP0 : Hid (BoxN W w.heap.size [.slice pa (List.length (α := List Int) T) pc, .int .i64 gr, .int .i64 most]) := by
    rw [← hW]
    exact (BoxN.made (Below.refl _ _) rfl).below ((Below.refl _ _).alloc (Nat.le_refl _) _)
  have HRD : Hid (RdA tIntSS W [.slice pa (List.length (α := List Int) T) pc] T) := RdA.below h bW
  have CR := Lib.hid (anyRowsC 85 (enters_of Try.func85 (by kernel_rfl) rfl) (some ⟨w.heap.size + 1, 0, none⟩) (.slice pa (List.length (α := List Int) T) pc) T (inRow x) R W (by rw [hR, any_row]) HRD.out
    (fun r a k wa hb hrow => hasTeam1_impl x (w.heap.size + 1) r a k wa (HBX.out.below hb) hrow))
  have HB := Lib.hid bW
  have c0 := HP0.out.2 0 _ rfl
  generalize List.length (α := List Int) T = np at *
  have HWE := Lib.hid hW
  clear hW h bW b1 hR
  go_enter Try.func53, Try.ntmps53
  go_upto_region 1 with fail
  rw [HWE.out]
  clear HWE
  go_wp2_with fail
  refine CR.out.mono ?_
  rintro e w2 ⟨rfl, b⟩
  have HB2 := Lib.hid (HB.out.trans (b.mono HB.out.size))
  clear b CR c0
  go_wp2
  go_ret
  exact ⟨rfl, HB2.out⟩
end Go.Proofs.Ytmhkkdnopcdibaa
