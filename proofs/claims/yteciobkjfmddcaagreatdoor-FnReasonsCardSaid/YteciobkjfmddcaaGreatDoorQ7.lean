/-
  Packed: RankMade, BookKit, MadeIs, SepMade, TablesImplA, CopyR.
-/
import Derived.Laws.IdiomCopy
import Derived.Test.YteciobkjfmddcaaGreatDoorQ1
import Derived.Test.YteciobkjfmddcaaGreatDoorQ2
import Derived.Test.YteciobkjfmddcaaGreatDoorQ3
import Derived.Test.YteciobkjfmddcaaGreatDoorQ4
import Derived.Test.YteciobkjfmddcaaGreatDoorQ6
set_option linter.unusedVariables false
namespace Go.Proofs.YteciobkjfmddcaaGreatDoor
open Go.RowKit

theorem case_seeds {n opn : Nat} {b : BookI} {LG : List GameD} (hn : 2 ≤ n ∧ n ≤ 6) (hg : BookI.good n opn b) : seedI (caseB n b LG) := by
  obtain ⟨⟨h1, h2⟩, _⟩ := hg
  intro i j hi hj gg m e
  have hi' : i < n := hi
  have hj' : j < n := hj
  have f : ∀ k, k < n → ((caseB n b LG).f k).seed = (((k + b.turn) % n : Nat) : Int) + 1 := fun k hk => by
    show (if k < n then b.field k else ⟨ByteArray.empty, 0, 0⟩ : TeamD).seed = _
    rw [if_pos hk]
    exact (h2 k hk).2.2
  unfold bookV valD at e
  simp only [show ¬ ((8 : Int) = 1) by decide, show ¬ ((8 : Int) = 5) by decide, show ¬ ((8 : Int) = 2 ∨ (8 : Int) = 6) by decide, show ¬ ((8 : Int) = 3) by decide, show ¬ ((8 : Int) = 4) by decide, show ¬ ((8 : Int) = 7) by decide, if_true, if_false] at e
  rw [f i hi', f j hj'] at e
  have b1 := Nat.mod_lt (i + b.turn) (show 0 < n by omega)
  have b2 := Nat.mod_lt (j + b.turn) (show 0 < n by omega)
  have wid : ∀ z : Int, -9223372036854775808 ≤ z ∧ z ≤ 9223372036854775807 → wrap64 z = z := fun z h => by unfold wrap64; omega
  rw [wid _ (by omega), wid _ (by omega)] at e
  exact madeSeed_inj (turn := b.turn) hn hi' hj' (by omega)
section
variable {n opn : Nat} {b : BookI} {LG : List GameD}
theorem case_ones (hn : 2 ≤ n ∧ n ≤ 6) (hg : BookI.good n opn b) : ∀ p ∈ rankP (caseB n b LG) (allL n) 0, p.length = 1 :=
  rank_ones _ (case_seeds hn hg) _ _ (allL_nodup n) (fun u hu => allL_mem.1 hu) (case_last hg)
def orderB (n : Nat) (b : BookI) (LG : List GameD) : List Int := (rankP (caseB n b LG) (allL n) 0).flatten
theorem orderB_perm : (orderB n b LG).Perm (allL n) := rank_perm _ _ _
theorem orderB_len : (orderB n b LG).length = n := by rw [orderB_perm.length_eq, allL_len]
theorem orderB_nodup : (orderB n b LG).Nodup := orderB_perm.nodup_iff.2 (allL_nodup n)
theorem orderB_groups (hn : 2 ≤ n ∧ n ≤ 6) (hg : BookI.good n opn b) : (rankP (caseB n b LG) (allL n) 0).length = n := by
  rw [← flat_ones _ (case_ones hn hg)]; exact orderB_len
theorem orderB_ranking (hn : 2 ≤ n ∧ n ≤ 6) (hg : BookI.good n opn b) : orderL (rankP (caseB n b LG) (allL n) 0) = orderB n b LG := by
  unfold orderL; rw [if_pos (case_ones hn hg)]; rfl
theorem orderB_rank (hn : 2 ≤ n ∧ n ≤ 6) (hg : BookI.good n opn b) {i : Nat} {t : Int} (h : (orderB n b LG)[i]? = some t) : rankAt t (rankP (caseB n b LG) (allL n) 0) 1 = (i : Int) + 1 := by
  rw [rankAt_ones _ i 1 (case_ones hn hg) orderB_nodup h]; omega
theorem orderB_order (hn : 2 ≤ n ∧ n ≤ 6) : orderP n (orderB n b LG).length (getI (orderB n b LG)) := by
  have hl := orderB_len (n := n) (b := b) (LG := LG)
  rw [hl]
  refine ⟨by omega, rfl, fun i hi => ?_⟩
  have hm : getI (orderB n b LG) i ∈ orderB n b LG := by
    simp only [getI, List.getD_eq_getElem?_getD, List.getElem?_eq_getElem (show i < (orderB n b LG).length by omega), Option.getD_some]
    exact List.getElem_mem _
  have hr := allL_mem.1 (orderB_perm.mem_iff.1 hm)
  refine ⟨⟨hr.1, by omega⟩, fun ⟨j, hj, e⟩ => ?_⟩
  have hnd := orderB_nodup (n := n) (b := b) (LG := LG)
  have h1 := List.getElem?_eq_getElem (show i < (orderB n b LG).length by omega)
  have h2 := List.getElem?_eq_getElem (show j < (orderB n b LG).length by omega)
  simp only [getI, List.getD_eq_getElem?_getD, h1, h2, Option.getD_some] at e
  have h3 := (List.getElem_inj hnd).1 e
  omega
theorem val_points (d : BookD) (gg gg' : Nat → Int) (m m' : Nat) (i : Nat) : bookV d 1 gg m i = bookV d 1 gg' m' i := by
  have h : mutualB 1 = false := by decide
  unfold bookV bookT
  rw [h]
  rfl
theorem orderB_points (hg : BookI.good n opn b) {gg : Nat → Int} {m i : Nat} {t u : Int} (hi : 0 < i) (h1 : (orderB n b LG)[i - 1]? = some t) (h2 : (orderB n b LG)[i]? = some u) : bookV (caseB n b LG) 1 gg m u.toNat ≤ bookV (caseB n b LG) 1 gg m t.toNat := by
  obtain ⟨h0, hl⟩ := case_first (LG := LG) hg
  have h := rank_desc (caseB n b LG) (allL n) h0
  rw [hl] at h
  obtain ⟨k1, e1⟩ := List.getElem?_eq_some_iff.1 h1
  obtain ⟨k2, e2⟩ := List.getElem?_eq_some_iff.1 h2
  have := List.pairwise_iff_getElem.1 h (i - 1) i k1 k2 (by omega)
  have e1' : (rankP (caseB n b LG) (allL n) 0).flatten[i - 1]'k1 = t := e1
  have e2' : (rankP (caseB n b LG) (allL n) 0).flatten[i]'k2 = u := e2
  rw [e1', e2'] at this
  rw [val_points _ gg (getI (allL n)) m (allL n).length, val_points _ gg (getI (allL n)) m (allL n).length]
  exact this
theorem rankF_same {d d' : BookD} (hnl : d.nl = d'.nl) (hl : d.l = d'.l) (hag : d.again = d'.again) (hV : bookV d = bookV d') : ∀ f G s, rankF d f G s = rankF d' f G s
  | 0, _, _ => rfl
  | f + 1, G, s => by
    have hp : ∀ k gg m, partsL d k gg m = partsL d' k gg m := fun k gg m => by unfold partsL; rw [hV]
    have hs : ∀ m s, nextS d m s = nextS d' m s := fun m s => by unfold nextS; rw [hag, hl]
    unfold rankF
    rw [hnl, hl, hp]
    split
    · rfl
    · split
      · rfl
      · refine congrArg (fun F => List.flatMap F _) ?_
        funext p
        rw [hs]
        exact rankF_same hnl hl hag hV f p _
theorem orderB_games {LG' : List GameD} (h : LG.Perm LG') (hne : ∀ x ∈ LG, x.home.toNat ≠ x.away.toNat) : orderB n b LG = orderB n b LG' := by
  have hT : ∀ sel, tabR b.win 1 0 sel (getG LG) LG.length = tabR b.win 1 0 sel (getG LG') LG'.length := fun sel => tab_perm h hne
  have hV : bookV (caseB n b LG) = bookV (caseB n b LG') := by
    funext key gg m i
    unfold bookV bookT
    show valD key (tabR b.win 1 0 _ (getG LG) LG.length i) _ _ _ = valD key (tabR b.win 1 0 _ (getG LG') LG'.length i) _ _ _
    rw [hT]
    rfl
  unfold orderB rankP
  rw [rankF_same (d := caseB n b LG) (d' := caseB n b LG') rfl rfl rfl hV]
  rfl
end
end Go.Proofs.YteciobkjfmddcaaGreatDoor
set_option linter.unusedVariables false
namespace Go.Proofs.YteciobkjfmddcaaGreatDoor
open Go.RowKit

abbrev bkList (fa : Option Addr) (fc : Nat) (la : Option Addr) (lc : Nat) (ga : Option Addr) (gc : Nat) (qa : Option Addr) (qc : Nat) (ta : Option Addr) (tc : Nat) (b : BookD) : List Value :=
  [.slice fa b.nf fc, .int .i64 b.win, .int .i64 b.draw, .int .i64 b.loss, .slice la b.nl lc, .bool b.again, .slice ga b.m gc, .slice qa b.nfa qc, .slice ta b.nta tc]
structure BkAt (w0 w : World) (B : Nat) (fa : Option Addr) (fc : Nat) (la : Option Addr) (lc : Nat) (ga : Option Addr) (gc : Nat) (qa : Option Addr) (qc : Nat) (ta : Option Addr) (tc : Nat) (b : BookD) : Prop where
  box : BoxN w B (bkList fa fc la lc ga gc qa qc ta tc b)
  row0 : BookRow w0 (.slice fa b.nf fc) (.slice la b.nl lc) (.slice ga b.m gc) (.slice qa b.nfa qc) (.slice ta b.nta tc) b
  bel : Below w0.heap.size w0 w
section
variable {w0 w w' : World} {B : Nat} {fa : Option Addr} {fc : Nat} {la : Option Addr} {lc : Nat} {ga : Option Addr} {gc : Nat} {qa : Option Addr} {qc : Nat} {ta : Option Addr} {tc : Nat} {b : BookD}
theorem BkAt.row (h : BkAt w0 w B fa fc la lc ga gc qa qc ta tc b) : BookRow w (.slice fa b.nf fc) (.slice la b.nl lc) (.slice ga b.m gc) (.slice qa b.nfa qc) (.slice ta b.nta tc) b := h.row0.below h.bel (Nat.le_refl _)
theorem BkAt.next (h : BkAt w0 w B fa fc la lc ga gc qa qc ta tc b) (hb : Below w.heap.size w w') : BkAt w0 w' B fa fc la lc ga gc qa qc ta tc b :=
  ⟨BoxN.below h.box hb, h.row0, h.bel.trans (hb.mono h.bel.size)⟩
theorem box_store {w : World} {B : Nat} {cs : List Value} (h : BoxN w B cs) {p : Addr} (hp : B ≠ p.block) (u : Value) : BoxN (w.setCell p u) B cs :=
  ⟨by have := h.1; simp; omega, fun j v hj => (World.cell?_of_block (w := w) (w' := w.setCell p u) (a := ⟨B, j, none⟩) (Below.heap_setCell w p u B hp)).trans (h.2 j v hj)⟩
theorem BkAt.store (h : BkAt w0 w B fa fc la lc ga gc qa qc ta tc b) {p : Addr} (hp : B ≠ p.block) (h0 : w0.heap.size ≤ p.block) (u : Value) : BkAt w0 (w.setCell p u) B fa fc la lc ga gc qa qc ta tc b :=
  ⟨box_store h.box hp u, h.row0, h.bel.setCell h0 u⟩
theorem BkAt.alloc (h : BkAt w0 w B fa fc la lc ga gc qa qc ta tc b) (o : Obj) : BkAt w0 (w.alloc o) B fa fc la lc ga gc qa qc ta tc b :=
  h.next ((Below.refl _ _).alloc (Nat.le_refl _) _)
theorem BkAt.made (h : BookRow w (.slice fa b.nf fc) (.slice la b.nl lc) (.slice ga b.m gc) (.slice qa b.nfa qc) (.slice ta b.nta tc) b) (t : TypeId) :
    BkAt w (w.alloc (.cells (bkList fa fc la lc ga gc qa qc ta tc b).toArray t)) w.heap.size fa fc la lc ga gc qa qc ta tc b :=
  ⟨BoxN.made (Below.refl _ _) rfl, h, (Below.refl _ _).alloc (Nat.le_refl _) _⟩
theorem BkAt.made2 {u : World} (h : BookRow w0 (.slice fa b.nf fc) (.slice la b.nl lc) (.slice ga b.m gc) (.slice qa b.nfa qc) (.slice ta b.nta tc) b) (hu : Below w0.heap.size w0 u) (t : TypeId) (hB : u.heap.size = B) :
    BkAt w0 (u.alloc (.cells (bkList fa fc la lc ga gc qa qc ta tc b).toArray t)) B fa fc la lc ga gc qa qc ta tc b :=
  ⟨BoxN.made (Below.refl _ _) hB, h, hu.trans (((Below.refl _ _).alloc (Nat.le_refl _) _).mono hu.size)⟩
theorem BkAt.grown {q : Nat} (h : BkAt w0 w B fa fc la lc ga gc qa qc ta tc b) (hg : w.grownBy w' (some q)) (hq : B < q) (h0 : w0.heap.size ≤ B) : BkAt w0 w' B fa fc la lc ga gc qa qc ta tc b :=
  ⟨⟨Nat.lt_of_lt_of_le h.box.1 hg.size, fun j v hj => hg.cell (h.box.2 j v hj) (by simp; omega)⟩, h.row0, h.bel.grown hg h.bel.size (fun k e => by cases e; omega)⟩
theorem code_named {P : Program} {c : Code} {Q : Exit → Act → World → Prop} {a : Act} {w : World} (h : ∀ w', Hid (w' = w) → Code.wp P c Q a w') : Code.wp P c Q a w := h w rfl
theorem BkAt.cells (h : BkAt w0 w B fa fc la lc ga gc qa qc ta tc b) :
    w.cell? ⟨B, 0, none⟩ = some (.slice fa b.nf fc) ∧ w.cell? ⟨B, 1, none⟩ = some (.int .i64 b.win) ∧ w.cell? ⟨B, 2, none⟩ = some (.int .i64 b.draw) ∧ w.cell? ⟨B, 3, none⟩ = some (.int .i64 b.loss) ∧ w.cell? ⟨B, 4, none⟩ = some (.slice la b.nl lc) ∧ w.cell? ⟨B, 5, none⟩ = some (.bool b.again) ∧ w.cell? ⟨B, 6, none⟩ = some (.slice ga b.m gc) ∧ w.cell? ⟨B, 7, none⟩ = some (.slice qa b.nfa qc) ∧ w.cell? ⟨B, 8, none⟩ = some (.slice ta b.nta tc) :=
  ⟨h.box.2 0 _ rfl, h.box.2 1 _ rfl, h.box.2 2 _ rfl, h.box.2 3 _ rfl, h.box.2 4 _ rfl, h.box.2 5 _ rfl, h.box.2 6 _ rfl, h.box.2 7 _ rfl, h.box.2 8 _ rfl⟩
theorem BkAt.lt (h : BkAt w0 w B fa fc la lc ga gc qa qc ta tc b) : B < w.heap.size := h.box.1
theorem BkAt.size (h : BkAt w0 w B fa fc la lc ga gc qa qc ta tc b) : w0.heap.size ≤ w.heap.size := h.bel.size
end
theorem BookRow.sixty {w : World} {vf vl vg vfa vta : Value} {b : BookD} (h : BookRow w vf vl vg vfa vta b) : (b.nf : Int) ≤ 9223372036854775807 ∧ (b.nl : Int) ≤ 9223372036854775807 ∧ (b.m : Int) ≤ 9223372036854775807 ∧ (b.nfa : Int) ≤ 9223372036854775807 ∧ (b.nta : Int) ≤ 9223372036854775807 := by
  obtain ⟨_, _, _, h1, _⟩ := h.1.form
  obtain ⟨_, _, _, h2, _⟩ := h.2.1.form
  obtain ⟨_, _, _, h3, _⟩ := h.2.2.1.form
  obtain ⟨_, _, _, h4, _⟩ := h.2.2.2.1.form
  obtain ⟨_, _, _, h5, _⟩ := h.2.2.2.2.form
  exact ⟨by omega, by omega, by omega, by omega, by omega⟩
end Go.Proofs.YteciobkjfmddcaaGreatDoor
set_option linter.unusedVariables false
namespace Go.Proofs.YteciobkjfmddcaaGreatDoor
open Go.RowKit

def Made (d : BookD) : Prop := ∃ (n : Nat) (b : BookI), (3 ≤ n ∧ n ≤ 5) ∧ BookI.good n 3 b ∧ d = caseB n b b.games
def ordB (d : BookD) : List Int := (rankP d (allL d.nf) 0).flatten
def withG (d : BookD) (L : List GameD) : BookD := { d with m := L.length, g := getG L }
def gamesB (d : BookD) : List GameD := (List.range d.m).map d.g
theorem SeaL.perm {lo hi : Int} {L L' : List GameD} {m : Nat} (h : SeaL lo hi L m) (p : L.Perm L') : SeaL lo hi L' m := by
  obtain ⟨h1, h2, h3, h4⟩ := h
  refine ⟨fun t ht => h1 t (p.mem_iff.2 ht), (p.pairwise_iff (fun h => ⟨fun e => h.1 ⟨e.1.symm, e.2.symm⟩, fun e => h.2 ⟨e.2.symm, e.1.symm⟩⟩)).1 h2, by rw [← (p.filter _).length_eq]; exact h3, fun e he => ?_⟩
  subst he
  exact h4 e (List.perm_nil.1 p)
theorem range_getG (L : List GameD) : (List.range L.length).map (getG L) = L := by
  refine List.ext_getElem? fun i => ?_
  rw [List.getElem?_map]
  by_cases hi : i < L.length
  · rw [List.getElem?_range hi, List.getElem?_eq_getElem hi]
    simp [getG, hi]
  · rw [List.getElem?_eq_none (by simpa using hi), List.getElem?_eq_none (by omega)]; rfl
section
variable {d : BookD}
theorem Made.nf (h : Made d) : 3 ≤ d.nf ∧ d.nf ≤ 5 := by obtain ⟨n, b, hn, _, rfl⟩ := h; exact hn
theorem Made.m (h : Made d) : 1 ≤ d.m ∧ d.m ≤ 40 := by
  obtain ⟨n, b, hn, ⟨_, _, ⟨hs, _, hl⟩, _⟩, rfl⟩ := h
  have h1 : b.games ≠ [] := hs.2.2.2 (.inr (by omega))
  have h2 := List.length_pos_iff.2 h1
  show 1 ≤ b.games.length ∧ b.games.length ≤ 40
  omega
theorem Made.games (h : Made d) : ∃ n b, (3 ≤ n ∧ n ≤ 5) ∧ BookI.good n 3 b ∧ d = caseB n b b.games ∧ gamesB d = b.games := by
  obtain ⟨n, b, hn, hg, rfl⟩ := h
  exact ⟨n, b, hn, hg, rfl, range_getG _⟩
theorem Made.names (h : Made d) (i : Nat) : (d.f i).nm.size ≤ maxLen := by
  obtain ⟨n, b, hn, hg, rfl⟩ := h
  exact case_names hg.1.2 (by omega) i
theorem Made.book (h : Made d) : bookP d := by
  obtain ⟨n, b, hn, hg, rfl⟩ := h
  exact case_book (by omega) hg (sea_season hg.2.2.1.1 (by omega) (by omega) (by have := hg.2.2.1.2.2; omega))
theorem Made.ones (h : Made d) : ∀ p ∈ rankP d (allL d.nf) 0, p.length = 1 := by
  obtain ⟨n, b, hn, hg, rfl⟩ := h
  exact case_ones (by omega) hg
theorem ord_perm (d : BookD) : (ordB d).Perm (allL d.nf) := rank_perm _ _ _
theorem ord_len (d : BookD) : (ordB d).length = d.nf := by rw [(ord_perm d).length_eq, allL_len]
theorem ord_nodup (d : BookD) : (ordB d).Nodup := (ord_perm d).nodup_iff.2 (allL_nodup d.nf)
theorem ord_in {t : Int} (h : t ∈ ordB d) : 0 ≤ t ∧ t < d.nf := allL_mem.1 ((ord_perm d).mem_iff.1 h)
theorem Made.groups (h : Made d) : (rankP d (allL d.nf) 0).length = d.nf := by rw [← flat_ones _ h.ones]; exact ord_len d
theorem Made.ranking (h : Made d) : orderL (rankP d (allL d.nf) 0) = ordB d := by unfold orderL; rw [if_pos h.ones]; rfl
theorem Made.rank (h : Made d) {i : Nat} {t : Int} (ht : (ordB d)[i]? = some t) : rankAt t (rankP d (allL d.nf) 0) 1 = (i : Int) + 1 := by
  rw [rankAt_ones _ i 1 h.ones (ord_nodup d) ht]; omega
theorem Made.order (h : Made d) : orderP d.nf d.nf (getI (ordB d)) := by
  obtain ⟨n, b, hn, hg, rfl⟩ := h
  have := orderB_order (n := n) (b := b) (LG := b.games) (by omega)
  rw [orderB_len] at this
  exact this
theorem Made.points (h : Made d) {gg : Nat → Int} {m i : Nat} {t u : Int} (hi : 0 < i) (h1 : (ordB d)[i - 1]? = some t) (h2 : (ordB d)[i]? = some u) : bookV d 1 gg m u.toNat ≤ bookV d 1 gg m t.toNat := by
  obtain ⟨n, b, hn, hg, rfl⟩ := h
  exact orderB_points hg hi h1 h2
theorem Made.other (h : Made d) {L : List GameD} (hp : (gamesB d).Perm L) : bookP (withG d L) ∧ ordB (withG d L) = ordB d ∧ orderL (rankP (withG d L) (allL d.nf) 0) = ordB d := by
  obtain ⟨n, b, hn, hg, rfl, hgm⟩ := h.games
  rw [hgm] at hp
  have hw : withG (caseB n b b.games) L = caseB n b L := rfl
  have hs := hg.2.2.1.1
  have hl := hp.length_eq
  have hs2 := hs.perm hp
  have ho : ordB (caseB n b L) = ordB (caseB n b b.games) := (orderB_games hp fun x hx => by
    have := (hs.1 x hx).1
    omega).symm
  rw [hw]
  refine ⟨case_book (by omega) hg (sea_season hs2 (by omega) (by omega) (by have := hg.2.2.1.2.2; omega)), ho, ?_⟩
  rw [← ho]
  show orderL (rankP (caseB n b L) (allL n) 0) = _
  unfold orderL
  rw [if_pos (case_ones (LG := L) (by omega) hg)]
  rfl
end
def orderG (d : BookD) (P : List Int) : List GameD := P.map fun i => d.g i.toNat
theorem order_perm {d : BookD} {P : List Int} (h : permL d.m P) : (gamesB d).Perm (orderG d P) := by
  have hp : ((List.range d.m).map fun i : Nat => (i : Int)).Perm P := by
    refine (List.perm_ext_iff_of_nodup ?_ h.2.2.2).2 fun t => ?_
    · exact List.Pairwise.map _ (fun a b h e => h (by omega)) List.nodup_range
    · rw [List.mem_map]
      constructor
      · rintro ⟨i, hi, rfl⟩
        exact h.2.2.1 i (List.mem_range.1 hi)
      · intro ht
        have := h.2.1 t ht
        exact ⟨t.toNat, List.mem_range.2 (by omega), by omega⟩
  have h2 := hp.map fun i : Int => d.g i.toNat
  rw [List.map_map] at h2
  exact h2
theorem orderG_len {d : BookD} {P : List Int} : (orderG d P).length = P.length := List.length_map ..
def BookMadeM (w : World) (e : Ending) (w' : World) : Prop :=
  ∃ (d : BookD) (fa : Option Addr) (fc : Nat) (la : Option Addr) (lc : Nat) (ga : Option Addr) (gc : Nat) (qa : Option Addr) (qc : Nat) (ta : Option Addr) (tc : Nat), Made d ∧ e = .returned (.agg #[.slice fa d.nf fc, .int .i64 d.win, .int .i64 d.draw, .int .i64 d.loss, .slice la d.nl lc, .bool d.again, .slice ga d.m gc, .slice qa d.nfa qc, .slice ta d.nta tc]) ∧
    BookRow w' (.slice fa d.nf fc) (.slice la d.nl lc) (.slice ga d.m gc) (.slice qa d.nfa qc) (.slice ta d.nta tc) d ∧ Below w.heap.size w w'
theorem getI_at {L : List Int} {i : Nat} {t : Int} (h : L[i]? = some t) : getI L i = t := by unfold getI; rw [List.getD_eq_getElem?_getD, h]; rfl
theorem at_getI {L : List Int} {i : Nat} (h : i < L.length) : L[i]? = some (getI L i) := by unfold getI; rw [List.getD_eq_getElem?_getD, List.getElem?_eq_getElem h]; rfl
theorem order_take {d : BookD} {P : List Int} {k q : Nat} (h : P[k]? = some (q : Int)) : orderG d (P.take (k + 1)) = orderG d (P.take k) ++ [d.g q] := by
  obtain ⟨hk, e⟩ := List.getElem?_eq_some_iff.1 h
  rw [← List.take_append_getElem hk, e]
  unfold orderG
  rw [List.map_append]
  rfl
theorem BoxF.block {w w' : World} {B : Nat} {cs : List Value} (h : BoxF w B cs) (hb : w'.heap[B]? = w.heap[B]?) (hs : w.heap.size ≤ w'.heap.size) : BoxF w' B cs := by
  refine ⟨Nat.lt_of_lt_of_le h.1 hs, fun j v hj => ?_⟩
  obtain ⟨h1, h2⟩ := h.2 j v hj
  exact ⟨(World.cell?_of_block (w := w) (w' := w') (a := ⟨B, j, none⟩) hb).trans h1, by rw [← h2]; unfold World.frozen?; simp only [hb]⟩
theorem Touch.more {lo hi : Nat} {u w w' : World} {row : Option Nat} (h : Touch lo hi u w) (g : w.grownBy w' row) (hr : ∀ q, row = some q → u.heap.size ≤ q) : Touch lo hi u w' :=
  ⟨g.os.trans h.os, g.tape.trans h.tape, g.output.trans h.output, Nat.le_trans h.size g.size, fun k hk ho => (g.block k (Nat.lt_of_lt_of_le hk h.size) (fun e => by have := hr k e.symm; omega)).trans (h.block k hk ho)⟩
theorem own_bookRow {base n : Nat} {b : BookI} {vf vl vg vfa vta : Value} {w : World} (hn : n ≤ 8) (hl : b.lad.length ≤ 100) (hm : b.games.length ≤ 100) (hf : b.fair.length ≤ 100) (ht : b.taken.length ≤ 100) (h : BookOwn base n b vf vl vg vfa vta w) : BookRow w vf vl vg vfa vta (caseB n b b.games) := by
  obtain ⟨⟨xf, h1, h0⟩, h2, h3, h4, h5⟩ := h
  refine ⟨TeamRow.of_owns (n := n) h1 (by omega) fun t ht => ?_, IntRow.of_list h2 (by omega), GameRow.of_list h3 (by omega), IntRow.of_list h4 (by omega), IntRow.of_list h5 (by omega)⟩
  have e : (caseB n b b.games).f t = b.field t := by show (if t < n then b.field t else ⟨ByteArray.empty, 0, 0⟩ : TeamD) = _; rw [if_pos ht]
  rw [e]
  exact h0 t ht
theorem madeBook (a : Option Addr) (len cap : Nat) (g : Nat → Nat) (w : World) (hr : ByteRow w a len g) (hg : ∀ i, g i ≤ 255) (hl : len ≤ 1048576) :
    Calls Tryz.prog 4 #[.slice a len cap] w (BookMadeM w) :=
  (makeBook_any a len cap g w hr hg hl).mono fun e w' ⟨n, b, vf, vl, vg, vfa, vta, hn, he, hgood, hown, hb⟩ => by
    obtain ⟨a1, c1, a2, c2, a3, c3, a4, c4, a5, c5, rfl, rfl, rfl, rfl, rfl⟩ := hown.form
    have h1 := hgood.2.1
    have h2 := hgood.2.2.1.2.2
    have h3 := hgood.2.2.2.1.1
    have h4 := hgood.2.2.2.2.1
    have hl5 : b.lad.length ≤ 5 := by
      obtain ⟨hw, K, hK, hd, hl⟩ := h1
      rw [hK]; simp; omega
    exact ⟨caseB n b b.games, a1, c1, a2, c2, a3, c3, a4, c4, a5, c5, ⟨n, b, hn, hgood, rfl⟩, he, own_bookRow (by omega) (by omega) (by omega) (by omega) (by omega) hown, hb⟩
end Go.Proofs.YteciobkjfmddcaaGreatDoor
set_option linter.unusedVariables false
namespace Go.Proofs.YteciobkjfmddcaaGreatDoor
open Go.RowKit

theorem parts_apart {b : BookD} {key : Int} {G : List Int} (hG : G.Nodup) : (partsL b key (getI G) G.length).Pairwise fun p q => ∀ x ∈ p, ∀ y ∈ q, x ≠ y :=
  (List.pairwise_flatten.1 ((parts_perm b key G).nodup_iff.2 hG)).2
theorem parts_values (b : BookD) (key : Int) (G : List Int) {i k : Nat} {p q : List Int} (hik : i < k) (hi : (partsL b key (getI G) G.length)[i]? = some p) (hk : (partsL b key (getI G) G.length)[k]? = some q) {u v : Int} (hu : u ∈ p) (hv : v ∈ q) :
    bookV b key (getI G) G.length v.toNat < bookV b key (getI G) G.length u.toNat := by
  unfold partsL at hi hk
  rw [List.getElem?_map] at hi hk
  obtain ⟨x, hx, rfl⟩ := Option.map_eq_some_iff.1 hi
  obtain ⟨z, hz, rfl⟩ := Option.map_eq_some_iff.1 hk
  rw [splitP_val _ _ _ _ (List.mem_of_getElem? hx) u hu, splitP_val _ _ _ _ (List.mem_of_getElem? hz) v hv]
  have hd := splitP_desc (bookV b key (getI G) G.length) (getI G) G.length
  rw [List.pairwise_iff_getElem] at hd
  obtain ⟨h1, rfl⟩ := List.getElem?_eq_some_iff.1 hx
  obtain ⟨h2, rfl⟩ := List.getElem?_eq_some_iff.1 hz
  exact hd i k h1 h2 hik
def AboveR (b : BookD) (G : List Int) (s : Nat) (u v : Int) : Prop :=
  ∃ r : RsnD, findP b u v G s = some r ∧ findP b v u G s = some ⟨r.key, r.grp, r.other, r.first⟩ ∧ r.other < r.first ∧ (∃ j, j < b.nl ∧ r.key = b.l j) ∧ u ∈ r.grp ∧ v ∈ r.grp ∧
    r.first = bookV b r.key (getI r.grp) r.grp.length u.toNat ∧ r.other = bookV b r.key (getI r.grp) r.grp.length v.toNat ∧ (∀ z ∈ r.grp, z ∈ G) ∧ r.grp.length ≤ G.length
theorem rank_above (b : BookD) : ∀ G s, G.Nodup → (∀ p ∈ rankP b G s, p.length = 1) → (rankP b G s).flatten.Pairwise (AboveR b G s) := by
  have H : ∀ m G s, rankM b.nl G.length s < m → G.Nodup → (∀ p ∈ rankP b G s, p.length = 1) → (rankP b G s).flatten.Pairwise (AboveR b G s) := by
    intro m
    induction m with
    | zero => intro G s h; exact absurd h (Nat.not_lt_zero _)
    | succ m ih =>
      intro G s h hG h1
      by_cases h0 : G = []
      · subst h0; rw [rankP_nil]; exact List.Pairwise.nil
      by_cases he : G.length = 1 ∨ b.nl ≤ s
      · rw [rankP_one b h0 he] at h1 ⊢
        obtain ⟨x, rfl⟩ := List.length_eq_one_iff.1 (h1 G (List.mem_singleton.2 rfl))
        simp
      · have hs : s < b.nl := by omega
        rw [rankP_step b h0 (by omega) hs] at h1 ⊢
        rw [flat_flat, List.pairwise_flatMap]
        have hap := parts_apart (b := b) (key := b.l s) hG
        rw [List.pairwise_iff_getElem] at hap
        refine ⟨fun p hp => ?_, ?_⟩
        · have hlt := rankM_lt (b := b) (s := s) hs hp
          have hin := ih p (nextS b (partsL b (b.l s) (getI G) G.length).length s) (by omega) (parts_nodup hG hp) (fun q hq => h1 q (List.mem_flatMap.2 ⟨p, hp, hq⟩))
          obtain ⟨k, hk, rfl⟩ := List.getElem_of_mem hp
          have hmem : ∀ u, u ∈ (rankP b (partsL b (b.l s) (getI G) G.length)[k] (nextS b (partsL b (b.l s) (getI G) G.length).length s)).flatten → u ∈ (partsL b (b.l s) (getI G) G.length)[k] := fun u hu => (rank_perm b _ _).mem_iff.1 hu
          refine List.Pairwise.imp_of_mem (fun {u v} hu hv ⟨r, a1, a2, a3, a4, a5, a6, a7, a8, a9, a10⟩ => ?_) hin
          have hu' := hmem u hu
          have hv' := hmem v hv
          have hno : ∀ j q, j < k → (partsL b (b.l s) (getI G) G.length)[j]? = some q → ¬ (u ∈ q ∨ v ∈ q) := fun j q hj hq hor => by
            obtain ⟨hl, rfl⟩ := List.getElem?_eq_some_iff.1 hq
            rcases hor with h | h
            · exact hap j k hl hk hj u h u hu' rfl
            · exact hap j k hl hk hj v h v hv' rfl
          have e1 : hitL u v (partsL b (b.l s) (getI G) G.length) = some (partsL b (b.l s) (getI G) G.length)[k] := hit_at (List.getElem?_eq_getElem hk) (.inl hu') hno
          have e2 : hitL v u (partsL b (b.l s) (getI G) G.length) = some (partsL b (b.l s) (getI G) G.length)[k] := hit_at (List.getElem?_eq_getElem hk) (.inl hv') (fun j q hj hq hor => hno j q hj hq hor.symm)
          have := partsL_le hp
          exact ⟨r, by rw [findP_on b hs e1 ⟨hu', hv'⟩]; exact a1, by rw [findP_on b hs e2 ⟨hv', hu'⟩]; exact a2, a3, a4, a5, a6, a7, a8, fun z hz => parts_in hp z (a9 z hz), by omega⟩
        · rw [List.pairwise_iff_getElem]
          intro i k hi hk hik u hu v hv
          have hu' := (rank_perm b _ _).mem_iff.1 hu
          have hv' := (rank_perm b _ _).mem_iff.1 hv
          have hno : ∀ j q, j < i → (partsL b (b.l s) (getI G) G.length)[j]? = some q → ¬ (u ∈ q ∨ v ∈ q) := fun j q hj hq hor => by
            obtain ⟨hl, rfl⟩ := List.getElem?_eq_some_iff.1 hq
            rcases hor with h | h
            · exact hap j i hl hi hj u h u hu' rfl
            · exact hap j k hl hk (by omega) v h v hv' rfl
          have hvn : ¬ v ∈ (partsL b (b.l s) (getI G) G.length)[i] := fun h => hap i k hi hk hik v h v hv' rfl
          have e1 : hitL u v (partsL b (b.l s) (getI G) G.length) = some (partsL b (b.l s) (getI G) G.length)[i] := hit_at (List.getElem?_eq_getElem hi) (.inl hu') hno
          have e2 : hitL v u (partsL b (b.l s) (getI G) G.length) = some (partsL b (b.l s) (getI G) G.length)[i] := hit_at (List.getElem?_eq_getElem hi) (.inr hu') (fun j q hj hq hor => hno j q hj hq hor.symm)
          exact ⟨⟨b.l s, G, bookV b (b.l s) (getI G) G.length u.toNat, bookV b (b.l s) (getI G) G.length v.toNat⟩, findP_here b hs e1 (fun h => hvn h.2), findP_here b hs e2 (fun h => hvn h.1),
            parts_values b (b.l s) G hik (List.getElem?_eq_getElem hi) (List.getElem?_eq_getElem hk) hu' hv', ⟨s, hs, rfl⟩, parts_in (List.getElem_mem hi) u hu', parts_in (List.getElem_mem hk) v hv', rfl, rfl, fun z h => h, Nat.le_refl _⟩
  exact fun G s => H _ G s (Nat.lt_succ_self _)
theorem sep_none (b : BookD) (t : Int) : ∀ G s, t ∈ G → sepP b t G s = [] → rankP b G s = [G] := by
  refine sepP_ind b t (P := fun G s L => L = [] → rankP b G s = [G]) (fun G s ht h _ => ?_) (fun G s p ht h1 hs hp hw ih e => ?_) (fun G s p ht h1 hs hp hw ih e => by cases e)
  · have h0 : G ≠ [] := List.ne_nil_of_mem ht
    have hl := List.length_pos_iff.2 h0
    exact rankP_one b h0 (h.imp (fun h => by omega) id)
  · have h0 : G ≠ [] := List.ne_nil_of_mem ht
    have hl := (part_whole (hit_mem hp)).1 hw
    obtain ⟨q, hq⟩ := List.length_eq_one_iff.1 hl
    have hqG := partsL_one hq
    subst hqG
    rw [rankP_step b h0 (by omega) hs]
    have hnx : nextS b (partsL b (b.l s) (getI q) q.length).length s = s + 1 := by unfold nextS; rw [hl, if_neg (by omega)]
    rw [hnx, hq, List.flatMap_cons, List.flatMap_nil, List.append_nil]
    exact ih e
section
variable {d : BookD}
theorem Made.above (h : Made d) : (ordB d).Pairwise (AboveR d (allL d.nf) 0) := rank_above d _ _ (allL_nodup _) h.ones
theorem Made.reason (h : Made d) {i k : Nat} {u v : Int} (hik : i < k) (hu : (ordB d)[i]? = some u) (hv : (ordB d)[k]? = some v) : AboveR d (allL d.nf) 0 u v := by
  have h1 := h.above
  rw [List.pairwise_iff_getElem] at h1
  obtain ⟨h2, rfl⟩ := List.getElem?_eq_some_iff.1 hu
  obtain ⟨h3, rfl⟩ := List.getElem?_eq_some_iff.1 hv
  exact h1 i k h2 h3 hik
theorem Made.steps (h : Made d) {t : Int} (ht : 0 ≤ t ∧ t < d.nf) : stepP d t (allL d.nf) 0 ≠ [] ∧ ∀ k ∈ stepP d t (allL d.nf) 0, hasP d.l k d.nl := by
  have htm : t ∈ allL d.nf := allL_mem.2 ht
  have e := sep_steps d t _ 0 htm
  rw [← e]
  refine ⟨fun h0 => ?_, fun k hk => ?_⟩
  · have h1 : sepP d t (allL d.nf) 0 = [] := by simpa using h0
    have h2 := sep_none d t _ 0 htm h1
    have h3 := h.ones
    rw [h2] at h3
    have h4 := h3 _ (List.mem_singleton.2 rfl)
    rw [allL_len] at h4
    have := h.nf
    omega
  · obtain ⟨x, hx, rfl⟩ := List.mem_map.1 hk
    obtain ⟨_, _, _, _, j, hj, e⟩ := sep_in d t _ 0 htm x hx
    exact ⟨j, hj, e.symm⟩
end
end Go.Proofs.YteciobkjfmddcaaGreatDoor
set_option linter.unusedVariables false
namespace Go.Proofs.YteciobkjfmddcaaGreatDoor
open Go.RowKit

theorem addRows_impl (a b : RowD) (w : World) :
    Calls Tryz.prog 113 #[.agg #[.int .i64 a.played, .int .i64 a.wins, .int .i64 a.draws, .int .i64 a.losses, .int .i64 a.scored, .int .i64 a.against, .int .i64 a.points], .agg #[.int .i64 b.played, .int .i64 b.wins, .int .i64 b.draws, .int .i64 b.losses, .int .i64 b.scored, .int .i64 b.against, .int .i64 b.points]] w fun e w' => e = .returned (addW a b).val ∧ Below w.heap.size w w' := by
  unfold addW RowD.val
  go_enter Tryz.func113, Tryz.ntmps113
  go_wp2
  refine bodyPost_ret (by simp [results, Tryz.results113, go_sem]) rfl ⟨rfl, ?_⟩
  repeat (first | exact Below.refl _ _ | refine Below.setCell ?_ (by simp <;> omega) _ | refine Below.alloc ?_ (by simp <;> omega) _)
theorem differenceOf_impl (a : RowD) (w : World) :
    Calls Tryz.prog 75 #[.agg #[.int .i64 a.played, .int .i64 a.wins, .int .i64 a.draws, .int .i64 a.losses, .int .i64 a.scored, .int .i64 a.against, .int .i64 a.points]] w fun e w' => e = .returned (.int .i64 (wrap64 (a.scored - a.against))) ∧ Below w.heap.size w w' := by
  go_enter Tryz.func75, Tryz.ntmps75
  go_wp2
  go_ret
  exact ⟨rfl, (Below.refl _ _).alloc (Nat.le_refl _) _⟩
def set7 (w : World) (B o : Nat) (y : RowD) : World := ((((((w.setCell ⟨B, o, none⟩ (Value.int .i64 y.played)).setCell ⟨B, o + 1, none⟩ (Value.int .i64 y.wins)).setCell ⟨B, o + 2, none⟩ (Value.int .i64 y.draws)).setCell ⟨B, o + 3, none⟩ (Value.int .i64 y.losses)).setCell ⟨B, o + 4, none⟩ (Value.int .i64 y.scored)).setCell ⟨B, o + 5, none⟩ (Value.int .i64 y.against)).setCell ⟨B, o + 6, none⟩ (Value.int .i64 y.points)
theorem BoxF.set7 {w : World} {B : Nat} {x y : RowD} (h : BoxF w B x.cells) : BoxF (set7 w B 0 y) B y.cells := BoxF.row7 h
theorem below_set7 {a w : World} {B0 B : Nat} {o : Nat} {y : RowD} (h : Below B0 a w) (hB : B0 ≤ B) : Below B0 a (set7 w B o y) :=
  Below.setCell (Below.setCell (Below.setCell (Below.setCell (Below.setCell (Below.setCell (Below.setCell h (p := ⟨B, o, none⟩) hB (Value.int .i64 y.played)) (p := ⟨B, o + 1, none⟩) hB (Value.int .i64 y.wins)) (p := ⟨B, o + 2, none⟩) hB (Value.int .i64 y.draws)) (p := ⟨B, o + 3, none⟩) hB (Value.int .i64 y.losses)) (p := ⟨B, o + 4, none⟩) hB (Value.int .i64 y.scored)) (p := ⟨B, o + 5, none⟩) hB (Value.int .i64 y.against)) (p := ⟨B, o + 6, none⟩) hB (Value.int .i64 y.points)
theorem BoxF.other7 {w : World} {B D : Nat} {cs : List Value} (h : BoxF w B cs) (o : Nat) (y : RowD) (hD : B ≠ D) : BoxF (Go.Proofs.YteciobkjfmddcaaGreatDoor.set7 w D o y) B cs :=
  ((((((h.other o _ hD).other (o + 1) _ hD).other (o + 2) _ hD).other (o + 3) _ hD).other (o + 4) _ hD).other (o + 5) _ hD).other (o + 6) _ hD
theorem BoxF.at0 {w : World} {B : Nat} {x : RowD} (h : BoxF w B x.cells) : CellsAt w B 0 x.cells := ⟨h.1, fun j u hu => by rw [Nat.zero_add]; exact (h.2 j u hu).1⟩
theorem BoxF.free0 {w : World} {B : Nat} {x : RowD} (h : BoxF w B x.cells) : ∀ j, j < 7 → w.frozen? ⟨B, 0 + j, none⟩ = false := fun j hj => by
  rw [Nat.zero_add]
  obtain ⟨v, hv⟩ : ∃ v, x.cells[j]? = some v := ⟨_, List.getElem?_eq_getElem (by simpa [RowD.cells] using hj)⟩
  exact (h.2 j v hv).2

set_option maxRecDepth 100000 in
set_option maxHeartbeats 1000000 in
theorem sumsAdd_impl (s x : RowD) (B off : Nat) (w : World) (hc : CellsAt w B off s.cells) (hf : ∀ j, j < 7 → w.frozen? ⟨B, off + j, none⟩ = false) :
    Calls Tryz.prog 100 #[.pointer (some ⟨B, off, none⟩), .agg #[.int .i64 x.played, .int .i64 x.wins, .int .i64 x.draws, .int .i64 x.losses, .int .i64 x.scored, .int .i64 x.against, .int .i64 x.points]] w fun e w' => e = .returned (.tuple #[]) ∧ ∃ w1, Below w.heap.size w w1 ∧ w' = set7 w1 B off (addW s x) := by
  have hBs := hc.1
  have HF := Lib.hid hf
  have hb0 : Below w.heap.size w (w.alloc (.cells #[.int .i64 x.played, .int .i64 x.wins, .int .i64 x.draws, .int .i64 x.losses, .int .i64 x.scored, .int .i64 x.against, .int .i64 x.points] 115)) := (Below.refl _ _).alloc (Nat.le_refl _) _
  obtain ⟨W1, hW1⟩ : ∃ W1, W1 = w.alloc (.cells #[.int .i64 x.played, .int .i64 x.wins, .int .i64 x.draws, .int .i64 x.losses, .int .i64 x.scored, .int .i64 x.against, .int .i64 x.points] 115) := ⟨_, rfl⟩
  have HB : Hid (Below w.heap.size w W1.drew) := by subst hW1; exact hb0.drew
  obtain ⟨F, HFd⟩ : ∃ F : World → Prop, F = fun w' => CellsAt w' B off s.cells ∧ CellsAt w' w.heap.size 0 x.cells := ⟨_, rfl⟩
  have FE : Hid (∀ wa, F wa → CellsAt wa B off s.cells ∧ CellsAt wa w.heap.size 0 x.cells) := by subst HFd; exact fun _ h => h
  have FI : Hid (∀ wa, CellsAt wa B off s.cells → CellsAt wa w.heap.size 0 x.cells → F wa) := by subst HFd; exact fun _ h1 h2 => ⟨h1, h2⟩
  have F0 : Hid (F W1.drew) := FI.out _ (by subst hW1; exact hc.below hb0.drew) (by
    subst hW1
    have hbx : BoxF (w.alloc (.cells #[.int .i64 x.played, .int .i64 x.wins, .int .i64 x.draws, .int .i64 x.losses, .int .i64 x.scored, .int .i64 x.against, .int .i64 x.points] 115)) w.heap.size x.cells := BoxF.made (Below.refl _ _) rfl
    exact hbx.at0.below (Below.refl _ _).drew)
  clear HFd hc hf hb0
  go_enter Tryz.func100, Tryz.ntmps100
  go_wp2_with fail
  rw [← hW1]
  refine Await.begin (S := Until 9 F) (by kernel_rfl) ?_ (fun hS => ?_)
  · exact Until.of F0.out
  clear F0 hW1
  refine Await.pure (i := 0) (v := ?_) rfl (by kernel_rfl) (by kernel_rfl) (by kernel_rfl) (by kernel_rfl) (fun _ _ _ h => h) (Or.inl ⟨by rfl, ?_⟩) (by assumption) ?_
  rotate_left
  · (intro wa _; go_simp; try with_reducible rfl)
  simp only [Act.put, List.getElem_toArray, List.getElem_cons_zero, List.setIfInBounds_toArray, List.set_cons_zero, List.set_cons_succ]
  refine Await.pure (i := 1) (v := ?_) rfl (by kernel_rfl) (by kernel_rfl) (by kernel_rfl) (by kernel_rfl) (fun _ _ _ h => h) (Or.inl ⟨by rfl, ?_⟩) (by assumption) ?_
  rotate_left
  · (intro wa _; go_simp; try with_reducible rfl)
  simp only [Act.put, List.getElem_toArray, List.getElem_cons_zero, List.getElem_cons_succ, List.setIfInBounds_toArray, List.set_cons_zero, List.set_cons_succ]
  refine Await.pure (i := 2) (v := ?_) rfl (by kernel_rfl) (by kernel_rfl) (by kernel_rfl) (by kernel_rfl) (fun _ _ _ h => h) (Or.inl ⟨by rfl, ?_⟩) (by assumption) ?_
  rotate_left
  · (intro wa _; go_simp; try with_reducible rfl)
  simp only [Act.put, List.getElem_toArray, List.getElem_cons_zero, List.getElem_cons_succ, List.setIfInBounds_toArray, List.set_cons_zero, List.set_cons_succ]
  refine Await.pure (i := 3) (v := ?_) rfl (by kernel_rfl) (by kernel_rfl) (by kernel_rfl) (by kernel_rfl) (fun _ _ _ h => h) (Or.inl ⟨by rfl, ?_⟩) (by assumption) ?_
  rotate_left
  · (intro wa _; go_simp; try with_reducible rfl)
  simp only [Act.put, List.getElem_toArray, List.getElem_cons_zero, List.getElem_cons_succ, List.setIfInBounds_toArray, List.set_cons_zero, List.set_cons_succ]
  refine Await.takes (i := 4) [6] (v := ?_) rfl (by kernel_rfl) (by kernel_rfl) (by kernel_rfl) (by kernel_rfl) (fun _ _ _ h => h) (Or.inl ⟨by rfl, ?_⟩) (by assumption) ?_
  rotate_left
  · (intro wa hSw; obtain ⟨fs, fx⟩ := FE.out wa hSw; obtain ⟨a0, a1, a2, a3, a4, a5, a6⟩ := row_cells fs; obtain ⟨b0, b1, b2, b3, b4, b5, b6⟩ := row_cells fx; go_simp; try with_reducible rfl)
  simp only [Act.put, List.getElem_toArray, List.getElem_cons_zero, List.getElem_cons_succ, List.setIfInBounds_toArray, List.set_cons_zero, List.set_cons_succ]
  refine Await.takes (i := 5) [6] (v := ?_) rfl (by kernel_rfl) (by kernel_rfl) (by kernel_rfl) (by kernel_rfl) (fun _ _ _ h => h) (Or.inl ⟨by rfl, ?_⟩) (by assumption) ?_
  rotate_left
  · (intro wa hSw; obtain ⟨fs, fx⟩ := FE.out wa hSw; obtain ⟨a0, a1, a2, a3, a4, a5, a6⟩ := row_cells fs; obtain ⟨b0, b1, b2, b3, b4, b5, b6⟩ := row_cells fx; go_simp; try with_reducible rfl)
  simp only [Act.put, List.getElem_toArray, List.getElem_cons_zero, List.getElem_cons_succ, List.setIfInBounds_toArray, List.set_cons_zero, List.set_cons_succ]
  refine Await.step (i := 6) (o := _) (by kernel_rfl) rfl (fun K1 hK1' => ?_)
  go_simp
  refine (addRows_impl s x _).mono ?_
  rintro e w9 ⟨rfl, b9⟩
  generalize hz : addW s x = z
  have HZ := Lib.hid hz
  clear hz
  unfold RowD.val
  (try go_wp2_with fail)
  refine hK1'.out _ _ ?_ (fun hS => ?_)
  · exact Until.of (FI.out _ ((FE.out _ (hS (by kernel_rfl))).1.below b9) ((FE.out _ (hS (by kernel_rfl))).2.below b9))
  clear hK1' K1
  refine Await.pure (i := 7) (v := ?_) rfl (by kernel_rfl) (by kernel_rfl) (by kernel_rfl) (by kernel_rfl) (fun _ _ _ h => h) (Or.inl ⟨by rfl, ?_⟩) (by assumption) ?_
  rotate_left
  · (intro wa _; go_simp; try with_reducible rfl)
  simp only [Act.put, List.getElem_toArray, List.getElem_cons_zero, List.getElem_cons_succ, List.setIfInBounds_toArray, List.set_cons_zero, List.set_cons_succ]
  refine Await.pure (i := 8) (v := ?_) rfl (by kernel_rfl) (by kernel_rfl) (by kernel_rfl) (by kernel_rfl) (fun _ _ _ h => h) (Or.inl ⟨by rfl, ?_⟩) (by assumption) ?_
  rotate_left
  · (intro wa _; go_simp; try with_reducible rfl)
  simp only [Act.put, List.getElem_toArray, List.getElem_cons_zero, List.getElem_cons_succ, List.setIfInBounds_toArray, List.set_cons_zero, List.set_cons_succ]
  have hcs9 := (FE.out _ (hS (by kernel_rfl))).1
  have hb9 := Lib.hid (HB.out.trans (b9.mono HB.out.size))
  have hfr : ∀ j, j < 7 → w9.frozen? ⟨B, off + j, none⟩ = false := fun j hj => (hb9.out.frozen (p := ⟨B, off + j, none⟩) hBs).trans (HF.out j hj)
  obtain ⟨d0, d1, d2, d3, d4, d5, d6⟩ := row_cells hcs9
  have e0 := hfr 0 (by omega)
  have e1 := hfr 1 (by omega)
  have e2 := hfr 2 (by omega)
  have e3 := hfr 3 (by omega)
  have e4 := hfr 4 (by omega)
  have e5 := hfr 5 (by omega)
  have e6 := hfr 6 (by omega)
  rw [Nat.add_zero] at e0
  clear hcs9 hfr b9
  refine Await.step (i := 9) (o := _) (by kernel_rfl) rfl (fun K1 hK1' => ?_)
  go_simp
  refine hK1'.out _ _ ?_ (fun hS => ?_)
  · exact Until.over (by kernel_rfl)
  clear hK1' K1
  refine Await.done (by kernel_rfl) ?_ _
  go_wp2
  go_end0
  refine ⟨rfl, w9, hb9.out, ?_⟩
  rw [← HZ.out] at *
  rfl
theorem field_sums (s : RowD) (w : World) : Sem.run Tryz.prog (Instr.field 126 (.agg #[.int .i64 s.played, .int .i64 s.wins, .int .i64 s.draws, .int .i64 s.losses, .int .i64 s.scored, .int .i64 s.against, .int .i64 s.points]) 0) w = .ok (.agg #[.int .i64 s.played, .int .i64 s.wins, .int .i64 s.draws, .int .i64 s.losses, .int .i64 s.scored, .int .i64 s.against, .int .i64 s.points]) w := by kernel_rfl
theorem field_row (s : RowD) (w : World) : Sem.run Tryz.prog (Instr.field 115 (.agg #[.int .i64 s.played, .int .i64 s.wins, .int .i64 s.draws, .int .i64 s.losses, .int .i64 s.scored, .int .i64 s.against, .int .i64 s.points]) 0) w = .ok (.int .i64 s.played) w := by kernel_rfl
theorem sumR_played (g : Nat → RowD) : ∀ k, (sumR g k).played = playedN g k
  | 0 => rfl
  | k + 1 => by
    show wrap64 ((sumR g k).played + (g k).played) = wrap64 (playedN g k + (g k).played)
    rw [sumR_played g k]
def offB (x : RowD) : Bool := wrap64 (wrap64 (x.wins + x.draws) + x.losses) != x.played
theorem offB_iff (x : RowD) : offB x = true ↔ ¬ balR x := by unfold offB balR; simp
end Go.Proofs.YteciobkjfmddcaaGreatDoor
set_option linter.unusedVariables false
namespace Go.Proofs.YteciobkjfmddcaaGreatDoor
open Go.RowKit

theorem owns_setCells {base : Nat} {e : TypeId} {size g n cap : Nat} (cs : List Value) : ∀ {w : World} {xs : List Value} (_ : w.ownsRow base e size (.slice (some ⟨g, 0, none⟩) n cap) n xs) (s : Nat),
    (w.setCells g s cs).ownsRow base e size (.slice (some ⟨g, 0, none⟩) n cap) n (setsFrom xs s cs) := by
  induction cs with
  | nil => intro w xs h s; exact h
  | cons u us ih => intro w xs h s; exact ih (h.stored s u).1 (s + 1)
theorem below_setCells {B0 g : Nat} {a : World} (cs : List Value) : ∀ {w : World} (_ : Below B0 a w) (_ : B0 ≤ g) (s : Nat), Below B0 a (w.setCells g s cs) := by
  induction cs with
  | nil => intro w h _ s; exact h
  | cons u us ih => intro w h hB s; exact ih (Below.setCell h (p := ⟨g, s, none⟩) hB u) hB (s + 1)
theorem run_copyR {P : Program} (w : World) (dT sT ty elem : TypeId) (i : TypeInfo) (k g o dLen dCap : Nat) (a : Addr) (sLen sCap : Nat) (cs : List Value)
    (hu : P.underlying dT = some (.slice elem)) (hi : P.info? elem = some i) (hk : i.size = k) (hn : cs.length = Nat.min sLen dLen * k)
    (hsrc : ∀ j v, cs[j]? = some v → w.cell? (a.add j) = some v) (hc : ∀ j, j < cs.length → (w.cell? ⟨g, o + j, none⟩).isSome = true) (hf : ∀ j, j < cs.length → w.frozen? ⟨g, o + j, none⟩ = false) (h1 : ∀ v ∈ cs, v.oneCell' = true) :
    (Builtin.copy_ #[dT, sT] ty #[.slice (some ⟨g, o, none⟩) dLen dCap, .slice (some a) sLen sCap]).run P w = .ok (goInt (Nat.min sLen dLen)) (w.setCells g o cs) := by
  have hl := run_loadCells_list (P := P) w a cs hsrc
  have hst := run_storeCells_cells (P := P) g o cs 0 w (by simpa using hc) (by simpa using hf) h1
  subst hk
  simp [Builtin.copy_, run_underlying hu, Builtin.lenOf, Builtin.firstCells, sizeOf, typeInfo, hi, ← hn, hl, hst]
section
variable {P : Program} {ops : Array Oper} {o : Oper} {a : Act} {w : World}
theorem upon_copyR {K : Act → World → Prop} {Q : Exit → Act → World → Prop} (d s : Operand) (dT sT : TypeId)
    (ho : o.op = .call { callee := .builtin .copy, args := #[d, s], argTypes := #[dT, sT] }) {base : Nat} {e : TypeId} {i : TypeInfo} {k : Nat} (hu : P.underlying dT = some (.slice e)) (hi : P.info? e = some i) (hk : i.size = k)
    {g n cap : Nat} {xs : List Value} (hown : w.ownsRow base e k (.slice (some ⟨g, 0, none⟩) n cap) n xs) (off dLen dCap : Nat) (ad : Addr) (sLen sCap : Nat)
    (hd : a.eval d = .slice (some ⟨g, off, none⟩) dLen dCap) (hs : a.eval s = .slice (some ad) sLen sCap) (cs : List Value) (q : Nat) (hq : q = Nat.min sLen dLen) (hn : cs.length = q * k)
    (hsrc : ∀ j v, cs[j]? = some v → w.cell? (ad.add j) = some v) (hfit : off + cs.length ≤ n * k) (h1 : ∀ v ∈ cs, v.oneCell' = true)
    (h : ∀ w', w'.ownsRow base e k (.slice (some ⟨g, 0, none⟩) n cap) n (setsFrom xs off cs) → Below base w w' → K (a.put o.dst (.int .i64 q)) w') :
    Oper.wp P o a w K Q := by
  subst hq
  have hlt := (hown.lt g rfl).1
  have hlen := hown.1
  have hrun := run_copyR (P := P) w dT sT o.type e i k g off dLen dCap ad sLen sCap cs hu hi hk hn hsrc
    (fun j hj => by rw [hown.cellAt _ (by omega)]; rw [List.getElem?_eq_getElem (by omega)]; rfl) (fun j hj => hown.frozenAt _) h1
  unfold Oper.wp
  simp [execOp, ho, resolve, invoke, builtin, hd, hs, hrun, Result.andThen]
  exact h _ (owns_setCells cs hown off) (below_setCells cs (Below.refl _ _) hlt off)
theorem step_copyR {K : Act → World → Prop} {Q : Exit → Act → World → Prop} {E : Prop} (hgd : o.guard = none) (d s : Operand) (dT sT : TypeId)
    (ho : o.op = .call { callee := .builtin .copy, args := #[d, s], argTypes := #[dT, sT] }) {base : Nat} {e : TypeId} {i : TypeInfo} {k : Nat} (hu : P.underlying dT = some (.slice e)) (hi : P.info? e = some i) (hk : i.size = k)
    {g n cap : Nat} {xs : List Value} (hown : w.ownsRow base e k (.slice (some ⟨g, 0, none⟩) n cap) n xs) (off dLen dCap : Nat) (ad : Addr) (sLen sCap : Nat)
    (hd : a.eval d = .slice (some ⟨g, off, none⟩) dLen dCap) (hs : a.eval s = .slice (some ad) sLen sCap) (cs : List Value) (q : Nat) (hq : q = Nat.min sLen dLen) (hn : cs.length = q * k)
    (hsrc : ∀ j v, cs[j]? = some v → w.cell? (ad.add j) = some v) (hfit : off + cs.length ≤ n * k) (h1 : ∀ v ∈ cs, v.oneCell' = true)
    (h : ∀ w', w'.ownsRow base e k (.slice (some ⟨g, 0, none⟩) n cap) n (setsFrom xs off cs) → Below base w w' → K (a.put o.dst (.int .i64 q)) w') :
    if Region.wanted o (yielded ops a.tmps) = true then Oper.wp P o a w K Q else E := by
  have hw : Region.wanted o (yielded ops a.tmps) = true := by simp [Region.wanted, hgd]
  rw [if_pos hw]
  exact upon_copyR d s dT sT ho hu hi hk hown off dLen dCap ad sLen sCap hd hs cs q hq hn hsrc hfit h1 h
theorem wpList_copyR {rest : List Oper} {Q : Exit → Act → World → Prop} (hgd : o.guard = none) (d s : Operand) (dT sT : TypeId)
    (ho : o.op = .call { callee := .builtin .copy, args := #[d, s], argTypes := #[dT, sT] }) {base : Nat} {e : TypeId} {i : TypeInfo} {k : Nat} (hu : P.underlying dT = some (.slice e)) (hi : P.info? e = some i) (hk : i.size = k)
    {g n cap : Nat} {xs : List Value} (hown : w.ownsRow base e k (.slice (some ⟨g, 0, none⟩) n cap) n xs) (off dLen dCap : Nat) (ad : Addr) (sLen sCap : Nat)
    (hd : a.eval d = .slice (some ⟨g, off, none⟩) dLen dCap) (hs : a.eval s = .slice (some ad) sLen sCap) (cs : List Value) (q : Nat) (hq : q = Nat.min sLen dLen) (hn : cs.length = q * k)
    (hsrc : ∀ j v, cs[j]? = some v → w.cell? (ad.add j) = some v) (hfit : off + cs.length ≤ n * k) (h1 : ∀ v ∈ cs, v.oneCell' = true)
    (h : ∀ w', w'.ownsRow base e k (.slice (some ⟨g, 0, none⟩) n cap) n (setsFrom xs off cs) → Below base w w' → wpList P ops Q rest (a.put o.dst (.int .i64 q)) w') :
    wpList P ops Q (o :: rest) a w := by
  refine wpList_plain hgd fun K hK => ?_
  exact upon_copyR d s dT sT ho hu hi hk hown off dLen dCap ad sLen sCap hd hs cs q hq hn hsrc hfit h1 (fun w' h1 h2 => hK _ _ (h w' h1 h2))
end
theorem cells_add {w : World} {B off : Nat} {cs : List Value} (h : CellsAt w B off cs) : ∀ j v, cs[j]? = some v → w.cell? ((⟨B, off, none⟩ : Addr).add j) = some v := fun j v hv => by
  have hadd : (⟨B, off, none⟩ : Addr).add j = ⟨B, off + j, none⟩ := by unfold Addr.add; split <;> simp_all
  rw [hadd]
  exact h.2 j v hv
def rep (cs : List Value) (q : Nat) : List Value := flatR (fun _ => cs) q
theorem rep_len {k : Nat} {cs : List Value} (h : cs.length = k) (q : Nat) : (rep cs q).length = q * k := flatR_len k _ q fun _ _ => h
theorem rep_cells {k : Nat} {cs : List Value} (h : cs.length = k) (q : Nat) : RecCells k q (rep cs q) (fun _ => cs) := flatR_cells k _ q fun _ _ => h
theorem cells_more {k n m q : Nat} {xs cs : List Value} (h : RecCells k m xs (fun _ => cs)) (hl : xs.length = n * k) (hcl : cs.length = k) (hmq : m + q ≤ n) :
    RecCells k (m + q) (setsFrom xs (m * k) (rep cs q)) (fun _ => cs) := by
  have hmul : m * k + q * k ≤ n * k := by rw [← Nat.add_mul]; exact Nat.mul_le_mul_right k hmq
  have hrl := rep_len hcl q
  intro i hi j u hu
  have hj : j < k := by rw [← hcl]; exact (List.getElem?_eq_some_iff.1 hu).1
  by_cases him : i < m
  · rw [setsFrom_out]
    · exact h i him j u hu
    · left
      have := Nat.mul_le_mul_right k (show i + 1 ≤ m by omega)
      rw [Nat.succ_mul] at this
      omega
  · obtain ⟨d, rfl⟩ : ∃ d, i = m + d := ⟨i - m, by omega⟩
    rw [show (m + d) * k + j = m * k + (d * k + j) by rw [Nat.add_mul]; omega]
    exact setsFrom_in _ _ _ _ u (by omega) (rep_cells hcl q d (by omega) j u hu)
theorem first_cells {k : Nat} {xs cs : List Value} (hcl : cs.length = k) (hl : k ≤ xs.length) : RecCells k 1 (setsFrom xs 0 cs) (fun _ => cs) := by
  intro i hi j u hu
  obtain rfl : i = 0 := by omega
  rw [Nat.zero_mul]
  exact setsFrom_in cs xs 0 j u (by omega) hu
theorem rep_one {cs : List Value} {q : Nat} {v : Value} (h1 : ∀ v ∈ cs, v.oneCell' = true) (h : v ∈ rep cs q) : v.oneCell' = true := by
  unfold rep flatR at h
  rw [List.mem_flatMap] at h
  obtain ⟨_, _, h⟩ := h
  exact h1 v h
theorem rep_at {w : World} {base g n cap m q k : Nat} {e : TypeId} {xs cs : List Value} (ho : w.ownsRow base e k (.slice (some ⟨g, 0, none⟩) n cap) n xs) (h : RecCells k m xs (fun _ => cs)) (hcl : cs.length = k) (hk : 0 < k) (hq : q ≤ m) (hm : m ≤ n) :
    ∀ j v, (rep cs q)[j]? = some v → w.cell? ((⟨g, 0, none⟩ : Addr).add j) = some v := by
  intro j v hv
  have hadd : (⟨g, 0, none⟩ : Addr).add j = ⟨g, j, none⟩ := by unfold Addr.add; split <;> simp_all
  obtain ⟨h1, h2⟩ := flatR_get k _ q (fun _ _ => hcl) hk j v hv
  have h3 := h (j / k) (by omega) (j % k) v h2
  rw [Nat.mul_comm, Nat.div_add_mod] at h3
  have hlen := ho.1
  have hj : j < xs.length := (List.getElem?_eq_some_iff.1 h3).1
  rw [hadd, ho.cellAt _ (by omega)]
  exact h3
end Go.Proofs.YteciobkjfmddcaaGreatDoor
