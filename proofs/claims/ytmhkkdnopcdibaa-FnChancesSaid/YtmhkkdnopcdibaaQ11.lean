/-
  Packed: Clubs, BookOk, BookKit, BookVals, KeyValue, TeamsAll, SplitBy, RankFacts, Rank.
-/
import Derived.Test.YtmhkkdnopcdibaaQ1
import Derived.Test.YtmhkkdnopcdibaaQ6
import Derived.Test.YtmhkkdnopcdibaaQ9
import Derived.Test.YtmhkkdnopcdibaaQ10
set_option linter.unusedVariables false
namespace Go.Proofs.Ytmhkkdnopcdibaa
open Go.RowKit

def NumsMade (w : World) (L : List Int) (e : Ending) (w' : World) : Prop :=
  ∃ v, e = .returned v ∧ w'.ownsRow w.heap.size 3 1 v L.length (L.map (Value.int .i64)) ∧ Below w.heap.size w w'
def selL (f : Nat → Int) (c : Int) : Nat → List Int
  | 0 => []
  | k + 1 => selL f c k ++ if f k = c then [(k : Int)] else []
theorem selL_yes {f : Nat → Int} {c : Int} {k : Nat} (h : f k = c) : selL f c (k + 1) = selL f c k ++ [(k : Int)] := by simp [selL, h]
theorem selL_no {f : Nat → Int} {c : Int} {k : Nat} (h : f k ≠ c) : selL f c (k + 1) = selL f c k := by simp [selL, h]
theorem selL_len (f : Nat → Int) (c : Int) : ∀ k, (selL f c k).length ≤ k
  | 0 => Nat.le_refl _
  | k + 1 => by
    have := selL_len f c k
    by_cases h : f k = c
    · rw [selL_yes h]; simp; omega
    · rw [selL_no h]; omega

def seedsL (f : Nat → Int) (n : Nat) : Nat → List Int
  | 0 => []
  | s + 1 => seedsL f n s ++ selL f ((s : Int) + 1) n
def clubsN (g : Nat → TeamD) (n : Nat) : Nat → Nat
  | 0 => 0
  | c + 1 => clubsN g n c + if 0 < (selL (fun i => (g i).club) (c : Int) n).length then 1 else 0
theorem clubsN_le (g : Nat → TeamD) (n : Nat) : ∀ c, clubsN g n c ≤ c
  | 0 => Nat.le_refl _
  | c + 1 => by
    have := clubsN_le g n c
    unfold clubsN
    split <;> omega
theorem TeamRow.below {w w' : World} {B : Nat} {v : Value} {n : Nat} {g : Nat → TeamD} (h : TeamRow w v n g) (hb : Below B w w') (hB : w.heap.size ≤ B) : TeamRow w' v n g := by
  rcases h with h | ⟨b, off, cap, h1, h0, h2, h3, h4⟩
  · exact .inl h
  · refine .inr ⟨b, off, cap, h1, h0, h2, fun i hi => ?_, h4⟩
    obtain ⟨k0, k1, k2⟩ := h3 i hi
    have hlt := Nat.lt_of_lt_of_le (World.block_lt_of_cell? w _ k0) hB
    exact ⟨(hb.cell (p := ⟨b, off + i * 3, none⟩) hlt).trans k0, (hb.cell (p := ⟨b, off + i * 3 + 1, none⟩) hlt).trans k1, (hb.cell (p := ⟨b, off + i * 3 + 2, none⟩) hlt).trans k2⟩
theorem TeamRow.drewN {w : World} {v : Value} {n q : Nat} {g : Nat → TeamD} (h : TeamRow w v n g) : TeamRow (w.drewN q) v n g := by
  rcases h with h | ⟨b, off, cap, h1, h0, h2, h3, h4⟩
  · exact .inl h
  · exact .inr ⟨b, off, cap, h1, h0, h2, fun i hi => by simp only [World.cell?_drewN]; exact h3 i hi, h4⟩
theorem NumsMade.form {w w' : World} {L : List Int} {e : Ending} (h : NumsMade w L e w') :
    ∃ a cap, e = .returned (.slice a L.length cap) ∧ w'.ownsRow w.heap.size 3 1 (.slice a L.length cap) L.length (L.map (Value.int .i64)) ∧ Below w.heap.size w w' := by
  obtain ⟨v, rfl, hown, hb⟩ := h
  rcases hown.2 with ⟨rfl, h0⟩ | ⟨g, cap, cur, rfl, _⟩
  · cases L with
    | nil => exact ⟨_, _, rfl, hown, hb⟩
    | cons => simp at h0
  · exact ⟨_, _, rfl, hown, hb⟩
theorem seedsL_len (f : Nat → Int) (n : Nat) : ∀ s, (seedsL f n s).length ≤ s * n
  | 0 => by simp [seedsL]
  | s + 1 => by
    have h1 := seedsL_len f n s
    have h2 := selL_len f ((s : Int) + 1) n
    unfold seedsL
    rw [List.length_append, Nat.succ_mul]
    omega
end Go.Proofs.Ytmhkkdnopcdibaa
set_option linter.unusedVariables false
namespace Go.Proofs.Ytmhkkdnopcdibaa
open Go.RowKit

structure BookD where
  nf : Nat
  f : Nat → TeamD
  win : Int
  draw : Int
  loss : Int
  nl : Nat
  l : Nat → Int
  again : Bool
  m : Nat
  g : Nat → GameD
  nfa : Nat
  fa : Nat → Int
  nta : Nat
  ta : Nat → Int
def BookRow (w : World) (vf vl vg vfa vta : Value) (b : BookD) : Prop :=
  TeamRow w vf b.nf b.f ∧ IntRow w vl b.nl b.l ∧ GameRow w vg b.m b.g ∧ IntRow w vfa b.nfa b.fa ∧ IntRow w vta b.nta b.ta
theorem BookRow.below {w w' : World} {B : Nat} {vf vl vg vfa vta : Value} {b : BookD} (h : BookRow w vf vl vg vfa vta b) (hb : Below B w w') (hB : w.heap.size ≤ B) : BookRow w' vf vl vg vfa vta b :=
  ⟨h.1.below hb hB, h.2.1.below hb hB, h.2.2.1.below hb hB, h.2.2.2.1.below hb hB, h.2.2.2.2.below hb hB⟩
theorem BookRow.form {w : World} {vf vl vg vfa vta : Value} {b : BookD} (h : BookRow w vf vl vg vfa vta b) :
    ∃ fa fc la lc ga gc qa qc ta tc, vf = .slice fa b.nf fc ∧ vl = .slice la b.nl lc ∧ vg = .slice ga b.m gc ∧ vfa = .slice qa b.nfa qc ∧ vta = .slice ta b.nta tc := by
  obtain ⟨fa, fc, h1, _⟩ := h.1.form
  obtain ⟨la, lc, h2, _⟩ := h.2.1.form
  obtain ⟨ga, gc, h3, _⟩ := h.2.2.1.form
  obtain ⟨qa, qc, h4, _⟩ := h.2.2.2.1.form
  obtain ⟨ta, tc, h5, _⟩ := h.2.2.2.2.form
  exact ⟨fa, fc, la, lc, ga, gc, qa, qc, ta, tc, h1, h2, h3, h4, h5⟩
def pensP (b : BookD) (i : Nat) : Prop := (0 ≤ b.fa i ∧ b.fa i ≤ 1000) ∧ (0 ≤ b.ta i ∧ b.ta i ≤ 1000)
def bookP (b : BookD) : Prop := fieldP b.nf b.f ∧ rulesP b.win b.draw b.loss b.nl b.l ∧ seasonP b.nf b.m b.g ∧ b.nfa = b.nf ∧ b.nta = b.nf ∧ ∀ i, i < b.nf → pensP b i
theorem fieldOk_spec (v : Value) (n : Nat) (g : Nat → TeamD) (R : Bool) (w : World) (h : TeamRow w v n g) (hg : ∀ i, (g i).nm.size ≤ maxLen) (hR : R = true ↔ fieldP n g) :
    Calls Try.prog 57 #[v] w fun e w' => e = .returned (.bool R) ∧ Below w.heap.size w w' := by
  cases R with
  | true => exact (fieldOk_yes v n g w h hg (hR.1 rfl)).mono fun e w' h => ⟨h.1, by first | exact h.2 | (obtain ⟨q, rfl⟩ := h.2; exact below_drewN (Below.refl _ _) q) | (rw [← h.2]; exact Below.refl _ _)⟩
  | false => exact (fieldOk_no v n g w h hg fun hp => by have := hR.2 hp; cases this).mono fun e w' h => ⟨h.1, by first | exact h.2 | (obtain ⟨q, rfl⟩ := h.2; exact below_drewN (Below.refl _ _) q) | (rw [← h.2]; exact Below.refl _ _)⟩

theorem int_at {w : World} {a : Option Addr} {n c k : Nat} {g : Nat → Int} (h : IntRow w (.slice a n c) n g) (hk : k < n) : ∃ bo off, a = some ⟨bo, off, none⟩ ∧ n ≤ c ∧ w.cell? ⟨bo, off + k, none⟩ = some (.int .i64 (g k)) := by
  rcases h with ⟨_, _, _, h1⟩ | ⟨b', off, c', he, _, h3, hc, _⟩
  · omega
  · simp only [Value.slice.injEq, true_and] at he
    obtain ⟨rfl, rfl⟩ := he
    exact ⟨b', off, rfl, by omega, hc k hk⟩

end Go.Proofs.Ytmhkkdnopcdibaa
set_option linter.unusedVariables false
namespace Go.Proofs.Ytmhkkdnopcdibaa
open Go.RowKit

abbrev bkList (fa : Option Addr) (fc : Nat) (la : Option Addr) (lc : Nat) (ga : Option Addr) (gc : Nat) (qa : Option Addr) (qc : Nat) (ta : Option Addr) (tc : Nat) (b : BookD) : List Value :=
  [.slice fa b.nf fc, .int .i64 b.win, .int .i64 b.draw, .int .i64 b.loss, .slice la b.nl lc, .bool b.again, .slice ga b.m gc, .slice qa b.nfa qc, .slice ta b.nta tc]
structure BkAt (w0 w : World) (B : Nat) (fa : Option Addr) (fc : Nat) (la : Option Addr) (lc : Nat) (ga : Option Addr) (gc : Nat) (qa : Option Addr) (qc : Nat) (ta : Option Addr) (tc : Nat) (b : BookD) : Prop where
  box : BoxN w B (bkList fa fc la lc ga gc qa qc ta tc b)
  row0 : BookRow w0 (.slice fa b.nf fc) (.slice la b.nl lc) (.slice ga b.m gc) (.slice qa b.nfa qc) (.slice ta b.nta tc) b
  bel : Below w0.heap.size w0 w
section
variable {w0 w w' : World} {B : Nat} {fa : Option Addr} {fc : Nat} {la : Option Addr} {lc : Nat} {ga : Option Addr} {gc : Nat} {qa : Option Addr} {qc : Nat} {ta : Option Addr} {tc : Nat} {b : BookD}
theorem BkAt.row (h : BkAt w0 w B fa fc la lc ga gc qa qc ta tc b) : BookRow w (.slice fa b.nf fc) (.slice la b.nl lc) (.slice ga b.m gc) (.slice qa b.nfa qc) (.slice ta b.nta tc) b := h.row0.below h.bel (Nat.le_refl _)
theorem BkAt.next (h : BkAt w0 w B fa fc la lc ga gc qa qc ta tc b) (hb : Below w.heap.size w w') : BkAt w0 w' B fa fc la lc ga gc qa qc ta tc b :=
  ⟨BoxN.below h.box hb, h.row0, h.bel.trans (hb.mono h.bel.size)⟩
theorem box_store {w : World} {B : Nat} {cs : List Value} (h : BoxN w B cs) {p : Addr} (hp : B ≠ p.block) (u : Value) : BoxN (w.setCell p u) B cs :=
  ⟨by have := h.1; simp; omega, fun j v hj => (World.cell?_of_block (w := w) (w' := w.setCell p u) (a := ⟨B, j, none⟩) (Below.heap_setCell w p u B hp)).trans (h.2 j v hj)⟩
theorem BkAt.store (h : BkAt w0 w B fa fc la lc ga gc qa qc ta tc b) {p : Addr} (hp : B ≠ p.block) (h0 : w0.heap.size ≤ p.block) (u : Value) : BkAt w0 (w.setCell p u) B fa fc la lc ga gc qa qc ta tc b :=
  ⟨box_store h.box hp u, h.row0, h.bel.setCell h0 u⟩
theorem BkAt.alloc (h : BkAt w0 w B fa fc la lc ga gc qa qc ta tc b) (o : Obj) : BkAt w0 (w.alloc o) B fa fc la lc ga gc qa qc ta tc b :=
  h.next ((Below.refl _ _).alloc (Nat.le_refl _) _)
theorem BkAt.made (h : BookRow w (.slice fa b.nf fc) (.slice la b.nl lc) (.slice ga b.m gc) (.slice qa b.nfa qc) (.slice ta b.nta tc) b) (t : TypeId) :
    BkAt w (w.alloc (.cells (bkList fa fc la lc ga gc qa qc ta tc b).toArray t)) w.heap.size fa fc la lc ga gc qa qc ta tc b :=
  ⟨BoxN.made (Below.refl _ _) rfl, h, (Below.refl _ _).alloc (Nat.le_refl _) _⟩
theorem BkAt.made2 {u : World} (h : BookRow w0 (.slice fa b.nf fc) (.slice la b.nl lc) (.slice ga b.m gc) (.slice qa b.nfa qc) (.slice ta b.nta tc) b) (hu : Below w0.heap.size w0 u) (t : TypeId) (hB : u.heap.size = B) :
    BkAt w0 (u.alloc (.cells (bkList fa fc la lc ga gc qa qc ta tc b).toArray t)) B fa fc la lc ga gc qa qc ta tc b :=
  ⟨BoxN.made (Below.refl _ _) hB, h, hu.trans (((Below.refl _ _).alloc (Nat.le_refl _) _).mono hu.size)⟩
theorem BkAt.grown {q : Nat} (h : BkAt w0 w B fa fc la lc ga gc qa qc ta tc b) (hg : w.grownBy w' (some q)) (hq : B < q) (h0 : w0.heap.size ≤ B) : BkAt w0 w' B fa fc la lc ga gc qa qc ta tc b :=
  ⟨⟨Nat.lt_of_lt_of_le h.box.1 hg.size, fun j v hj => hg.cell (h.box.2 j v hj) (by simp; omega)⟩, h.row0, h.bel.grown hg h.bel.size (fun k e => by cases e; omega)⟩
theorem code_named {P : Program} {c : Code} {Q : Exit → Act → World → Prop} {a : Act} {w : World} (h : ∀ w', Hid (w' = w) → Code.wp P c Q a w') : Code.wp P c Q a w := h w rfl
theorem BkAt.cells (h : BkAt w0 w B fa fc la lc ga gc qa qc ta tc b) :
    w.cell? ⟨B, 0, none⟩ = some (.slice fa b.nf fc) ∧ w.cell? ⟨B, 1, none⟩ = some (.int .i64 b.win) ∧ w.cell? ⟨B, 2, none⟩ = some (.int .i64 b.draw) ∧ w.cell? ⟨B, 3, none⟩ = some (.int .i64 b.loss) ∧ w.cell? ⟨B, 4, none⟩ = some (.slice la b.nl lc) ∧ w.cell? ⟨B, 5, none⟩ = some (.bool b.again) ∧ w.cell? ⟨B, 6, none⟩ = some (.slice ga b.m gc) ∧ w.cell? ⟨B, 7, none⟩ = some (.slice qa b.nfa qc) ∧ w.cell? ⟨B, 8, none⟩ = some (.slice ta b.nta tc) :=
  ⟨h.box.2 0 _ rfl, h.box.2 1 _ rfl, h.box.2 2 _ rfl, h.box.2 3 _ rfl, h.box.2 4 _ rfl, h.box.2 5 _ rfl, h.box.2 6 _ rfl, h.box.2 7 _ rfl, h.box.2 8 _ rfl⟩
theorem BkAt.lt (h : BkAt w0 w B fa fc la lc ga gc qa qc ta tc b) : B < w.heap.size := h.box.1
theorem BkAt.size (h : BkAt w0 w B fa fc la lc ga gc qa qc ta tc b) : w0.heap.size ≤ w.heap.size := h.bel.size
end
theorem BookRow.sixty {w : World} {vf vl vg vfa vta : Value} {b : BookD} (h : BookRow w vf vl vg vfa vta b) : (b.nf : Int) ≤ 9223372036854775807 ∧ (b.nl : Int) ≤ 9223372036854775807 ∧ (b.m : Int) ≤ 9223372036854775807 ∧ (b.nfa : Int) ≤ 9223372036854775807 ∧ (b.nta : Int) ≤ 9223372036854775807 := by
  obtain ⟨_, _, _, h1, _⟩ := h.1.form
  obtain ⟨_, _, _, h2, _⟩ := h.2.1.form
  obtain ⟨_, _, _, h3, _⟩ := h.2.2.1.form
  obtain ⟨_, _, _, h4, _⟩ := h.2.2.2.1.form
  obtain ⟨_, _, _, h5, _⟩ := h.2.2.2.2.form
  exact ⟨by omega, by omega, by omega, by omega, by omega⟩
end Go.Proofs.Ytmhkkdnopcdibaa
set_option linter.unusedVariables false
namespace Go.Proofs.Ytmhkkdnopcdibaa
open Go.RowKit

def valD (key : Int) (r : RowD) (tk fr sd : Int) : Int :=
  if key = 1 then wrap64 (r.points - tk) else if key = 5 then r.points else if key = 2 ∨ key = 6 then wrap64 (r.scored - r.against) else if key = 3 then r.scored else if key = 4 then r.wins else if key = 7 then wrap64 (-fr) else if key = 8 then wrap64 (-sd) else 0
def bookT (b : BookD) (key : Int) (gg : Nat → Int) (ng : Nat) : Nat → RowD := tabR b.win b.draw b.loss (selG (!mutualB key) gg ng) b.g b.m
def bookV (b : BookD) (key : Int) (gg : Nat → Int) (ng : Nat) (i : Nat) : Int := valD key (bookT b key gg ng i) (b.ta i) (b.fa i) (b.f i).seed
theorem row_of {w : World} {a : Option Addr} {c n j : Nat} {T : Nat → RowD} (h : RowRow w (.slice a n c) n T) (hj : j < n) : ∃ bo off, a = some ⟨bo, off, none⟩ ∧ n ≤ c ∧ CellsAt w bo (off + j * 7) (T j).cells := by
  obtain ⟨aa, cap, he, _, hc⟩ := h.form
  simp only [Value.slice.injEq, true_and] at he
  obtain ⟨bo, off, h1, h2, h3⟩ := hc (by omega)
  obtain ⟨rfl, rfl⟩ := he
  exact ⟨bo, off, h1, h2, h3 j hj⟩
def valsL (V : Nat → Int) (k : Nat) : List Int := (List.range k).map V
theorem valsL_succ (V : Nat → Int) (k : Nat) : valsL V (k + 1) = valsL V k ++ [V k] := by unfold valsL; rw [List.range_succ, List.map_append]; rfl
end Go.Proofs.Ytmhkkdnopcdibaa
set_option linter.unusedVariables false
namespace Go.Proofs.Ytmhkkdnopcdibaa
open Go.RowKit

def keyP (b : BookD) (team : Int) : Prop := bookP b ∧ 0 ≤ team ∧ team ≤ b.nf - 1
end Go.Proofs.Ytmhkkdnopcdibaa
set_option linter.unusedVariables false
namespace Go.Proofs.Ytmhkkdnopcdibaa
open Go.RowKit

def teamsP (n : Nat) (ng : Nat) (gg : Nat → Int) : Prop := ∀ i, i < ng → 0 ≤ gg i ∧ gg i ≤ (n : Int) - 1
end Go.Proofs.Ytmhkkdnopcdibaa
set_option linter.unusedVariables false
namespace Go.Proofs.Ytmhkkdnopcdibaa
open Go.RowKit

theorem Try.infoL : (Try.prog.info? 31).map (fun i => (i.zero, i.size, i.bytes)) = some (some (.slice none 0 0), 1, 24) := by kernel_rfl
theorem fresh_ne {w : World} {B : Nat} {e : TypeId} {sz : Nat} {v x : Value} {n : Nat} {xs : List Value} (hx : w.ownsRow B e sz x n xs) (ha : ApartV v x) {g : Nat} (hat : v.ownBlock = some g ∨ w.heap.size ≤ g) : x.ownBlock ≠ some g := fun e1 => by
  rcases hat with h | h
  · exact ha g h e1
  · have := (hx.lt g e1).2; omega
theorem apart_row {v x : Value} (ha : ApartV v x) : ∀ k, x.ownBlock = some k → v.ownBlock ≠ some k := fun k h1 h2 => ha k h2 h1
theorem kept_apart {w w' : World} {B : Nat} {e : TypeId} {sz : Nat} {v x : Value} {n : Nat} {xs : List Value} (hx : w.ownsRow B e sz x n xs) (ha : ApartV v x) (hg : w.grownBy w' v.ownBlock) : w'.ownsRow B e sz x n xs := by
  refine hx.kept hg ?_
  cases hk : x.ownBlock with
  | none => exact .inl rfl
  | some k => exact .inr fun e1 => apart_row ha k hk e1.symm
theorem SplitSt.apart {w : World} {B : Nat} {ov av : Value} {T : List (Int × Value × List Int)} (h : SplitSt w B ov av T) : ApartV ov av ∧ (∀ x ∈ T, ApartV ov x.2.1) ∧ ∀ x ∈ T, ApartV av x.2.1 := by
  have h1 := List.pairwise_cons.1 h.2.2.2
  have h2 := List.pairwise_cons.1 h1.2
  have hm : ∀ x ∈ T, x.2.1 ∈ T.map fun x => x.2.1 := fun x hx => List.mem_map.2 ⟨x, hx, rfl⟩
  exact ⟨h1.1 av (List.mem_cons_self ..), fun x hx => h1.1 _ (List.mem_cons_of_mem _ (hm x hx)), fun x hx => h2.1 _ (hm x hx)⟩
theorem SplitSt.grow1 {w w' : World} {B ga : Nat} {ov av : Value} {T : List (Int × Value × List Int)} (h : SplitSt w B ov av T) (hg : w.grownBy w' av.ownBlock) (hat : av.ownBlock = some ga ∨ w.heap.size ≤ ga) :
    w'.ownsRow B 31 1 ov T.length (T.map fun x => x.2.1) ∧ OwnT w' B 3 T ∧ (∀ x ∈ T, x.2.1.ownBlock ≠ some ga) ∧ ov.ownBlock ≠ some ga := by
  obtain ⟨a1, a2, a3⟩ := h.apart
  exact ⟨kept_apart h.1 a1.symm hg, fun x hx => kept_apart (h.2.2.1 x hx) (a3 x hx) hg, fun x hx => fresh_ne (h.2.2.1 x hx) (a3 x hx) hat, fresh_ne h.1 a1.symm hat⟩
theorem SplitSt.grow2 {w0 w w' : World} {B ga ca na go : Nat} {ov av : Value} {T : List (Int × Value × List Int)} {xs : List Value} (h0 : SplitSt w0 B ov av T) (hov : w.ownsRow B 31 1 ov T.length (T.map fun x => x.2.1)) (hT : OwnT w B 3 T)
    (ha : w.ownsRow B 3 1 (.slice (some ⟨ga, 0, none⟩) na ca) na xs) (hn : ov.ownBlock ≠ some ga) (hg : w.grownBy w' ov.ownBlock) (hat : ov.ownBlock = some go ∨ w.heap.size ≤ go) :
    w'.ownsRow B 3 1 (.slice (some ⟨ga, 0, none⟩) na ca) na xs ∧ OwnT w' B 3 T ∧ (∀ x ∈ T, x.2.1.ownBlock ≠ some go) ∧ go ≠ ga := by
  obtain ⟨a1, a2, a3⟩ := h0.apart
  have a4 : ApartV ov (.slice (some ⟨ga, 0, none⟩) na ca) := fun k h1 h2 => hn (by rw [h1]; simpa [Value.ownBlock] using h2.symm)
  refine ⟨kept_apart ha a4 hg, fun x hx => kept_apart (hT x hx) (a2 x hx) hg, fun x hx => fresh_ne (hT x hx) (a2 x hx) hat, fun e => ?_⟩
  exact fresh_ne ha a4 hat (by rw [e]; rfl)
theorem split_len {V : Nat → Int} {gg : Nat → Int} : ∀ k, (splitP V gg k).length ≤ k
  | 0 => Nat.le_refl _
  | k + 1 => by
    have h : ∀ v t (L : List (Int × List Int)), (insP v t L).length ≤ L.length + 1 := fun v t L => by
      induction L with
      | nil => simp [insP]
      | cons y L ih => unfold insP; split <;> (try split) <;> simp <;> omega
    have := h (V (gg k).toNat) (gg k) (splitP V gg k)
    have := split_len (V := V) (gg := gg) k
    show (insP _ _ _).length ≤ _
    omega
theorem split_lens {V : Nat → Int} {gg : Nat → Int} : ∀ k x, x ∈ splitP V gg k → x.2.length ≤ k
  | 0 => fun x hx => by simp [splitP] at hx
  | k + 1 => by
    have h : ∀ v t m (L : List (Int × List Int)), (∀ x ∈ L, x.2.length ≤ m) → ∀ x ∈ insP v t L, x.2.length ≤ m + 1 := fun v t m L => by
      induction L with
      | nil => intro _ x hx; simp [insP] at hx; subst hx; simp
      | cons y L ih =>
        intro h x hx
        have h0 := h y (List.mem_cons_self ..)
        have h1 := fun z hz => h z (List.mem_cons_of_mem y hz)
        unfold insP at hx
        split at hx
        · rcases List.mem_cons.1 hx with rfl | hx
          · exact Nat.le_succ_of_le h0
          · exact ih h1 x hx
        · split at hx
          · rcases List.mem_cons.1 hx with rfl | hx
            · simp; exact h0
            · exact Nat.le_succ_of_le (h1 x hx)
          · rcases List.mem_cons.1 hx with rfl | hx
            · simp
            · rcases List.mem_cons.1 hx with rfl | hx
              · exact Nat.le_succ_of_le h0
              · exact Nat.le_succ_of_le (h1 x hx)
    exact h _ _ k _ (split_lens k)
def datT (T : List (Int × Value × List Int)) : List (Int × List Int) := T.map fun x => (x.1, x.2.2)
theorem datT_lead (v : Int) (T : List (Int × Value × List Int)) : leadV Prod.fst v (datT T) = leadV Prod.fst v T := by
  induction T with
  | nil => rfl
  | cons y T ih =>
    show leadV Prod.fst v ((y.1, y.2.2) :: datT T) = _
    unfold leadV
    rw [ih]
theorem datT_get {T : List (Int × Value × List Int)} {j : Nat} {x : Int × Value × List Int} (h : T[j]? = some x) : (datT T)[j]? = some (x.1, x.2.2) := by
  unfold datT; rw [List.getElem?_map, h]; rfl
theorem datT_some {T : List (Int × Value × List Int)} {j : Nat} {x : Int × List Int} (h : (datT T)[j]? = some x) : ∃ iv, T[j]? = some (x.1, iv, x.2) := by
  unfold datT at h
  rw [List.getElem?_map] at h
  cases hT : T[j]? with
  | none => rw [hT] at h; cases h
  | some y => rw [hT] at h; simp only [Option.map_some, Option.some.injEq] at h; subst h; exact ⟨y.2.1, rfl⟩
theorem datT_set (T : List (Int × Value × List Int)) (j : Nat) (v : Int) (iv : Value) (p : List Int) : datT (T.set j (v, iv, p)) = (datT T).set j (v, p) := by
  unfold datT; rw [List.map_set]
theorem datT_gap (T : List (Int × Value × List Int)) (j : Nat) (v : Int) (iv : Value) (p : List Int) : datT (gapA T j (v, iv, p)) = gapA (datT T) j (v, p) := by
  unfold datT; rw [gapA_map]
theorem ints_at {w : World} {B n : Nat} {v : Value} {L : List Int} {j : Nat} {x : Int} (h : w.ownsRow B 3 1 v n (L.map (Value.int .i64))) (hj : L[j]? = some x) :
    ∃ g c, v = .slice (some ⟨g, 0, none⟩) n c ∧ n ≤ c ∧ j < n ∧ w.cell? ⟨g, j, none⟩ = some (.int .i64 x) := by
  have hl := h.1
  have hjl : j < L.length := (List.getElem?_eq_some_iff.1 hj).1
  simp at hl
  rcases h.2 with ⟨_, h0⟩ | ⟨g, cap, cur, rfl, hb, hg, hnc, rest⟩
  · omega
  · refine ⟨g, cap, rfl, hnc, by omega, ?_⟩
    rw [h.cellAt j (by omega), List.getElem?_map, hj]
    rfl
theorem vals_at {w : World} {B n : Nat} {e : TypeId} {v : Value} {L : List Value} {j : Nat} {x : Value} (h : w.ownsRow B e 1 v n L) (hj : L[j]? = some x) :
    ∃ g c, v = .slice (some ⟨g, 0, none⟩) n c ∧ n ≤ c ∧ j < n ∧ w.cell? ⟨g, j, none⟩ = some x := by
  have hl := h.1
  have hjl : j < L.length := (List.getElem?_eq_some_iff.1 hj).1
  rcases h.2 with ⟨_, h0⟩ | ⟨g, cap, cur, rfl, hb, hg, hnc, rest⟩
  · omega
  · refine ⟨g, cap, rfl, hnc, by omega, ?_⟩
    rw [h.cellAt j (by omega), hj]
end Go.Proofs.Ytmhkkdnopcdibaa
set_option linter.unusedVariables false
namespace Go.Proofs.Ytmhkkdnopcdibaa
open Go.RowKit

theorem leadV_map {α β : Type} (h : α → β) (f : β → Int) (v : Int) : ∀ L : List α, leadV f v (L.map h) = leadV (fun x => f (h x)) v L
  | [] => rfl
  | y :: L => by
    rw [List.map_cons]
    unfold leadV
    rw [leadV_map h f v L]
def lenS (L : List (Int × List Int)) : Nat := (L.map fun x => x.2.length).sum
theorem insP_sum (v t : Int) : ∀ L, lenS (insP v t L) = lenS L + 1
  | [] => rfl
  | (u, p) :: r => by
    have ih := insP_sum v t r
    unfold lenS at ih ⊢
    unfold insP
    split
    · simp only [List.map_cons, List.sum_cons, ih]; omega
    · split
      · simp only [List.map_cons, List.sum_cons, List.length_append, List.length_cons, List.length_nil]; omega
      · simp only [List.map_cons, List.sum_cons, List.length_cons, List.length_nil]; omega
theorem insP_ne (v t : Int) : ∀ L : List (Int × List Int), (∀ x ∈ L, x.2 ≠ []) → ∀ x ∈ insP v t L, x.2 ≠ []
  | [], _, x, hx => by
    unfold insP at hx
    rw [List.mem_singleton.1 hx]; simp
  | (u, p) :: r, h, x, hx => by
    unfold insP at hx
    have hr : ∀ x ∈ r, x.2 ≠ [] := fun x hx => h x (List.mem_cons_of_mem _ hx)
    split at hx
    · rcases List.mem_cons.1 hx with rfl | hx
      · exact h _ (List.mem_cons_self ..)
      · exact insP_ne v t r hr x hx
    · split at hx
      · rcases List.mem_cons.1 hx with rfl | hx
        · simp
        · exact hr x hx
      · rcases List.mem_cons.1 hx with rfl | hx
        · simp
        · exact h x hx
theorem insP_mem (v t : Int) : ∀ L : List (Int × List Int), ∀ x ∈ insP v t L, ∀ u ∈ x.2, u = t ∨ ∃ y ∈ L, u ∈ y.2
  | [], x, hx, u, hu => by
    unfold insP at hx
    rw [List.mem_singleton.1 hx] at hu
    exact .inl (List.mem_singleton.1 hu)
  | (q, p) :: r, x, hx, u, hu => by
    unfold insP at hx
    split at hx
    · rcases List.mem_cons.1 hx with rfl | hx
      · exact .inr ⟨_, List.mem_cons_self .., hu⟩
      · rcases insP_mem v t r x hx u hu with h | ⟨y, hy, h⟩
        · exact .inl h
        · exact .inr ⟨y, List.mem_cons_of_mem _ hy, h⟩
    · split at hx
      · rcases List.mem_cons.1 hx with rfl | hx
        · rcases List.mem_append.1 hu with h | h
          · exact .inr ⟨_, List.mem_cons_self .., h⟩
          · exact .inl (List.mem_singleton.1 h)
        · exact .inr ⟨x, List.mem_cons_of_mem _ hx, hu⟩
      · rcases List.mem_cons.1 hx with rfl | hx
        · exact .inl (List.mem_singleton.1 hu)
        · exact .inr ⟨x, hx, hu⟩
theorem insP_len (v t : Int) : ∀ L, (insP v t L).length ≤ L.length + 1
  | [] => Nat.le_refl _
  | (u, p) :: r => by
    have ih := insP_len v t r
    unfold insP
    split
    · simp only [List.length_cons]; omega
    · split
      · simp only [List.length_cons]; omega
      · simp only [List.length_cons]; omega
section
variable (V gg : Nat → Int)
theorem splitP_sum : ∀ k, lenS (splitP V gg k) = k
  | 0 => rfl
  | k + 1 => by unfold splitP; rw [insP_sum, splitP_sum k]
theorem splitP_ne : ∀ k, ∀ x ∈ splitP V gg k, x.2 ≠ []
  | 0, x, hx => by cases hx
  | k + 1, x, hx => insP_ne _ _ _ (splitP_ne k) x hx
theorem splitP_mem : ∀ k, ∀ x ∈ splitP V gg k, ∀ u ∈ x.2, ∃ i, i < k ∧ u = gg i
  | 0, x, hx => by cases hx
  | k + 1, x, hx => fun u hu => by
    rcases insP_mem _ _ _ x hx u hu with h | ⟨y, hy, h⟩
    · exact ⟨k, Nat.lt_succ_self _, h⟩
    · obtain ⟨i, hi, e⟩ := splitP_mem k y hy u h
      exact ⟨i, by omega, e⟩
theorem splitP_len : ∀ k, (splitP V gg k).length ≤ k
  | 0 => Nat.le_refl _
  | k + 1 => by unfold splitP; have := insP_len (V (gg k).toNat) (gg k) (splitP V gg k); have := splitP_len k; omega
theorem splitP_congr {V' gg' : Nat → Int} : ∀ k, (∀ i, i < k → gg i = gg' i) → (∀ i, V i = V' i) → splitP V gg k = splitP V' gg' k
  | 0, _, _ => rfl
  | k + 1, h, hV => by
    unfold splitP
    rw [splitP_congr k (fun i hi => h i (by omega)) hV, h k (Nat.lt_succ_self _), hV]
end
theorem part_le {L : List (Int × List Int)} {x : Int × List Int} (h : x ∈ L) : x.2.length ≤ lenS L := by
  induction L with
  | nil => cases h
  | cons y L ih =>
    unfold lenS at ih ⊢
    rw [List.map_cons, List.sum_cons]
    rcases List.mem_cons.1 h with rfl | h
    · omega
    · have := ih h; omega
theorem sum_pos {L : List (Int × List Int)} (hne : ∀ x ∈ L, x.2 ≠ []) (h : L ≠ []) : 0 < lenS L := by
  cases L with
  | nil => exact absurd rfl h
  | cons y L =>
    unfold lenS
    rw [List.map_cons, List.sum_cons]
    have := List.length_pos_iff.2 (hne y (List.mem_cons_self ..))
    omega
theorem part_lt {L : List (Int × List Int)} {x : Int × List Int} (hne : ∀ x ∈ L, x.2 ≠ []) (h : x ∈ L) (hl : 1 < L.length) : x.2.length < lenS L := by
  cases L with
  | nil => cases h
  | cons y L =>
    have hL : L ≠ [] := by intro e; subst e; simp at hl
    have hp := sum_pos (fun x hx => hne x (List.mem_cons_of_mem _ hx)) hL
    have hy := List.length_pos_iff.2 (hne y (List.mem_cons_self ..))
    rcases List.mem_cons.1 h with rfl | h
    · unfold lenS at hp ⊢; rw [List.map_cons, List.sum_cons]; omega
    · have := part_le h
      unfold lenS at this ⊢; rw [List.map_cons, List.sum_cons]; omega
def partsL (b : BookD) (key : Int) (gg : Nat → Int) (n : Nat) : List (List Int) := (splitP (bookV b key gg n) gg n).map Prod.snd
theorem partsL_le {b : BookD} {key : Int} {gg : Nat → Int} {n : Nat} {p : List Int} (h : p ∈ partsL b key gg n) : p.length ≤ n := by
  obtain ⟨x, hx, rfl⟩ := List.mem_map.1 h
  have := part_le hx
  rw [splitP_sum] at this
  exact this
theorem partsL_lt {b : BookD} {key : Int} {gg : Nat → Int} {n : Nat} {p : List Int} (h : p ∈ partsL b key gg n) (hl : 1 < (partsL b key gg n).length) : p.length < n := by
  obtain ⟨x, hx, rfl⟩ := List.mem_map.1 h
  have := part_lt (splitP_ne _ _ _) hx (by unfold partsL at hl; rwa [List.length_map] at hl)
  rw [splitP_sum] at this
  exact this
theorem partsL_ne {b : BookD} {key : Int} {gg : Nat → Int} {n : Nat} {p : List Int} (h : p ∈ partsL b key gg n) : p ≠ [] := by
  obtain ⟨x, hx, rfl⟩ := List.mem_map.1 h
  exact splitP_ne _ _ _ x hx
theorem partsL_mem {b : BookD} {key : Int} {gg : Nat → Int} {n : Nat} {p : List Int} (h : p ∈ partsL b key gg n) : ∀ u ∈ p, ∃ i, i < n ∧ u = gg i := by
  obtain ⟨x, hx, rfl⟩ := List.mem_map.1 h
  exact splitP_mem _ _ _ x hx
theorem partsL_len {b : BookD} {key : Int} {gg : Nat → Int} {n : Nat} : (partsL b key gg n).length ≤ n := by
  unfold partsL; rw [List.length_map]; exact splitP_len _ _ _
def rankM (nl n s : Nat) : Nat := n * (nl + 1) + (nl - s)
def nextS (b : BookD) (m s : Nat) : Nat := if 1 < m ∧ b.again = true ∧ mutualB (b.l s) = true then 0 else s + 1
def rankF (b : BookD) : Nat → List Int → Nat → List (List Int)
  | 0, _, _ => []
  | f + 1, G, s => if G = [] then [] else if G.length = 1 ∨ b.nl ≤ s then [G] else
      (partsL b (b.l s) (getI G) G.length).flatMap fun p => rankF b f p (nextS b (partsL b (b.l s) (getI G) G.length).length s)
theorem rankM_lt {b : BookD} {G p : List Int} {s : Nat} (hs : s < b.nl) (h : p ∈ partsL b (b.l s) (getI G) G.length) :
    rankM b.nl p.length (nextS b (partsL b (b.l s) (getI G) G.length).length s) < rankM b.nl G.length s := by
  unfold rankM nextS
  have h1 := partsL_le h
  split
  · next hh =>
    have h2 := partsL_lt h hh.1
    have h3 : (p.length + 1) * (b.nl + 1) ≤ G.length * (b.nl + 1) := Nat.mul_le_mul_right _ h2
    have h4 : (p.length + 1) * (b.nl + 1) = p.length * (b.nl + 1) + (b.nl + 1) := Nat.succ_mul _ _
    omega
  · have h3 : p.length * (b.nl + 1) ≤ G.length * (b.nl + 1) := Nat.mul_le_mul_right _ h1
    omega
theorem rankF_fuel (b : BookD) : ∀ f f' G s, rankM b.nl G.length s < f → rankM b.nl G.length s < f' → rankF b f G s = rankF b f' G s
  | 0, _, _, _, h, _ => absurd h (Nat.not_lt_zero _)
  | _ + 1, 0, _, _, _, h => absurd h (Nat.not_lt_zero _)
  | f + 1, f' + 1, G, s, h, h' => by
    unfold rankF
    by_cases hG : G = []
    · rw [if_pos hG, if_pos hG]
    · rw [if_neg hG, if_neg hG]
      by_cases hs : G.length = 1 ∨ b.nl ≤ s
      · rw [if_pos hs, if_pos hs]
      · rw [if_neg hs, if_neg hs, List.flatMap_def, List.flatMap_def]
        congr 1
        refine List.map_congr_left fun p hp => ?_
        have := rankM_lt (b := b) (s := s) (by omega) hp
        exact rankF_fuel b f f' p _ (by omega) (by omega)
def rankP (b : BookD) (G : List Int) (s : Nat) : List (List Int) := rankF b (rankM b.nl G.length s + 1) G s
theorem rankP_nil (b : BookD) (s : Nat) : rankP b [] s = [] := by
  unfold rankP rankF; rw [if_pos rfl]
theorem rankP_one (b : BookD) {G : List Int} {s : Nat} (hG : G ≠ []) (h : G.length = 1 ∨ b.nl ≤ s) : rankP b G s = [G] := by
  unfold rankP rankF; rw [if_neg hG, if_pos h]
theorem rankP_step (b : BookD) {G : List Int} {s : Nat} (hG : G ≠ []) (h1 : G.length ≠ 1) (hs : s < b.nl) :
    rankP b G s = (partsL b (b.l s) (getI G) G.length).flatMap fun p => rankP b p (nextS b (partsL b (b.l s) (getI G) G.length).length s) := by
  unfold rankP
  conv => lhs; unfold rankF
  rw [if_neg hG, if_neg (by omega), List.flatMap_def, List.flatMap_def]
  congr 1
  refine List.map_congr_left fun p hp => ?_
  exact rankF_fuel b _ _ p _ (rankM_lt hs hp) (Nat.lt_succ_self _)
end Go.Proofs.Ytmhkkdnopcdibaa
set_option linter.unusedVariables false
namespace Go.Proofs.Ytmhkkdnopcdibaa
open Go.RowKit

theorem rankP_ind (b : BookD) {P : List Int → Nat → List (List Int) → Prop} (h0 : ∀ s, P [] s []) (h1 : ∀ G s, G ≠ [] → (G.length = 1 ∨ b.nl ≤ s) → P G s [G])
    (h2 : ∀ G s, G ≠ [] → G.length ≠ 1 → s < b.nl → (∀ p ∈ partsL b (b.l s) (getI G) G.length, P p (nextS b (partsL b (b.l s) (getI G) G.length).length s) (rankP b p (nextS b (partsL b (b.l s) (getI G) G.length).length s))) → P G s (rankP b G s)) : ∀ G s, P G s (rankP b G s) := by
  have H : ∀ m G s, rankM b.nl G.length s < m → P G s (rankP b G s) := by
    intro m
    induction m with
    | zero => intro G s h; exact absurd h (Nat.not_lt_zero _)
    | succ m ih =>
      intro G s h
      by_cases hG : G = []
      · subst hG; rw [rankP_nil]; exact h0 s
      by_cases hs : G.length = 1 ∨ b.nl ≤ s
      · rw [rankP_one b hG hs]; exact h1 G s hG hs
      · exact h2 G s hG (by omega) (by omega) fun p hp => ih p _ (by have := rankM_lt (b := b) (G := G) (s := s) (by omega) hp; omega)
  exact fun G s => H _ G s (Nat.lt_succ_self _)
theorem parts_sum (b : BookD) (key : Int) (gg : Nat → Int) (n : Nat) : ((partsL b key gg n).map List.length).sum = n := by
  have h := splitP_sum (bookV b key gg n) gg n
  unfold lenS at h
  unfold partsL
  rw [List.map_map]
  exact h
theorem flat_le {f g : List Int → Nat} : ∀ (L : List (List Int)), (∀ p ∈ L, f p ≤ g p) → (L.map f).sum ≤ (L.map g).sum
  | [], _ => Nat.le_refl _
  | p :: L, h => by
    have h1 := flat_le (f := f) (g := g) L fun q hq => h q (List.mem_cons_of_mem _ hq)
    have h2 := h p (List.mem_cons_self ..)
    simp only [List.map_cons, List.sum_cons]
    omega
theorem rankP_len (b : BookD) : ∀ G s, (rankP b G s).length ≤ G.length := by
  refine rankP_ind b (P := fun G _ L => L.length ≤ G.length) (fun s => by simp) (fun G s hG _ => ?_) fun G s hG h1 hs ih => ?_
  · have := List.length_pos_iff.2 hG
    simp; omega
  · show (rankP b G s).length ≤ G.length
    rw [rankP_step b hG h1 hs, List.length_flatMap]
    refine Nat.le_trans (flat_le (g := List.length) _ fun p hp => ih p hp) ?_
    rw [parts_sum]
    exact Nat.le_refl _
theorem take_flat {α β : Type} (f : α → List β) (L : List α) (k : Nat) : ((L.take k).flatMap f).length ≤ (L.flatMap f).length := by
  conv => rhs; rw [← List.take_append_drop k L, List.flatMap_append, List.length_append]
  omega
theorem take_flat_succ {α β : Type} (f : α → List β) (L : List α) (k : Nat) {x : α} (h : L[k]? = some x) : (L.take (k + 1)).flatMap f = (L.take k).flatMap f ++ f x := by
  obtain ⟨hk, rfl⟩ := List.getElem?_eq_some_iff.1 h
  rw [← List.take_append_getElem hk, List.flatMap_append]
  simp
theorem getI_range (G : List Int) : ((List.range G.length).map fun j => Value.int .i64 (getI G j)) = G.map (Value.int .i64) := by
  apply List.ext_getElem?
  intro j
  rw [List.getElem?_map, List.getElem?_map]
  by_cases hj : j < G.length
  · rw [List.getElem?_range hj, List.getElem?_eq_getElem hj]
    simp [getI, hj]
  · rw [List.getElem?_eq_none (by simp; omega), List.getElem?_eq_none (by omega)]
    rfl
theorem LL.rec {w : World} {B : Nat} {v : Value} {T : List (Value × List Int)} (h : LL w B v T) (hn : T.length ≤ 9223372036854775807) :
    ∃ g, RecRow 1 w v T.length g ∧ (∀ i, i < T.length → (g i).length = 1) ∧ (∀ i, i < T.length → ∀ u ∈ g i, u.oneCell' = true) ∧ flatR g T.length = T.map Prod.fst := by
  refine ⟨fun i => [(T.map Prod.fst).getD i undef], RecRow.of_owns h.1 hn (fun i hi j u hu => ?_) (fun _ _ => by simp), fun _ _ => by simp, fun i hi u hu => ?_, ?_⟩
  · cases j with
    | zero =>
      simp only [List.getElem?_cons_zero, Option.some.injEq] at hu
      subst hu
      rw [Nat.mul_one, Nat.add_zero, List.getD_eq_getElem?_getD, List.getElem?_eq_getElem (by simpa using hi)]
      rfl
    | succ j => simp at hu
  · rw [List.mem_singleton.1 hu, List.getD_eq_getElem?_getD, List.getElem?_eq_getElem (by simpa using hi)]
    simp only [List.getElem_map, Option.getD_some]
    exact one_of_slice (h.2.1 _ (List.getElem_mem hi))
  · unfold flatR
    apply List.ext_getElem?
    intro j
    have e : ∀ n, (List.range n).flatMap (fun i => [(T.map Prod.fst).getD i undef]) = (List.range n).map fun i => (T.map Prod.fst).getD i undef := fun n => by
      induction n with
      | zero => rfl
      | succ n ih => rw [List.range_succ, List.flatMap_append, List.map_append, ih]; simp
    rw [e, List.getElem?_map]
    by_cases hj : j < T.length
    · rw [List.getElem?_range hj]
      simp [hj]
    · rw [List.getElem?_eq_none (by simp; omega), List.getElem?_eq_none (by simp; omega)]
      rfl
theorem LL.nil {w : World} : LL (w.alloc (.cells #[] 31)) w.heap.size (.slice (some ⟨w.heap.size, 0, none⟩) 0 0) [] :=
  ⟨World.ownsRow_lit (e := 31) (size := 1) w #[] 0 (Nat.le_refl _) (by decide) rfl, ⟨(fun x hx => by cases hx), (by unfold ApartL; simp)⟩⟩
theorem LL.one {w : World} {B : Nat} {v : Value} {G : List Int} (h : w.ownsRow B 3 1 v G.length (G.map (Value.int .i64))) (hB : B ≤ w.heap.size) : LL (w.alloc (.cells #[v] 31)) B (.slice (some ⟨w.heap.size, 0, none⟩) 1 1) [(v, G)] := by
  refine ⟨owns_mono (World.ownsRow_lit (e := 31) (size := 1) w #[v] 1 (Nat.le_refl _) (by decide) rfl) hB, fun x hx => ?_, ?_⟩
  · rw [List.mem_singleton.1 hx]
    exact h.alloc _
  · refine List.pairwise_cons.2 ⟨fun z hz => ?_, by simp⟩
    rw [List.mem_singleton.1 hz]
    intro k h1 h2
    have := (h.lt k h2).2
    have h3 : w.heap.size = k := by simpa [Value.ownBlock] using h1
    omega
end Go.Proofs.Ytmhkkdnopcdibaa
