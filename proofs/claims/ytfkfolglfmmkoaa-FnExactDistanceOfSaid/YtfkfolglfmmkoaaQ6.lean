/-
  Packed: RankSpec2, RsnFacts, StepClone, TeamRec, TypeNote, Records, Records2, Records3, Records4, Records5, NotesList, Canon, Apply, RulesImpl, Cur, OrdersImpl, Decisive.
-/
import Derived.Deep.RegionHeld3
import Derived.Test.YtfkfolglfmmkoaaProg
import Derived.Lib.Hide
import Derived.Outline
import Derived.Deep.QuietTactic
import Derived.BigQuiet
import Derived.Test.YtfkfolglfmmkoaaQ1
import Derived.Test.YtfkfolglfmmkoaaQ3
import Derived.Test.YtfkfolglfmmkoaaQ4
import Derived.Test.YtfkfolglfmmkoaaQ5
set_option linter.unusedVariables false
namespace Go.Proofs.Ytfkfolglfmmkoaa
open Go.RowKit

theorem rank_ne (b : BookD) : ∀ G s, ∀ p ∈ rankP b G s, p ≠ [] := by
  refine rankP_ind b (P := fun _ _ L => ∀ p ∈ L, p ≠ []) (fun s p hp => by cases hp) (fun G s hG _ p hp => ?_) (fun G s hG h1 hs ih p hp => ?_)
  · simp only [List.mem_singleton] at hp; subst hp; exact hG
  · rw [rankP_step b hG h1 hs] at hp
    obtain ⟨q, hq, hpq⟩ := List.mem_flatMap.1 hp
    exact ih q hq p hpq
theorem flat_take {α : Type} (L : List (List α)) (k : Nat) {x : List α} (h : L[k]? = some x) : (L.take (k + 1)).flatten = (L.take k).flatten ++ x := by
  simp [List.take_add_one, h, List.flatten_append]
theorem flat_take_le {α : Type} (L : List (List α)) (k : Nat) : (L.take k).flatten.length ≤ L.flatten.length := by
  have h := congrArg List.length (congrArg List.flatten (List.take_append_drop k L))
  rw [List.flatten_append, List.length_append] at h
  omega
theorem all_flat (b : BookD) : (rankP b (allL b.nf) 0).flatten.length = b.nf := by rw [(rank_perm b (allL b.nf) 0).length_eq, allL_len]

end Go.Proofs.Ytfkfolglfmmkoaa
set_option linter.unusedVariables false
namespace Go.Proofs.Ytfkfolglfmmkoaa
open Go.RowKit

structure RsnD where
  key : Int
  grp : List Int
  first : Int
  other : Int
def rsn0 : RsnD := ⟨0, [], 0, 0⟩
def hitL (x y : Int) (L : List (List Int)) : Option (List Int) := L.find? fun p => decide (x ∈ p ∨ y ∈ p)
theorem hit_at {x y : Int} {L : List (List Int)} {k : Nat} {p : List Int} (hk : L[k]? = some p) (hp : x ∈ p ∨ y ∈ p) (h : ∀ j q, j < k → L[j]? = some q → ¬ (x ∈ q ∨ y ∈ q)) : hitL x y L = some p := by
  obtain ⟨hl, rfl⟩ := List.getElem?_eq_some_iff.1 hk
  unfold hitL
  rw [List.find?_eq_some_iff_getElem]
  refine ⟨decide_eq_true hp, k, hl, rfl, fun j hj => ?_⟩
  have := h j L[j] hj (List.getElem?_eq_getElem (by omega))
  simpa using this
theorem hit_none {x y : Int} {L : List (List Int)} (h : ∀ j q, j < L.length → L[j]? = some q → ¬ (x ∈ q ∨ y ∈ q)) : hitL x y L = none := by
  unfold hitL
  rw [List.find?_eq_none]
  intro q hq
  obtain ⟨j, hj, rfl⟩ := List.getElem_of_mem hq
  simpa using h j _ hj (List.getElem?_eq_getElem hj)
theorem hit_mem {x y : Int} {L : List (List Int)} {p : List Int} (h : hitL x y L = some p) : p ∈ L := List.mem_of_find?_eq_some h
theorem hit_has {x y : Int} {L : List (List Int)} {p : List Int} (h : hitL x y L = some p) : x ∈ p ∨ y ∈ p := by
  have := List.find?_some h
  simpa using this
def findF (b : BookD) (x y : Int) : Nat → List Int → Nat → Option RsnD
  | 0, _, _ => none
  | f + 1, G, s => if b.nl ≤ s then none else
      match hitL x y (partsL b (b.l s) (getI G) G.length) with
      | none => none
      | some p => if x ∈ p ∧ y ∈ p then findF b x y f p (nextS b (partsL b (b.l s) (getI G) G.length).length s)
          else some ⟨b.l s, G, bookV b (b.l s) (getI G) G.length x.toNat, bookV b (b.l s) (getI G) G.length y.toNat⟩
theorem findF_fuel (b : BookD) (x y : Int) : ∀ f f' G s, rankM b.nl G.length s < f → rankM b.nl G.length s < f' → findF b x y f G s = findF b x y f' G s
  | 0, _, _, _, h, _ => absurd h (Nat.not_lt_zero _)
  | _ + 1, 0, _, _, _, h => absurd h (Nat.not_lt_zero _)
  | f + 1, f' + 1, G, s, h, h' => by
    unfold findF
    by_cases hs : b.nl ≤ s
    · rw [if_pos hs, if_pos hs]
    · rw [if_neg hs, if_neg hs]
      cases hp : hitL x y (partsL b (b.l s) (getI G) G.length) with
      | none => rfl
      | some p =>
        have := rankM_lt (b := b) (s := s) (by omega) (hit_mem hp)
        show (if _ then _ else _) = (if _ then _ else _)
        rw [findF_fuel b x y f f' p _ (by omega) (by omega)]
def findP (b : BookD) (x y : Int) (G : List Int) (s : Nat) : Option RsnD := findF b x y (rankM b.nl G.length s + 1) G s
theorem findP_end (b : BookD) (x y : Int) {G : List Int} {s : Nat} (h : b.nl ≤ s) : findP b x y G s = none := by
  unfold findP findF; rw [if_pos h]
theorem findP_none (b : BookD) {x y : Int} {G : List Int} {s : Nat} (h : hitL x y (partsL b (b.l s) (getI G) G.length) = none) : findP b x y G s = none := by
  unfold findP findF; rw [h]; simp
theorem findP_here (b : BookD) {x y : Int} {G p : List Int} {s : Nat} (hs : s < b.nl) (h : hitL x y (partsL b (b.l s) (getI G) G.length) = some p) (hp : ¬ (x ∈ p ∧ y ∈ p)) :
    findP b x y G s = some ⟨b.l s, G, bookV b (b.l s) (getI G) G.length x.toNat, bookV b (b.l s) (getI G) G.length y.toNat⟩ := by
  unfold findP findF; rw [h, if_neg (by omega)]; simp only [hp, if_false]
theorem findP_on (b : BookD) {x y : Int} {G p : List Int} {s : Nat} (hs : s < b.nl) (h : hitL x y (partsL b (b.l s) (getI G) G.length) = some p) (hp : x ∈ p ∧ y ∈ p) :
    findP b x y G s = findP b x y p (nextS b (partsL b (b.l s) (getI G) G.length).length s) := by
  unfold findP
  conv => lhs; unfold findF
  rw [h, if_neg (by omega)]
  simp only [hp, and_self, if_true]
  exact findF_fuel b x y _ _ p _ (rankM_lt hs (hit_mem h)) (Nat.lt_succ_self _)
theorem findP_ind (b : BookD) (x y : Int) {P : List Int → Nat → Option RsnD → Prop} (h0 : ∀ G s, b.nl ≤ s → P G s none) (h1 : ∀ G s, s < b.nl → hitL x y (partsL b (b.l s) (getI G) G.length) = none → P G s none)
    (h2 : ∀ G s p, s < b.nl → hitL x y (partsL b (b.l s) (getI G) G.length) = some p → ¬ (x ∈ p ∧ y ∈ p) → P G s (some ⟨b.l s, G, bookV b (b.l s) (getI G) G.length x.toNat, bookV b (b.l s) (getI G) G.length y.toNat⟩))
    (h3 : ∀ G s p, s < b.nl → hitL x y (partsL b (b.l s) (getI G) G.length) = some p → (x ∈ p ∧ y ∈ p) → P p (nextS b (partsL b (b.l s) (getI G) G.length).length s) (findP b x y p (nextS b (partsL b (b.l s) (getI G) G.length).length s)) → P G s (findP b x y G s)) : ∀ G s, P G s (findP b x y G s) := by
  have H : ∀ m G s, rankM b.nl G.length s < m → P G s (findP b x y G s) := by
    intro m
    induction m with
    | zero => intro G s h; exact absurd h (Nat.not_lt_zero _)
    | succ m ih =>
      intro G s h
      by_cases hs : b.nl ≤ s
      · rw [findP_end b x y hs]; exact h0 G s hs
      cases hp : hitL x y (partsL b (b.l s) (getI G) G.length) with
      | none => rw [findP_none b hp]; exact h1 G s (by omega) hp
      | some p =>
        by_cases hh : x ∈ p ∧ y ∈ p
        · exact h3 G s p (by omega) hp hh (ih p _ (by have := rankM_lt (b := b) (s := s) (by omega) (hit_mem hp); omega))
        · rw [findP_here b (by omega) hp hh]; exact h2 G s p (by omega) hp hh
  exact fun G s => H _ G s (Nat.lt_succ_self _)
theorem findP_len (b : BookD) (x y : Int) : ∀ G s, ∀ r, findP b x y G s = some r → r.grp.length ≤ G.length := by
  refine findP_ind b x y (P := fun G _ o => ∀ r, o = some r → r.grp.length ≤ G.length) (fun _ _ _ _ h => by cases h) (fun _ _ _ _ _ h => by cases h) (fun G s p _ _ _ r h => by cases h; exact Nat.le_refl _) (fun G s p _ hp _ ih r h => ?_)
  rw [findP_on b ‹_› hp ‹_›] at h
  exact Nat.le_trans (ih r h) (partsL_le (hit_mem hp))

def partO (t : Int) (L : List (List Int)) : Option (List Int) := hitL t t L
def stepF (b : BookD) (t : Int) : Nat → List Int → Nat → List Int
  | 0, _, _ => []
  | f + 1, G, s => if G.length < 2 ∨ b.nl ≤ s then [] else
      if (partsL b (b.l s) (getI G) G.length).length = 1 then stepF b t f G (s + 1) else
        b.l s :: match partO t (partsL b (b.l s) (getI G) G.length) with
          | none => []
          | some p => stepF b t f p (nextS b (partsL b (b.l s) (getI G) G.length).length s)
theorem stepM_lt {nl n s : Nat} (hs : s < nl) : rankM nl n (s + 1) < rankM nl n s := by unfold rankM; omega
theorem stepF_fuel (b : BookD) (t : Int) : ∀ f f' G s, rankM b.nl G.length s < f → rankM b.nl G.length s < f' → stepF b t f G s = stepF b t f' G s
  | 0, _, _, _, h, _ => absurd h (Nat.not_lt_zero _)
  | _ + 1, 0, _, _, _, h => absurd h (Nat.not_lt_zero _)
  | f + 1, f' + 1, G, s, h, h' => by
    unfold stepF
    by_cases hs : G.length < 2 ∨ b.nl ≤ s
    · rw [if_pos hs, if_pos hs]
    · rw [if_neg hs, if_neg hs]
      have h8 := stepM_lt (nl := b.nl) (n := G.length) (s := s) (by omega)
      rw [stepF_fuel b t f f' G (s + 1) (by omega) (by omega)]
      cases hp : partO t (partsL b (b.l s) (getI G) G.length) with
      | none => rfl
      | some p =>
        have := rankM_lt (b := b) (s := s) (by omega) (hit_mem hp)
        show (if _ then _ else _ :: stepF b t f p _) = (if _ then _ else _ :: stepF b t f' p _)
        rw [stepF_fuel b t f f' p _ (by omega) (by omega)]
def stepP (b : BookD) (t : Int) (G : List Int) (s : Nat) : List Int := stepF b t (rankM b.nl G.length s + 1) G s
theorem stepP_end (b : BookD) (t : Int) {G : List Int} {s : Nat} (h : G.length < 2 ∨ b.nl ≤ s) : stepP b t G s = [] := by
  unfold stepP stepF; rw [if_pos h]
theorem stepP_one (b : BookD) (t : Int) {G : List Int} {s : Nat} (h1 : ¬ G.length < 2) (hs : s < b.nl) (h : (partsL b (b.l s) (getI G) G.length).length = 1) : stepP b t G s = stepP b t G (s + 1) := by
  unfold stepP
  conv => lhs; unfold stepF
  rw [if_neg (by omega), if_pos h]
  exact stepF_fuel b t _ _ G _ (stepM_lt hs) (Nat.lt_succ_self _)
theorem stepP_none (b : BookD) {t : Int} {G : List Int} {s : Nat} (h1 : ¬ G.length < 2) (hs : s < b.nl) (h : (partsL b (b.l s) (getI G) G.length).length ≠ 1) (hp : partO t (partsL b (b.l s) (getI G) G.length) = none) : stepP b t G s = [b.l s] := by
  unfold stepP stepF
  rw [if_neg (by omega), if_neg h, hp]
theorem stepP_on (b : BookD) {t : Int} {G p : List Int} {s : Nat} (h1 : ¬ G.length < 2) (hs : s < b.nl) (h : (partsL b (b.l s) (getI G) G.length).length ≠ 1) (hp : partO t (partsL b (b.l s) (getI G) G.length) = some p) :
    stepP b t G s = b.l s :: stepP b t p (nextS b (partsL b (b.l s) (getI G) G.length).length s) := by
  unfold stepP
  conv => lhs; unfold stepF
  rw [if_neg (by omega), if_neg h, hp]
  exact congrArg (b.l s :: ·) (stepF_fuel b t _ _ p _ (rankM_lt hs (hit_mem hp)) (Nat.lt_succ_self _))
theorem stepP_len (b : BookD) (t : Int) : ∀ m G s, rankM b.nl G.length s < m → (stepP b t G s).length ≤ rankM b.nl G.length s := by
  intro m
  induction m with
  | zero => intro G s h; exact absurd h (Nat.not_lt_zero _)
  | succ m ih =>
    intro G s h
    by_cases hs : G.length < 2 ∨ b.nl ≤ s
    · rw [stepP_end b t hs]; exact Nat.zero_le _
    by_cases h1 : (partsL b (b.l s) (getI G) G.length).length = 1
    · have h8 := stepM_lt (nl := b.nl) (n := G.length) (s := s) (by omega)
      rw [stepP_one b t (by omega) (by omega) h1]
      have := ih G (s + 1) (by omega)
      omega
    · cases hp : partO t (partsL b (b.l s) (getI G) G.length) with
      | none =>
        rw [stepP_none b (by omega) (by omega) h1 hp]
        have h8 := stepM_lt (nl := b.nl) (n := G.length) (s := s) (by omega)
        simp; omega
      | some p =>
        rw [stepP_on b (by omega) (by omega) h1 hp]
        have h8 := rankM_lt (b := b) (s := s) (by omega) (hit_mem hp)
        have := ih p (nextS b (partsL b (b.l s) (getI G) G.length).length s) (by omega)
        simp; omega
end Go.Proofs.Ytfkfolglfmmkoaa
set_option linter.unusedVariables false
namespace Go.Proofs.Ytfkfolglfmmkoaa
open Go.RowKit

theorem step_cloneI {P : Program} (w : World) {ops : Array Oper} {o : Oper} {a : Act} {K : Act → World → Prop} {Q : Exit → Act → World → Prop} {E : Prop} (hgd : o.guard = none) (s x : Operand) (t : TypeId)
    (ho : o.op = .call { callee := .builtin .append, args := #[s, x], argTypes := #[t, t] })
    (base : Nat) (e : TypeId) (i : TypeInfo) (ht : P.underlying t = some (.slice e)) (hi : P.info? e = some i) (hz : i.zero = some (.int .i64 0)) (hsize : i.size = 1) (hby : i.bytes = 8)
    (D : Nat) (hs : a.eval s = .slice (some ⟨D, 0, none⟩) 0 0) (hown : w.ownsRow base e 1 (.slice (some ⟨D, 0, none⟩) 0 0) 0 [])
    (v : Value) (m : Nat) (g : Nat → Int) (hx : a.eval x = v) (hrow : IntRow w v m g) (h0 : 0 < m) (hm : m ≤ 1048576) (hbase : base ≤ D) (hD : D < w.heap.size)
    (h : ∀ gg cap w', w'.ownsRow base e 1 (.slice (some ⟨gg, 0, none⟩) m cap) m ((List.range m).map fun j => Value.int .i64 (g j)) → w.grownBy w' (some D) → K (a.put o.dst (.slice (some ⟨gg, 0, none⟩) m cap)) w') :
    if Region.wanted o (yielded ops a.tmps) = true then Oper.wp P o a w K Q else E := by
  rcases hrow with ⟨_, _, _, h1⟩ | ⟨b, off, c, rfl, _, _, hc, _⟩
  · omega
  refine step_append_lies w hgd s x t ho base e i (.int .i64 0) 1 8 ht hi hz hsize hby rfl (by decide) (.slice (some ⟨D, 0, none⟩) 0 0) 0 [] hs hown ⟨b, off, none⟩ m c ((List.range m).map fun j => Value.int .i64 (g j)) hx (by simp) ?_
    (by intro u hu; simp only [List.mem_map] at hu; obtain ⟨_, _, rfl⟩ := hu; rfl) h0 (by unfold maxLen; omega) (by omega) (by omega) _ rfl ?_
  · intro j u hu
    simp only [List.getElem?_map] at hu
    by_cases hj : j < m
    · rw [List.getElem?_range hj] at hu
      simp only [Option.map_some, Option.some.injEq] at hu
      subst hu
      have hadd : (⟨b, off, none⟩ : Addr).add j = ⟨b, off + j, none⟩ := by unfold Addr.add; split <;> simp_all
      rw [hadd]
      exact hc j hj
    · rw [List.getElem?_eq_none (by simp; omega)] at hu; cases hu
  · intro gg cap w' ho' hg' hat hlt
    simp only [Nat.zero_add, List.nil_append] at ho' ⊢
    exact h gg cap w' ho' hg'
end Go.Proofs.Ytfkfolglfmmkoaa
set_option linter.unusedVariables false
namespace Go.Proofs.Ytfkfolglfmmkoaa
open Go.RowKit

theorem TeamRow.rec {w : World} {v : Value} {n : Nat} {g : Nat → TeamD} (h : TeamRow w v n g) : RecRow 3 w v n fun i => (g i).cells := by
  rcases h with ⟨a, c, rfl, rfl⟩ | ⟨b, off, c, rfl, h0, h1, hc, h2⟩
  · exact .inl ⟨_, _, rfl, rfl⟩
  · refine .inr ⟨b, off, c, rfl, h0, h1, fun i hi => ⟨World.block_lt_of_cell? w _ (hc i hi).1, fun j u hu => ?_⟩, h2⟩
    have hj : j < 3 := by have := (List.getElem?_eq_some_iff.1 hu).1; simpa [TeamD.cells] using this
    have : j = 0 ∨ j = 1 ∨ j = 2 := by omega
    rcases this with rfl | rfl | rfl <;> (simp [TeamD.cells] at hu; subst hu)
    · exact (hc i hi).1
    · exact (hc i hi).2.1
    · exact (hc i hi).2.2
theorem RecRow.teams {w : World} {v : Value} {n : Nat} {g : Nat → TeamD} (h : RecRow 3 w v n fun i => (g i).cells) : TeamRow w v n g := by
  rcases h with ⟨a, c, rfl, rfl⟩ | ⟨b, off, c, rfl, h0, h1, hc, h2⟩
  · exact .inl ⟨_, _, rfl, rfl⟩
  · exact .inr ⟨b, off, c, rfl, h0, h1, fun i hi => ⟨(hc i hi).2 0 _ rfl, (hc i hi).2 1 _ rfl, (hc i hi).2 2 _ rfl⟩, h2⟩
end Go.Proofs.Ytfkfolglfmmkoaa
set_option linter.unusedVariables false
namespace Go.Proofs.Ytfkfolglfmmkoaa
open Go.RowKit

structure NoteD where
  serial : Int
  game : Int
  res : GameD
instance : Inhabited NoteD := ⟨⟨0, 0, ⟨0, 0, 0, 0, 0⟩⟩⟩
def NoteD.cells (t : NoteD) : List Value := [.int .i64 t.serial, .int .i64 t.game, .int .i64 t.res.home, .int .i64 t.res.away, .int .i64 t.res.hg, .int .i64 t.res.ag, .int .i64 t.res.st]
def NoteD.val (t : NoteD) : Value := .agg #[.int .i64 t.serial, .int .i64 t.game, .int .i64 t.res.home, .int .i64 t.res.away, .int .i64 t.res.hg, .int .i64 t.res.ag, .int .i64 t.res.st]
def NoteD.fit (t : NoteD) : Prop := IntFit t.serial ∧ IntFit t.game ∧ IntFit t.res.home ∧ IntFit t.res.away ∧ IntFit t.res.hg ∧ IntFit t.res.ag ∧ IntFit t.res.st
theorem NoteD.len (t : NoteD) : t.cells.length = 7 := rfl
def NoteRow (w : World) (v : Value) (n : Nat) (g : Nat → NoteD) : Prop := RecRow 7 w v n fun i => (g i).cells
theorem NoteRow.below {w w' : World} {B : Nat} {v : Value} {n : Nat} {g : Nat → NoteD} (h : NoteRow w v n g) (hb : Below B w w') (hB : w.heap.size ≤ B) : NoteRow w' v n g := RecRow.below h hb hB
theorem NoteRow.touch {lo hi lo' hi' : Nat} {w w' : World} {v : Value} {n : Nat} {g : Nat → NoteD} (h : NoteRow w v n g) (t : Touch lo hi w w') (hv : 0 < n → InW lo' hi' v) (ho : hi' ≤ lo ∨ hi ≤ lo') : NoteRow w' v n g := RecRow.touch h t hv ho
theorem NoteRow.form {w : World} {v : Value} {n : Nat} {g : Nat → NoteD} (h : NoteRow w v n g) : ∃ a cap, v = .slice a n cap ∧ n ≤ 9223372036854775807 ∧ (0 < n → ∃ b off, a = some ⟨b, off, none⟩ ∧ n ≤ cap ∧ ∀ i, i < n → CellsAt w b (off + i * 7) (g i).cells) := RecRow.form h
theorem InW.noteRow {hi : Nat} {v : Value} {w : World} {n : Nat} {g : Nat → NoteD} (h : NoteRow w v n g) (h0 : 0 < n) (hs : w.heap.size ≤ hi) : InW 0 hi v := RecRow.inw h h0 hs
theorem NoteRow.of_owns {w : World} {base : Nat} {e : TypeId} {v : Value} {n : Nat} {xs : List Value} {g : Nat → NoteD} (h : w.ownsRow base e 7 v n xs) (hn : n ≤ 9223372036854775807) (hg : RecCells 7 n xs fun i => (g i).cells) : NoteRow w v n g := RecRow.of_owns h hn hg fun _ _ => Nat.le_refl _
def noteMk (k : Int) (i : Nat) : NoteD := ⟨k + 7 * (i : Int), k + 7 * (i : Int) + 1, ⟨k + 7 * (i : Int) + 1 + 1, k + 7 * (i : Int) + 1 + 1 + 1, k + 7 * (i : Int) + 1 + 1 + 1 + 1, k + 7 * (i : Int) + 1 + 1 + 1 + 1 + 1, k + 7 * (i : Int) + 1 + 1 + 1 + 1 + 1 + 1⟩⟩
theorem tgrownNote {a b c : World} {row : Option Nat} (h : a.grownBy b row) (k : b.grownBy c row) : a.grownBy c row :=
  ⟨k.os.trans h.os, k.tape.trans h.tape, k.output.trans h.output, Nat.le_trans h.size k.size, fun i hi hne => (k.block i (Nat.lt_of_lt_of_le hi h.size) hne).trans (h.block i hi hne)⟩
section
open Go.ChangeShapes Go.WideShapes
variable {H : Type} {enc : TypeId × Value → H} {P : Program} {w : World} {base : Nat} {spare : Nat → Bool} {held : Bool}
theorem open_notes {t e : TypeId} {f0 f1 f2 : Field} {v : Value} (ht : P.underlying t = some (.slice e)) (he : P.underlying e = some (.struct #[f0, f1, f2]))
    (ce : P.cellsOf e = 7) (o0 : f0.offset = 0) (c0 : P.cellsOf f0.type = 1) (u0 : P.underlying f0.type = some (.int .i64)) (o1 : f1.offset = 1) (c1 : P.cellsOf f1.type = 1) (u1 : P.underlying f1.type = some (.int .i64)) (o2 : f2.offset = 2) (c2 : P.cellsOf f2.type = 5) {s0 s1 s2 s3 s4 : Field} (u2 : P.underlying f2.type = some (.struct #[s0, s1, s2, s3, s4])) (so0 : s0.offset = 0) (sc0 : P.cellsOf s0.type = 1) (su0 : P.underlying s0.type = some (.int .i64)) (so1 : s1.offset = 1) (sc1 : P.cellsOf s1.type = 1) (su1 : P.underlying s1.type = some (.int .i64)) (so2 : s2.offset = 2) (sc2 : P.cellsOf s2.type = 1) (su2 : P.underlying s2.type = some (.int .i64)) (so3 : s3.offset = 3) (sc3 : P.cellsOf s3.type = 1) (su3 : P.underlying s3.type = some (.int .i64)) (so4 : s4.offset = 4) (sc4 : P.cellsOf s4.type = 1) (su4 : P.underlying s4.type = some (.int .i64))
    (h : ∃ (fuel : Nat) (x : DataW H × List MemPlace), DataW.trod enc P w base spare held fuel t [v] = some x) : ∃ (n : Nat) (g : Nat → NoteD), NoteRow w v n g ∧ (∀ i, (g i).fit) ∧ n ≤ 9223372036854775807 := by
  obtain ⟨fuel, x, h⟩ := h
  have hz : (default : NoteD).fit := by simp [NoteD.fit, IntFit, default]
  rcases Go.Deep.open_slice ht h with ⟨h0, _⟩ | ⟨a, len, cap, m, q, D, Pl, h0, hb, hl, hm, hmm, rfl, hx⟩
  · simp only [List.cons.injEq, and_true] at h0
    subst h0
    exact ⟨0, fun _ => default, .inl ⟨_, _, rfl, rfl⟩, fun _ => hz, by omega⟩
  simp only [List.cons.injEq, and_true] at h0
  subst h0
  have hlm : len ≤ m := by rw [hmm]; split <;> omega
  have each : ∀ i, i < len → ∃ q : NoteD, (∀ j u, q.cells[j]? = some u → w.cell? ((a.add (i * 7)).add j) = some u) ∧ q.fit := by
    intro i hi
    obtain ⟨cs', h1, h2⟩ := hx i (by omega)
    rw [ce] at h1
    obtain ⟨_, hlen, hcell⟩ := World.cells?_some h1
    obtain ⟨xs, kk, hk, hxy, _, hxl, hf⟩ := DataW.trod_struct he h2
    match xs, hxl, cs', hlen with
    | [y0, y1, y2], _, [v0, v1, v2, v3, v4, v5, v6], _ =>
      have g0 := hf 0 f0 rfl
      simp [o0, c0] at g0
      obtain ⟨z0, e0, _, k0⟩ := DataW.trod_int u0 g0
      simp only [List.cons.injEq, and_true] at e0
      subst e0
      have g1 := hf 1 f1 rfl
      simp [o1, c1] at g1
      obtain ⟨z1, e1, _, k1⟩ := DataW.trod_int u1 g1
      simp only [List.cons.injEq, and_true] at e1
      subst e1
      have g2 := hf 2 f2 rfl
      simp [o2, c2] at g2
      obtain ⟨ys, k2', hk', hxy', _, hyl, hf'⟩ := DataW.trod_struct u2 g2
      match ys, hyl with
      | [w0, w1, w2, w3, w4], _ =>
      have h0 := hf' 0 s0 rfl
      simp [so0, sc0] at h0
      obtain ⟨z2, e2', _, k2⟩ := DataW.trod_int su0 h0
      simp only [List.cons.injEq, and_true] at e2'
      subst e2'
      have h1 := hf' 1 s1 rfl
      simp [so1, sc1] at h1
      obtain ⟨z3, e3', _, k3⟩ := DataW.trod_int su1 h1
      simp only [List.cons.injEq, and_true] at e3'
      subst e3'
      have h2 := hf' 2 s2 rfl
      simp [so2, sc2] at h2
      obtain ⟨z4, e4', _, k4⟩ := DataW.trod_int su2 h2
      simp only [List.cons.injEq, and_true] at e4'
      subst e4'
      have h3 := hf' 3 s3 rfl
      simp [so3, sc3] at h3
      obtain ⟨z5, e5', _, k5⟩ := DataW.trod_int su3 h3
      simp only [List.cons.injEq, and_true] at e5'
      subst e5'
      have h4 := hf' 4 s4 rfl
      simp [so4, sc4] at h4
      obtain ⟨z6, e6', _, k6⟩ := DataW.trod_int su4 h4
      simp only [List.cons.injEq, and_true] at e6'
      subst e6'
      refine ⟨⟨z0, z1, ⟨z2, z3, z4, z5, z6⟩⟩, fun j u hu => ?_, ⟨intFit_of k0, intFit_of k1, intFit_of k2, intFit_of k3, intFit_of k4, intFit_of k5, intFit_of k6⟩⟩
      have hj : j < 7 := (List.getElem?_eq_some_iff.1 hu).1
      rw [hcell j hj]
      exact hu
  obtain ⟨g, hg⟩ := Go.Deep.choose_lt each
  have hfit : ∀ i, (if i < len then g i else default : NoteD).fit := fun i => by
    by_cases hi : i < len
    · simpa [hi] using (hg i hi).2
    · simpa [hi] using hz
  unfold maxLen at hm
  refine ⟨len, fun i => if i < len then g i else default, ?_, hfit, by omega⟩
  by_cases h0 : len = 0
  · subst h0; exact .inl ⟨_, _, rfl, rfl⟩
  · have hc0 := (hg 0 (by omega)).1 0 _ rfl
    obtain ⟨b, off, spot⟩ := a
    have hspot : spot = none := by simpa [Addr.add] using World.cell?_spot hc0
    subst hspot
    have hadd : ∀ j, (⟨b, off, none⟩ : Addr).add j = ⟨b, off + j, none⟩ := fun j => by unfold Addr.add; split <;> simp_all
    have hadd2 : ∀ o j, (⟨b, o, none⟩ : Addr).add j = ⟨b, o + j, none⟩ := fun o j => by unfold Addr.add; split <;> simp_all
    simp only [hadd, hadd2] at hc0
    refine .inr ⟨b, off, cap, rfl, by omega, by omega, fun i hi => ⟨World.block_lt_of_cell? w _ hc0, fun j u hu => ?_⟩, hl⟩
    have := (hg i hi).1
    simp only [hadd, hadd2] at this
    simp only [hi, if_true] at hu
    exact this j u hu
end
section
open Go.ChangeShapes Go.WideShapes
variable {H : Type} {enc : TypeId × Value → H} {P : Program} {w : World} {base : Nat} {spare : Nat → Bool} {held : Bool}
theorem open_note {r : Reach} {b0 : Nat} {e : TypeId} {f0 f1 f2 : Field} {v : Value} {d : DataW H} {pl : List MemPlace} (he : P.underlying e = some (.struct #[f0, f1, f2]))
    (ce : P.cellsOf e = 7) (o0 : f0.offset = 0) (c0 : P.cellsOf f0.type = 1) (u0 : P.underlying f0.type = some (.int .i64)) (o1 : f1.offset = 1) (c1 : P.cellsOf f1.type = 1) (u1 : P.underlying f1.type = some (.int .i64)) (o2 : f2.offset = 2) (c2 : P.cellsOf f2.type = 5) {s0 s1 s2 s3 s4 : Field} (u2 : P.underlying f2.type = some (.struct #[s0, s1, s2, s3, s4])) (so0 : s0.offset = 0) (sc0 : P.cellsOf s0.type = 1) (su0 : P.underlying s0.type = some (.int .i64)) (so1 : s1.offset = 1) (sc1 : P.cellsOf s1.type = 1) (su1 : P.underlying s1.type = some (.int .i64)) (so2 : s2.offset = 2) (sc2 : P.cellsOf s2.type = 1) (su2 : P.underlying s2.type = some (.int .i64)) (so3 : s3.offset = 3) (sc3 : P.cellsOf s3.type = 1) (su3 : P.underlying s3.type = some (.int .i64)) (so4 : s4.offset = 4) (sc4 : P.cellsOf s4.type = 1) (su4 : P.underlying s4.type = some (.int .i64))
    (hv : Value.okWide P w r b0 e v) (h : DataW.Trod enc P w base spare held e v d pl) : ∃ q : NoteD, v = q.val ∧ q.fit := by
  obtain ⟨cs, rfl, hsz⟩ := okWide_struct he hv
  obtain ⟨l⟩ := cs
  obtain ⟨fuel, h⟩ := h
  obtain ⟨xs, kk, hk, hxy, _, hxl, hf⟩ := DataW.trod_struct he h
  match xs, hxl, l, hsz.trans ce with
  | [y0, y1, y2], _, [v0, v1, v2, v3, v4, v5, v6], _ =>
      have g0 := hf 0 f0 rfl
      simp [Value.cells, o0, c0] at g0
      obtain ⟨z0, e0, _, k0⟩ := DataW.trod_int u0 g0
      simp only [List.cons.injEq, and_true] at e0
      subst e0
      have g1 := hf 1 f1 rfl
      simp [Value.cells, o1, c1] at g1
      obtain ⟨z1, e1, _, k1⟩ := DataW.trod_int u1 g1
      simp only [List.cons.injEq, and_true] at e1
      subst e1
      have g2 := hf 2 f2 rfl
      simp [Value.cells, o2, c2] at g2
      obtain ⟨ys, k2', hk', hxy', _, hyl, hf'⟩ := DataW.trod_struct u2 g2
      match ys, hyl with
      | [w0, w1, w2, w3, w4], _ =>
      have h0 := hf' 0 s0 rfl
      simp [so0, sc0] at h0
      obtain ⟨z2, e2', _, k2⟩ := DataW.trod_int su0 h0
      simp only [List.cons.injEq, and_true] at e2'
      subst e2'
      have h1 := hf' 1 s1 rfl
      simp [so1, sc1] at h1
      obtain ⟨z3, e3', _, k3⟩ := DataW.trod_int su1 h1
      simp only [List.cons.injEq, and_true] at e3'
      subst e3'
      have h2 := hf' 2 s2 rfl
      simp [so2, sc2] at h2
      obtain ⟨z4, e4', _, k4⟩ := DataW.trod_int su2 h2
      simp only [List.cons.injEq, and_true] at e4'
      subst e4'
      have h3 := hf' 3 s3 rfl
      simp [so3, sc3] at h3
      obtain ⟨z5, e5', _, k5⟩ := DataW.trod_int su3 h3
      simp only [List.cons.injEq, and_true] at e5'
      subst e5'
      have h4 := hf' 4 s4 rfl
      simp [so4, sc4] at h4
      obtain ⟨z6, e6', _, k6⟩ := DataW.trod_int su4 h4
      simp only [List.cons.injEq, and_true] at e6'
      subst e6'
      exact ⟨⟨z0, z1, ⟨z2, z3, z4, z5, z6⟩⟩, rfl, ⟨intFit_of k0, intFit_of k1, intFit_of k2, intFit_of k3, intFit_of k4, intFit_of k5, intFit_of k6⟩⟩
end
end Go.Proofs.Ytfkfolglfmmkoaa
set_option linter.unusedVariables false
namespace Go.Proofs.Ytfkfolglfmmkoaa
open Go.RowKit

theorem note_cells {w : World} {b o : Nat} {x : NoteD} (h : CellsAt w b o x.cells) : w.cell? ⟨b, o, none⟩ = some (.int .i64 x.serial) ∧ w.cell? ⟨b, o + 1, none⟩ = some (.int .i64 x.game) ∧ w.cell? ⟨b, o + 2, none⟩ = some (.int .i64 x.res.home) ∧
    w.cell? ⟨b, o + 3, none⟩ = some (.int .i64 x.res.away) ∧ w.cell? ⟨b, o + 4, none⟩ = some (.int .i64 x.res.hg) ∧ w.cell? ⟨b, o + 5, none⟩ = some (.int .i64 x.res.ag) ∧ w.cell? ⟨b, o + 6, none⟩ = some (.int .i64 x.res.st) :=
  ⟨h.2 0 _ rfl, h.2 1 _ rfl, h.2 2 _ rfl, h.2 3 _ rfl, h.2 4 _ rfl, h.2 5 _ rfl, h.2 6 _ rfl⟩
def serialN (g : Nat → NoteD) (gm : Int) : Nat → Int
  | 0 => 0
  | k + 1 => if (g k).game = gm ∧ serialN g gm k < (g k).serial then (g k).serial else serialN g gm k
end Go.Proofs.Ytfkfolglfmmkoaa
set_option linter.unusedVariables false
namespace Go.Proofs.Ytfkfolglfmmkoaa
open Go.RowKit

def noteP (n : Int) (m : Nat) (g : Nat → GameD) (x : NoteD) : Prop :=
  (1 ≤ x.serial ∧ x.serial ≤ 100000) ∧ (0 ≤ x.game ∧ x.game ≤ (m : Int) - 1) ∧ gameP n x.res ∧ x.res.st ≠ 0 ∧ x.res.home = (g x.game.toNat).home ∧ x.res.away = (g x.game.toNat).away
end Go.Proofs.Ytfkfolglfmmkoaa
set_option linter.unusedVariables false
namespace Go.Proofs.Ytfkfolglfmmkoaa
open Go.RowKit

theorem note_ne {x y : NoteD} (h : x ≠ y) : (x.serial == y.serial) = false ∨ (x.game == y.game) = false ∨ (x.res.home == y.res.home) = false ∨ (x.res.away == y.res.away) = false ∨ (x.res.hg == y.res.hg) = false ∨ (x.res.ag == y.res.ag) = false ∨ (x.res.st == y.res.st) = false := by
  obtain ⟨a1, a2, ⟨a3, a4, a5, a6, a7⟩⟩ := x
  obtain ⟨b1, b2, ⟨b3, b4, b5, b6, b7⟩⟩ := y
  simp only [beq_eq_false_iff_ne, ne_eq, NoteD.mk.injEq, GameD.mk.injEq] at h ⊢
  omega
end Go.Proofs.Ytfkfolglfmmkoaa
set_option linter.unusedVariables false
namespace Go.Proofs.Ytfkfolglfmmkoaa
open Go.RowKit

def notesP (n : Int) (m : Nat) (g : Nat → GameD) (k : Nat) (ns : Nat → NoteD) : Prop :=
  seasonP n m g ∧ k ≤ 80 ∧ ∀ i, i < k → noteP n m g (ns i) ∧ ∀ j, j < i → (ns j).serial = (ns i).serial → ns j = ns i
end Go.Proofs.Ytfkfolglfmmkoaa
set_option linter.unusedVariables false
namespace Go.Proofs.Ytfkfolglfmmkoaa
open Go.RowKit

def getN' (L : List NoteD) (i : Nat) : NoteD := L.getD i default
theorem flat_len (L : List NoteD) : (L.flatMap NoteD.cells).length = L.length * 7 := by
  induction L with
  | nil => rfl
  | cons x L ih => simp only [List.flatMap_cons, List.length_append, ih, List.length_cons, NoteD.len]; omega
theorem notes_cells (L : List NoteD) : RecCells 7 L.length (L.flatMap NoteD.cells) fun i => (getN' L i).cells := by
  induction L with
  | nil => exact RecCells.nil
  | cons x L ih =>
    intro i hi j u hu
    rw [List.flatMap_cons]
    have hj : j < 7 := by have := (List.getElem?_eq_some_iff.1 hu).1; simpa [NoteD.len] using this
    cases i with
    | zero =>
      rw [List.getElem?_append_left (by rw [NoteD.len]; omega)]
      simpa [getN'] using hu
    | succ i =>
      rw [List.getElem?_append_right (by rw [NoteD.len]; omega), NoteD.len, show (i + 1) * 7 + j - 7 = i * 7 + j by omega]
      simp only [List.length_cons] at hi
      exact ih i (by omega) j u (by simpa [getN'] using hu)
def upL (g : Nat → NoteD) (s : Int) : Nat → List NoteD
  | 0 => []
  | k + 1 => if (g k).serial ≤ s then upL g s k ++ [g k] else upL g s k
def seenL (g : Nat → NoteD) (gm : Int) : Nat → List Int
  | 0 => []
  | k + 1 => if (g k).game = gm ∧ ¬ (g k).serial ∈ seenL g gm k then seenL g gm k ++ [(g k).serial] else seenL g gm k
def corrN (g : Nat → NoteD) (gm : Int) (n : Nat) : Int := if 0 < ((seenL g gm n).length : Int) - 1 then ((seenL g gm n).length : Int) - 1 else 0
end Go.Proofs.Ytfkfolglfmmkoaa
set_option linter.unusedVariables false
namespace Go.Proofs.Ytfkfolglfmmkoaa
open Go.RowKit

def leadN (s : Int) : List NoteD → Nat
  | [] => 0
  | y :: L => if y.serial < s then leadN s L + 1 else 0
def insN (L : List NoteD) (x : NoteD) : List NoteD :=
  if leadN x.serial L < L.length ∧ (getN' L (leadN x.serial L)).serial = x.serial then L else L.take (leadN x.serial L) ++ x :: L.drop (leadN x.serial L)
def canonL (g : Nat → NoteD) : Nat → List NoteD
  | 0 => []
  | k + 1 => insN (canonL g k) (g k)
theorem lead_le (s : Int) (L : List NoteD) : leadN s L ≤ L.length := by
  induction L with
  | nil => exact Nat.le_refl _
  | cons y L ih => unfold leadN; split <;> simp <;> omega
theorem lead_lt (s : Int) (L : List NoteD) : ∀ i, i < leadN s L → (getN' L i).serial < s := by
  induction L with
  | nil => intro i hi; exact absurd hi (by simp [leadN])
  | cons y L ih =>
    intro i hi
    unfold leadN at hi
    split at hi
    · next h =>
      cases i with
      | zero => exact h
      | succ i => exact ih i (by omega)
    · omega
theorem lead_ge (s : Int) (L : List NoteD) : leadN s L < L.length → ¬ (getN' L (leadN s L)).serial < s := by
  induction L with
  | nil => intro h; exact absurd h (by simp)
  | cons y L ih =>
    intro h
    unfold leadN at h ⊢
    split at h
    · next hy => rw [if_pos hy]; exact ih (by simpa using h)
    · next hy => rw [if_neg hy]; exact hy
theorem ins_len (L : List NoteD) (x : NoteD) : (insN L x).length ≤ L.length + 1 := by
  unfold insN
  split
  · omega
  · have := lead_le x.serial L; simp; omega
def gapL (L : List NoteD) (j : Nat) (u : NoteD) : List NoteD := L.take j ++ u :: L.drop j
theorem gap_len (L : List NoteD) (j : Nat) (u : NoteD) (h : j ≤ L.length) : (gapL L j u).length = L.length + 1 := by
  unfold gapL; simp; omega
theorem gap_get (L : List NoteD) (j : Nat) (u : NoteD) (i : Nat) (h : i < j) (hj : j ≤ L.length) : getN' (gapL L j u) i = getN' L i := by
  unfold gapL getN'
  simp only [List.getD_eq_getElem?_getD]
  rw [List.getElem?_append_left (by simp; omega), List.getElem?_take_of_lt h]
theorem gap_set (L : List NoteD) (j : Nat) (u x : NoteD) (hj : j ≤ L.length) : (gapL L j u).set j x = gapL L j x := by
  unfold gapL
  rw [List.set_append_right _ _ (by simp; omega)]
  simp [Nat.min_eq_left hj]
theorem gap_step (L : List NoteD) (j : Nat) (hj : j < L.length) : gapL L (j + 1) (getN' L j) = gapL L j (getN' L j) := by
  unfold gapL
  have h1 : getN' L j = L[j] := by simp [getN', List.getD_eq_getElem?_getD, List.getElem?_eq_getElem hj]
  have h2 : L.take (j + 1) = L.take j ++ [L[j]] := (List.take_append_getElem hj).symm
  rw [h1, h2, List.drop_eq_getElem_cons hj]
  simp only [List.append_assoc, List.cons_append, List.nil_append]
theorem gap_end (L : List NoteD) (u : NoteD) : gapL L L.length u = L ++ [u] := by
  unfold gapL; simp
theorem flat_set (x : NoteD) : ∀ (M : List NoteD) (j : Nat), j < M.length → setsFrom (M.flatMap NoteD.cells) (j * 7) x.cells = (M.set j x).flatMap NoteD.cells := by
  intro M j hj
  apply List.ext_getElem?
  intro t
  have hlen := flat_len M
  have hlen2 := flat_len (M.set j x)
  rw [List.length_set] at hlen2
  by_cases ht : t < M.length * 7
  · have h1 := notes_cells M (t / 7) (by omega) (t % 7)
    have h2 := notes_cells (M.set j x) (t / 7) (by rw [List.length_set]; omega) (t % 7)
    have ht7 : t / 7 * 7 + t % 7 = t := by omega
    rw [ht7] at h1 h2
    by_cases hjt : t / 7 = j
    · have hx : (getN' (M.set j x) (t / 7)) = x := by simp [getN', List.getD_eq_getElem?_getD, hjt, hj]
      have hm : t % 7 < x.cells.length := by rw [NoteD.len]; omega
      obtain ⟨u, hu⟩ : ∃ u, x.cells[t % 7]? = some u := ⟨_, List.getElem?_eq_getElem hm⟩
      rw [h2 u (by simp only [hx]; exact hu), show t = j * 7 + t % 7 by omega]
      exact setsFrom_in x.cells _ _ _ u (by rw [NoteD.len]; omega) hu
    · have hx : (getN' (M.set j x) (t / 7)) = getN' M (t / 7) := by
        simp only [getN', List.getD_eq_getElem?_getD]
        rw [List.getElem?_set_ne (by omega)]
      have hm : t % 7 < (getN' M (t / 7)).cells.length := by rw [NoteD.len]; omega
      obtain ⟨u, hu⟩ : ∃ u, (getN' M (t / 7)).cells[t % 7]? = some u := ⟨_, List.getElem?_eq_getElem hm⟩
      rw [h2 u (by simp only [hx]; exact hu), setsFrom_out _ _ _ _ (by rw [NoteD.len]; omega)]
      exact h1 u hu
  · rw [List.getElem?_eq_none (by rw [setsFrom_len]; omega), List.getElem?_eq_none (by omega)]
theorem canon_len (g : Nat → NoteD) : ∀ n, (canonL g n).length ≤ n := by
  intro n
  induction n with
  | zero => simp [canonL]
  | succ n ih => have := ins_len (canonL g n) (g n); show (insN _ _).length ≤ _; omega
theorem up_len (g : Nat → NoteD) (s : Int) : ∀ n, (upL g s n).length ≤ n := by
  intro n
  induction n with
  | zero => simp [upL]
  | succ n ih =>
    unfold upL
    split
    · simp only [List.length_append, List.length_cons, List.length_nil]; omega
    · omega
end Go.Proofs.Ytfkfolglfmmkoaa
set_option linter.unusedVariables false
namespace Go.Proofs.Ytfkfolglfmmkoaa
open Go.RowKit

theorem box_set {w : World} {D gg s : Nat} {cs : List Value} {u : Value} (h : BoxN w D cs) (hne : gg ≠ D) : BoxN (w.setCell ⟨gg, s, none⟩ u) D cs := by
  by_cases hlt : gg < D
  · exact h.touch (Touch.setCell (lo := 0) (hi := D) (Touch.refl _ _ _) ⟨gg, s, none⟩ u (Nat.zero_le _) hlt) (Or.inr (Nat.le_refl _))
  · exact h.touch (Touch.setCell (lo := D + 1) (hi := gg + 1) (Touch.refl _ _ _) ⟨gg, s, none⟩ u (show D + 1 ≤ gg by omega) (Nat.lt_succ_self _)) (Or.inl (Nat.lt_succ_self _))
end Go.Proofs.Ytfkfolglfmmkoaa
set_option linter.unusedVariables false
namespace Go.Proofs.Ytfkfolglfmmkoaa
open Go.RowKit

def applyN (g : Nat → GameD) (C : List NoteD) : Nat → Nat → GameD
  | 0 => g
  | j + 1 => fun i => if i = (getN' C j).game.toNat then (getN' C j).res else applyN g C j i
theorem ins_mem (L : List NoteD) (x y : NoteD) (h : y ∈ insN L x) : y ∈ L ∨ y = x := by
  unfold insN at h
  split at h
  · exact .inl h
  · rcases List.mem_append.1 h with h | h
    · exact .inl (List.mem_of_mem_take h)
    · rcases List.mem_cons.1 h with h | h
      · exact .inr h
      · exact .inl (List.mem_of_mem_drop h)
theorem canon_mem (g : Nat → NoteD) (y : NoteD) : ∀ n, y ∈ canonL g n → ∃ i, i < n ∧ g i = y := by
  intro n
  induction n with
  | zero => intro h; simp [canonL] at h
  | succ n ih =>
    intro h
    rcases ins_mem _ _ _ (show y ∈ insN (canonL g n) (g n) from h) with h | h
    · obtain ⟨i, hi, he⟩ := ih h; exact ⟨i, by omega, he⟩
    · exact ⟨n, by omega, h.symm⟩
theorem getN_mem (L : List NoteD) (j : Nat) (h : j < L.length) : getN' L j ∈ L := by
  unfold getN'
  rw [List.getD_eq_getElem?_getD, List.getElem?_eq_getElem h]
  exact List.getElem_mem h
theorem GameD.ones (x : GameD) : ∀ u ∈ x.cells, u.oneCell' = true := by
  intro u hu; simp [GameD.cells] at hu; rcases hu with rfl | rfl | rfl | rfl | rfl <;> rfl
end Go.Proofs.Ytfkfolglfmmkoaa
set_option linter.unusedVariables false
namespace Go.Proofs.Ytfkfolglfmmkoaa
open Go.RowKit

def SeenN (K : Nat) (w : World) (B : Nat) (S : Nat → Bool) : Prop := B < w.heap.size ∧ ∀ j, j < K → w.cell? ⟨B, j, none⟩ = some (.bool (S j)) ∧ w.frozen? ⟨B, j, none⟩ = false
theorem SeenN.made (K : Nat) (w : World) (cs : Array Value) (t : TypeId) (h : ∀ j, j < K → cs[j]? = some (.bool false)) : SeenN K (w.alloc (.cells cs t)) w.heap.size (fun _ => false) := by
  refine ⟨by simp, fun j hj => ⟨?_, ?_⟩⟩
  · rw [cell_of_row _ w.heap.size j _ t (0, 0) (heap_alloc_new w _)]
    exact h j hj
  · exact frozen_of_row _ w.heap.size j _ t (heap_alloc_new w _)
theorem SeenN.set {K : Nat} {w : World} {B : Nat} {S : Nat → Bool} (h : SeenN K w B S) (m : Nat) (hm : m < K) : SeenN K (w.setCell ⟨B, m, none⟩ (.bool true)) B (fun j => S j || decide (j = m)) := by
  refine ⟨by simpa [World.setCell] using h.1, fun j hj => ⟨?_, (World.frozen?_setCell _ _ _ _).trans (h.2 j hj).2⟩⟩
  by_cases hjm : j = m
  · subst hjm
    rw [World.cell?_setCell_same' _ _ _ (by rw [(h.2 j hj).1]; rfl)]
    simp
  · rw [World.cell?_setCell_other _ _ _ _ (by intro e; simp only [Addr.mk.injEq] at e; omega), (h.2 j hj).1]
    simp [hjm]
theorem pigeon (m : Nat) : ∀ (k : Nat) (g : Nat → Int), (∀ i, i < k → 1 ≤ g i ∧ g i ≤ m) → (∀ i j, i < j → j < k → g i ≠ g j) → k ≤ m := by
  induction m with
  | zero => intro k g h _; by_cases h0 : k = 0; · omega
            · have := h 0 (by omega); omega
  | succ m ih =>
    intro k g h hd
    by_cases hx : ∃ i, i < k ∧ g i = m + 1
    · obtain ⟨i0, hi0, he⟩ := hx
      have hk1 := ih (k - 1) (fun i => if i = i0 then g (k - 1) else g i) (fun i hi => by
          by_cases e : i = i0
          · simp only [e, if_true]
            have h1 := h (k - 1) (by omega)
            have h2 := hd i0 (k - 1) (by omega) (by omega)
            omega
          · simp only [e, if_false]
            have h1 := h i (by omega)
            have h2 : g i ≠ g i0 := by
              by_cases hlt : i < i0
              · exact hd i i0 hlt hi0
              · exact fun hh => hd i0 i (by omega) (by omega) hh.symm
            omega)
        (fun i j hij hj => by
          by_cases e : i = i0
          · by_cases e2 : j = i0
            · omega
            · simp only [e, e2, if_true, if_false]
              exact fun hh => hd j (k - 1) (by omega) (by omega) hh.symm
          · by_cases e2 : j = i0
            · simp only [e, e2, if_true, if_false]
              exact hd i (k - 1) (by omega) (by omega)
            · simp only [e, e2, if_false]
              exact hd i j hij (by omega))
      omega
    · have := ih k g (fun i hi => by
        have h1 := h i hi
        have h2 : g i ≠ m + 1 := fun he => hx ⟨i, hi, he⟩
        omega) hd
      omega
theorem pigeon8 {k : Nat} {g : Nat → Int} (h : ∀ i, i < k → (1 ≤ g i ∧ g i ≤ 8) ∧ ¬ hasP g (g i) i) : k ≤ 8 :=
  pigeon 8 k g (fun i hi => by have := (h i hi).1; omega) (fun i j hij hj he => (h j hj).2 ⟨i, hij, he⟩)
theorem knm_ne (m : Nat) (h1 : 1 ≤ m) (h8 : m ≤ 8) : (knm m).toList.isEmpty = false ∧ (knm m).toList ≠ [] := by
  have : m = 1 ∨ m = 2 ∨ m = 3 ∨ m = 4 ∨ m = 5 ∨ m = 6 ∨ m = 7 ∨ m = 8 := by omega
  rcases this with rfl | rfl | rfl | rfl | rfl | rfl | rfl | rfl <;> exact ⟨by decide +kernel, by decide +kernel⟩
end Go.Proofs.Ytfkfolglfmmkoaa
set_option linter.unusedVariables false
namespace Go.Proofs.Ytfkfolglfmmkoaa
open Go.RowKit

def IsRow (k : IntKind) (w : World) (a : Option Addr) (len cap : Nat) (zs : List Int) : Prop :=
  (a = none ∧ len = 0 ∧ cap = 0 ∧ zs = []) ∨
  ∃ x, a = some x ∧ len ≤ cap ∧ cap ≤ maxLen ∧ zs.length = cap ∧ (∀ i, i < zs.length → w.cell? (x.add i) = some (.int k (zs.getD i 0))) ∧ ∀ n ∈ zs, (Lit.int k n).wf = true
def ByteRow (w : World) (a : Option Addr) (len : Nat) (g : Nat → Nat) : Prop :=
  0 < len → ∃ b off, a = some ⟨b, off, none⟩ ∧ ∀ i, i < len → w.cell? ⟨b, off + i, none⟩ = some (.int .u8 (g i))
def getN (zs : List Int) (i : Nat) : Nat := (zs.getD i 0).toNat
theorem IsRow.bytes {w : World} {a : Option Addr} {len cap : Nat} {zs : List Int} (h : IsRow .u8 w a len cap zs) : ByteRow w a len (getN zs) ∧ (∀ i, getN zs i ≤ 255) ∧ len ≤ 9223372036854775807 := by
  rcases h with ⟨rfl, rfl, rfl, rfl⟩ | ⟨x, rfl, hl, hm, hz, hc, hw⟩
  · exact ⟨fun h => absurd h (by omega), fun i => by simp [getN], by omega⟩
  · have key : ∀ i, 0 ≤ zs.getD i 0 ∧ zs.getD i 0 ≤ 255 := by
      intro i
      by_cases hi : i < zs.length
      · have := hw zs[i] (List.getElem_mem hi)
        simp [Lit.wf, IntKind.min, IntKind.max, IntKind.signed, IntKind.bits] at this
        simp [List.getD, List.getElem?_eq_getElem hi]; omega
      · simp [List.getD, List.getElem?_eq_none (Nat.le_of_not_lt hi)]
    refine ⟨fun h0 => ?_, fun i => by have := key i; unfold getN; omega, by unfold maxLen at hm; omega⟩
    obtain ⟨b, off, spot⟩ := x
    have hc0 := hc 0 (by omega)
    have hspot : spot = none := by simpa [Addr.add] using World.cell?_spot hc0
    subst hspot
    refine ⟨b, off, rfl, fun i hi => ?_⟩
    have h1 := hc i (by omega)
    have hadd : (⟨b, off, none⟩ : Addr).add i = ⟨b, off + i, none⟩ := by unfold Addr.add; split <;> simp_all
    rw [hadd] at h1
    rw [h1]
    have := key i
    unfold getN
    congr 2
    omega
theorem ByteRow.below {w w' : World} {a : Option Addr} {len B : Nat} {g : Nat → Nat} (h : ByteRow w a len g) (hb : Below B w w') (hB : w.heap.size ≤ B) : ByteRow w' a len g := by
  intro h0
  obtain ⟨b, off, h1, h2⟩ := h h0
  exact ⟨b, off, h1, fun i hi => (hb.cell (p := ⟨b, off + i, none⟩) (Nat.lt_of_lt_of_le (World.block_lt_of_cell? w _ (h2 i hi)) hB)).trans (h2 i hi)⟩

structure Cur (B : Nat) (a : Option Addr) (len cap : Nat) (g : Nat → Nat) (w : World) : Prop where
  blk : ∃ (i : Nat) (h : Int), w.heap[B]? = some (.cells #[.slice a len cap, .int .i64 i, .int .i64 h] 108 (0, 0)) ∧ i ≤ len
  row : ByteRow w a len g
  low : 0 < len → ∀ b off, a = some ⟨b, off, none⟩ → b < B
  small : ∀ i, g i ≤ 255
  fits : len ≤ 9223372036854775807

theorem set2 {w : World} {B : Nat} {s x y : Value} {T : TypeId} (z : Value) (h : w.heap[B]? = some (.cells #[s, x, y] T (0, 0))) : (w.setCell ⟨B, 2, none⟩ z).heap[B]? = some (.cells #[s, x, z] T (0, 0)) := by
  rw [heap_setCell_same w B 2 _ _ _ h]; rfl
theorem set1 {w : World} {B : Nat} {s x y : Value} {T : TypeId} (z : Value) (h : w.heap[B]? = some (.cells #[s, x, y] T (0, 0))) : (w.setCell ⟨B, 1, none⟩ z).heap[B]? = some (.cells #[s, z, y] T (0, 0)) := by
  rw [heap_setCell_same w B 1 _ _ _ h]; rfl
theorem grown_set (w : World) (B j : Nat) (z : Value) : w.grownBy (w.setCell ⟨B, j, none⟩ z) (some B) :=
  ⟨rfl, rfl, rfl, by simp, fun k _ hk => heap_setCell_other w ⟨B, j, none⟩ k z (fun e => hk (by simp [e]))⟩
theorem grown_trans {a b c : World} {row : Option Nat} (h : a.grownBy b row) (k : b.grownBy c row) : a.grownBy c row :=
  ⟨k.os.trans h.os, k.tape.trans h.tape, k.output.trans h.output, Nat.le_trans h.size k.size, fun i hi hne => (k.block i (Nat.lt_of_lt_of_le hi h.size) hne).trans (h.block i hi hne)⟩
theorem grown_drewN {a b : World} {row : Option Nat} (h : a.grownBy b row) (q : Nat) : a.grownBy (b.drewN q) row := ⟨h.os, h.tape, h.output, h.size, h.block⟩
theorem grown_refl (a : World) (row : Option Nat) : a.grownBy a row := ⟨rfl, rfl, rfl, Nat.le_refl _, fun _ _ _ => rfl⟩
theorem ByteRow.grown {w w' : World} {a : Option Addr} {len B : Nat} {g : Nat → Nat} (h : ByteRow w a len g) (hg : w.grownBy w' (some B)) (hl : 0 < len → ∀ b off, a = some ⟨b, off, none⟩ → b < B) : ByteRow w' a len g := by
  intro h0
  obtain ⟨b, off, h1, h2⟩ := h h0
  refine ⟨b, off, h1, fun i hi => hg.cell (h2 i hi) ?_⟩
  have := hl h0 b off h1
  intro e
  simp at e; omega
theorem Cur.to {B : Nat} {a : Option Addr} {len cap : Nat} {g : Nat → Nat} {w w' : World} (h : Cur B a len cap g w) (hg : w.grownBy w' (some B))
    (hb : ∃ (i : Nat) (h : Int), w'.heap[B]? = some (.cells #[.slice a len cap, .int .i64 i, .int .i64 h] 108 (0, 0)) ∧ i ≤ len) : Cur B a len cap g w' :=
  ⟨hb, h.row.grown hg h.low, h.low, h.small, h.fits⟩

theorem and_mask (z : Int) (m : Nat) (hm : m < 2147483648) : ∃ n : Nat, n ≤ m ∧ bits .and .i64 z (m : Int) = (n : Int) := by
  refine ⟨((BitVec.ofInt 64 z) &&& (BitVec.ofInt 64 (m : Int))).toNat, ?_, ?_⟩
  · rw [BitVec.toNat_and, BitVec.ofInt_natCast, BitVec.toNat_ofNat, Nat.mod_eq_of_lt (by omega)]
    exact Nat.and_le_right
  · have h : ((BitVec.ofInt 64 z) &&& (BitVec.ofInt 64 (m : Int))).toNat ≤ m := by
      rw [BitVec.toNat_and, BitVec.ofInt_natCast, BitVec.toNat_ofNat, Nat.mod_eq_of_lt (by omega)]
      exact Nat.and_le_right
    simp only [bits]
    rw [IntKind.wrap_i64]
    show (((((BitVec.ofInt 64 z) &&& (BitVec.ofInt 64 (m : Int))).toNat : Nat) : Int) + 9223372036854775808) % 18446744073709551616 - 9223372036854775808 = _
    omega
theorem and255 (z : Int) : ∃ n : Nat, n ≤ 255 ∧ bits .and .i64 z 255 = (n : Int) := and_mask z 255 (by decide)

def Drawn (B : Nat) (a : Option Addr) (len cap : Nat) (g : Nat → Nat) (lim : Nat) (w : World) (e : Ending) (w' : World) : Prop :=
  ∃ x : Nat, x < lim ∧ e = .returned (.int .i64 (x : Int)) ∧ Cur B a len cap g w' ∧ w.grownBy w' (some B)
theorem drawn_set {B : Nat} {a : Option Addr} {len cap : Nat} {g : Nat → Nat} {lim : Nat} {w w2 : World} {i : Nat} {h2 : Int} (q y : Nat) (hg : w.grownBy w2 (some B)) (hc : Cur B a len cap g w2)
    (hb : w2.heap[B]? = some (.cells #[.slice a len cap, .int .i64 i, .int .i64 h2] 108 (0, 0))) (hi : i < len) (hy : y < lim) :
    Drawn B a len cap g lim w (.returned (.int .i64 (y : Int))) ((w2.drewN q).setCell ⟨B, 1, none⟩ (.int .i64 ((i : Int) + 1))) := by
  have hG : w2.grownBy ((w2.drewN q).setCell ⟨B, 1, none⟩ (.int .i64 ((i : Int) + 1))) (some B) := grown_trans (grown_drewN (grown_refl w2 (some B)) q) (grown_set (w2.drewN q) B 1 (.int .i64 ((i : Int) + 1)))
  exact ⟨y, hy, rfl, hc.to hG ⟨i + 1, h2, set1 (w := w2.drewN q) (.int .i64 ((i : Int) + 1)) hb, hi⟩, grown_trans hg hG⟩
theorem drawn_plain {B : Nat} {a : Option Addr} {len cap : Nat} {g : Nat → Nat} {lim : Nat} {w w2 : World} {i : Nat} {h2 : Int} (q q2 y : Nat) (hg : w.grownBy w2 (some B)) (hc : Cur B a len cap g w2)
    (hb : w2.heap[B]? = some (.cells #[.slice a len cap, .int .i64 i, .int .i64 h2] 108 (0, 0))) (hi : i ≤ len) (hy : y < lim) :
    Drawn B a len cap g lim w (.returned (.int .i64 (y : Int))) ((w2.drewN q).drewN q2) := by
  have hG : w2.grownBy ((w2.drewN q).drewN q2) (some B) := grown_drewN (grown_drewN (grown_refl w2 (some B)) q) q2
  exact ⟨y, hy, rfl, hc.to hG ⟨i, h2, hb, hi⟩, grown_trans hg hG⟩
theorem l01Byte_any (B : Nat) (a : Option Addr) (len cap : Nat) (g : Nat → Nat) (w : World) (hc : Cur B a len cap g w) :
    Calls Try.prog 43 #[.pointer (some ⟨B, 0, none⟩)] w (Drawn B a len cap g 256 w) := by
  obtain ⟨i, h, hB, hi⟩ := hc.blk
  have c2 : w.cell? ⟨B, 2, none⟩ = some (.int .i64 h) := by rw [cell_of_row w B 2 _ _ (0, 0) hB]; rfl
  have f2 : w.frozen? ⟨B, 2, none⟩ = false := frozen_of_row w B 2 _ _ hB
  have hfit := hc.fits
  have HB := Lib.hid hB
  clear hB
  have HC := Lib.hid hc
  clear hc
  go_enter Try.func43, Try.ntmps43
  go_wp2
  generalize wrap64 (wrap64 (h * 6364136223846793005) + 1442695040888963407) = h2
  have HB2 := Lib.hid (set2 (.int .i64 h2) HB.out)
  have HG2 := Lib.hid (grown_set w B 2 (.int .i64 h2))
  have HC2 := Lib.hid (HC.out.to HG2.out ⟨i, h2, HB2.out, hi⟩)
  generalize w.setCell ⟨B, 2, none⟩ (.int .i64 h2) = w2 at *
  clear c2 f2 HB HC
  have c0 : w2.cell? ⟨B, 0, none⟩ = some (.slice a len cap) := by rw [cell_of_row w2 B 0 _ _ (0, 0) HB2.out]; rfl
  have c1 : w2.cell? ⟨B, 1, none⟩ = some (.int .i64 i) := by rw [cell_of_row w2 B 1 _ _ (0, 0) HB2.out]; rfl
  have c2 : w2.cell? ⟨B, 2, none⟩ = some (.int .i64 h2) := by rw [cell_of_row w2 B 2 _ _ (0, 0) HB2.out]; rfl
  have f1 : w2.frozen? ⟨B, 1, none⟩ = false := frozen_of_row w2 B 1 _ _ HB2.out
  by_cases hlt : i < len
  · obtain ⟨b, off, rfl, hcell⟩ := HC2.out.row (by omega)
    have hcb := hcell i hlt
    have hgi := HC2.out.small i
    have hne : ¬ (b = B) := by have := HC2.out.low (by omega) b off rfl; omega
    clear hcell
    obtain ⟨x, hx, hxe⟩ := and255 (bits BinOp.xor IntKind.i64 (h2 / 8589934592) (h2 / 35184372088832))
    go_quiet (fail)
    go_wp2
    clear hxe
    go_quiet (fail)
    go_wp2
    obtain ⟨y, hy, hye⟩ := and255 ((x : Int) + (g i : Int))
    have hwr : IntKind.i64.wrap ((x : Int) + (g i : Int)) = (x : Int) + (g i : Int) := by rw [IntKind.wrap_i64]; omega
    go_quiet (fail)
    go_wp2
    go_ret
    exact drawn_set _ y HG2.out HC2.out HB2.out hlt (by omega)
  · obtain ⟨x, hx, hxe⟩ := and255 (bits BinOp.xor IntKind.i64 (h2 / 8589934592) (h2 / 35184372088832))
    go_quiet (fail)
    go_wp2
    clear hxe
    go_quiet (fail)
    go_wp2
    go_ret
    exact drawn_plain _ _ x HG2.out HC2.out HB2.out hi (by omega)

theorem l01Below_small (B : Nat) (a : Option Addr) (len cap : Nat) (g : Nat → Nat) (n : Nat) (w : World) (hc : Cur B a len cap g w) (h0 : 0 < n) (hn : n ≤ 256) :
    Calls Try.prog 80 #[.pointer (some ⟨B, 0, none⟩), .int .i64 (n : Int)] w (Drawn B a len cap g n w) := by
  have g0 : decide ((n : Int) ≤ 0) = false := decide_eq_false (by omega)
  have g1 : decide ((n : Int) ≤ 256) = true := decide_eq_true (by omega)
  have HC := Lib.hid hc
  clear hc
  go_enter Try.func80, Try.ntmps80
  go_wp2_with fail
  refine (l01Byte_any B a len cap g _ HC.out).mono ?_
  rintro e w1 ⟨x, hx, rfl, c1, g1⟩
  have Hc1 := Lib.hid c1
  have Hg1 := Lib.hid g1
  clear c1 g1
  go_wp2
  go_ret
  exact ⟨x % n, Nat.mod_lt _ h0, by simp, Hc1.out, Hg1.out⟩
theorem l01Below_big (B : Nat) (a : Option Addr) (len cap : Nat) (g : Nat → Nat) (n : Nat) (w : World) (hc : Cur B a len cap g w) (hn : 256 < n) (hn2 : n ≤ 9223372036854775807) :
    Calls Try.prog 80 #[.pointer (some ⟨B, 0, none⟩), .int .i64 (n : Int)] w (Drawn B a len cap g n w) := by
  have g0 : decide ((n : Int) ≤ 0) = false := decide_eq_false (by omega)
  have g1 : decide ((n : Int) ≤ 256) = false := decide_eq_false (by omega)
  have HC := Lib.hid hc
  clear hc
  go_enter Try.func80, Try.ntmps80
  go_wp2_with fail
  refine (l01Byte_any B a len cap g _ HC.out).mono ?_
  rintro e w1 ⟨x1, hx1, rfl, c1, r1⟩
  have Hc1 := Lib.hid c1
  have Hr1 := Lib.hid r1
  clear c1 r1
  go_wp2_with fail
  refine (l01Byte_any B a len cap g _ Hc1.out).mono ?_
  rintro e w2 ⟨x2, hx2, rfl, c2, r2⟩
  have Hc2 := Lib.hid c2
  have Hr2 := Lib.hid (grown_trans Hr1.out r2)
  clear c2 r2
  go_wp2_with fail
  refine (l01Byte_any B a len cap g _ Hc2.out).mono ?_
  rintro e w3 ⟨x3, hx3, rfl, c3, r3⟩
  have Hc3 := Lib.hid c3
  have Hr3 := Lib.hid (grown_trans Hr2.out r3)
  clear c3 r3
  go_wp2_with fail
  refine (l01Byte_any B a len cap g _ Hc3.out).mono ?_
  rintro e w4 ⟨x4, hx4, rfl, c4, r4⟩
  have Hc4 := Lib.hid c4
  have Hr4 := Lib.hid (grown_trans Hr3.out r4)
  clear c4 r4
  go_wp2
  go_ret
  exact ⟨(x1 * 16777216 + x2 * 65536 + x3 * 256 + x4) % n, Nat.mod_lt _ (by omega), by simp, Hc4.out, Hr4.out⟩
theorem l01Below_any (B : Nat) (a : Option Addr) (len cap : Nat) (g : Nat → Nat) (n : Nat) (w : World) (hc : Cur B a len cap g w) (h0 : 0 < n) (hn2 : n ≤ 9223372036854775807) :
    Calls Try.prog 80 #[.pointer (some ⟨B, 0, none⟩), .int .i64 (n : Int)] w (Drawn B a len cap g n w) := by
  by_cases h : n ≤ 256
  · exact l01Below_small B a len cap g n w hc h0 h
  · exact l01Below_big B a len cap g n w hc (by omega) hn2

def CurMade (a : Option Addr) (len cap : Nat) (g : Nat → Nat) (w : World) (e : Ending) (w' : World) : Prop :=
  ∃ B, e = .returned (.pointer (some ⟨B, 0, none⟩)) ∧ w.heap.size ≤ B ∧ Cur B a len cap g w' ∧ Below w.heap.size w w'
theorem cur_made {a : Option Addr} {len cap : Nat} {g : Nat → Nat} {w : World} (h : Int) (hr : ByteRow w a len g) (hg : ∀ i, g i ≤ 255) (hl : len ≤ 1048576) :
    CurMade a len cap g w (.returned (.pointer (some ⟨w.heap.size, 0, none⟩))) (w.alloc (.cells #[.slice a len cap, .int .i64 0, .int .i64 h] 108)) := by
  have hb : Below w.heap.size w (w.alloc (.cells #[.slice a len cap, .int .i64 0, .int .i64 h] 108)) := (Below.refl _ _).alloc (Nat.le_refl _) _
  refine ⟨w.heap.size, rfl, Nat.le_refl _, ⟨⟨0, h, heap_alloc_new w _, Nat.zero_le _⟩, hr.below hb (Nat.le_refl _), fun h0 b off e => ?_, hg, by omega⟩, hb⟩
  obtain ⟨b', off', e', hc⟩ := hr h0
  rw [e'] at e
  simp only [Option.some.injEq, Addr.mk.injEq] at e
  rw [← e.1]
  exact World.block_lt_of_cell? w _ (hc 0 h0)
set_option maxRecDepth 100000 in
theorem l01New_any (a : Option Addr) (len cap : Nat) (g : Nat → Nat) (w : World) (hr : ByteRow w a len g) (hg : ∀ i, g i ≤ 255) (hl : len ≤ 1048576) :
    Calls Try.prog 79 #[.slice a len cap] w (CurMade a len cap g w) := by
  have HR := Lib.hid hr
  have HG := Lib.hid hg
  clear hr hg
  go_enter Try.func79, Try.ntmps79
  go_wp2
  go_loop [3, 4] (fun hv i => ∃ (j : Nat) (h : Int), j ≤ len ∧ i = .int .i64 j ∧ hv = .int .i64 h) (fun _ i => len - (RowKit.intOf i).toNat)
  case atStart => exact ⟨0, _, Nat.zero_le _, rfl, rfl⟩
  case round =>
    obtain ⟨j, h, hj, rfl, rfl⟩ := hrel
    by_cases hlt : j < len
    · by_cases h4 : j < 4000
      · obtain ⟨b, off, rfl, hcell⟩ := HR.out (by omega)
        have hc := hcell j hlt
        have hgj := HG.out j
        clear hcell
        go_wp2
        go_round
        case rel => exact ⟨j + 1, _, by omega, by go_num, rfl⟩
        case measure => simp [RowKit.intOf]; omega
      · go_wp2
        go_ret
        exact cur_made h HR.out HG.out hl
    · go_wp2
      go_ret
      exact cur_made h HR.out HG.out hl

theorem l27New_any (a : Option Addr) (len cap n : Nat) (g : Nat → Nat) (w : World) (hr : ByteRow w a len g) (hg : ∀ i, g i ≤ 255) (hl : len ≤ 1048576) (hn : n ≤ 1000000) :
    Calls Try.prog 42 #[.slice a len cap, .int .i64 (n : Int)] w (CurMade a len cap g w) := by
  have C := Lib.hid (l01New_any a len cap g w hr hg hl)
  clear hr hg hl
  go_enter Try.func42, Try.ntmps42
  go_wp2_with fail
  refine C.out.mono ?_
  rintro e w1 ⟨B, rfl, hB, hc, hb⟩
  clear C
  have HC := Lib.hid hc
  clear hc
  go_wp2_with fail
  go_loopw [6] (fun i wr => ∃ j : Nat, j ≤ n ∧ i = .int .i64 j ∧ Hid (Cur B a len cap g wr) ∧ Below w.heap.size w wr) (fun i _ => n - (RowKit.intOf i).toNat)
  case atStart => exact ⟨0, Nat.zero_le _, rfl, HC.out, hb⟩
  case round =>
    obtain ⟨j, hj, rfl, hcr, hbr⟩ := hrel
    clear HC hb
    by_cases hlt : j < n
    · go_wp2_with (go_at_call 43; refine (l01Byte_any B a len cap g _ hcr.out).mono ?_; rintro e w2 ⟨x, hx, rfl, c2, r2⟩; have hk := Lib.hid c2; clear c2)
      go_roundw
      case rel =>
        have hsz := hbr.size
        exact ⟨j + 1, by omega, by go_num, by assumption, hbr.grown (by assumption) hsz (fun k hk => by cases hk; exact hB)⟩
      case measure => simp [RowKit.intOf]; omega
    · go_wp2
      go_ret
      exact ⟨B, rfl, hB, hcr.out, hbr⟩
theorem makeNum_any (a : Option Addr) (len cap n : Nat) (g : Nat → Nat) (w : World) (hr : ByteRow w a len g) (hg : ∀ i, g i ≤ 255) (hl : len ≤ 1048576) (hn : n ≤ 1000000) :
    Calls Try.prog 11 #[.slice a len cap, .int .i64 (n : Int)] w fun e w' => (∃ x : Nat, x < 65536 ∧ e = .returned (.int .i64 (x : Int))) ∧ Below w.heap.size w w' := by
  have C := Lib.hid (l27New_any a len cap n g w hr hg hl hn)
  clear hr hg hl
  go_enter Try.func11, Try.ntmps11
  go_wp2_with fail
  refine C.out.mono ?_
  rintro e w1 ⟨B, rfl, hB, hc, hb⟩
  clear C
  have HC := Lib.hid hc
  clear hc
  go_wp2_with fail
  refine (l01Byte_any B a len cap g _ HC.out).mono ?_
  rintro e w2 ⟨x, hx, rfl, c2, r2⟩
  have hs1 := hb.size
  have hb2 := hb.grown r2 hs1 (fun k hk => by cases hk; exact hB)
  have HC2 := Lib.hid c2
  clear c2 r2 HC
  go_wp2_with fail
  refine (l01Byte_any B a len cap g _ HC2.out).mono ?_
  rintro e w3 ⟨y, hy, rfl, c3, r3⟩
  have hs2 := hb2.size
  have hb3 := hb2.grown r3 hs2 (fun k hk => by cases hk; exact hB)
  clear c3 r3 HC2
  go_wp2
  go_ret
  exact ⟨⟨x * 256 + y, by omega, by simp⟩, hb3⟩

def mtL : Nat → ByteArray
  | 0 => ⟨#[97]⟩
  | 1 => ⟨#[98, 99]⟩
  | 2 => ⟨#[32]⟩
  | 3 => ⟨#[44]⟩
  | _ => ⟨#[120, 49]⟩
theorem mtL_size (i : Nat) : (mtL i).size ≤ 2 := by
  match i with
  | 0 => decide
  | 1 => decide
  | 2 => decide
  | 3 => decide
  | n + 4 => show (2 : Nat) ≤ 2; omega
end Go.Proofs.Ytfkfolglfmmkoaa
set_option linter.unusedVariables false
namespace Go.Proofs.Ytfkfolglfmmkoaa
open Go.RowKit

theorem IsRow.ints {w : World} {a : Option Addr} {len cap : Nat} {zs : List Int} (h : IsRow .i64 w a len cap zs) : IntRow w (.slice a len cap) len (getI zs) ∧ len ≤ 9223372036854775807 := by
  rcases h with ⟨rfl, rfl, rfl, rfl⟩ | ⟨x, rfl, hl, hm, hz, hc, _⟩
  · exact ⟨.inl ⟨_, _, rfl, rfl⟩, by omega⟩
  · unfold maxLen at hm
    refine ⟨?_, by omega⟩
    by_cases h0 : len = 0
    · subst h0; exact .inl ⟨_, _, rfl, rfl⟩
    · obtain ⟨b, off, spot⟩ := x
      have hspot : spot = none := by simpa [Addr.add] using World.cell?_spot (hc 0 (by omega))
      subst hspot
      refine .inr ⟨b, off, cap, rfl, by omega, by omega, fun i hi => ?_, hl⟩
      have hadd : (⟨b, off, none⟩ : Addr).add i = ⟨b, off + i, none⟩ := by unfold Addr.add; split <;> simp_all
      rw [← hadd]
      exact hc i (by omega)

theorem slicesIndex_int (v : Value) (n : Nat) (g : Nat → Int) (x : Int) (w : World) (h : IntRow w v n g) :
    Calls Try.prog 118 #[v, .int .i64 x] w fun e w' => e = .returned (.int .i64 (placeI g x n 0)) ∧ w = w' := by
  obtain ⟨a, cap, rfl, hn, hv⟩ := h.form
  have HV := Lib.hid hv
  clear hv h
  generalize hr : placeI g x n 0 = R
  have HR := Lib.hid hr
  clear hr
  go_enter Try.func118, Try.ntmps118
  go_wp2
  go_loop [8] (fun i => ∃ k : Nat, k ≤ n ∧ i = .int .i64 k ∧ Hid (placeI g x (n - k) k = R)) (fun i => n - (RowKit.intOf i).toNat)
  case atStart => exact ⟨0, Nat.zero_le _, rfl, HR.out⟩
  case round =>
    obtain ⟨k, hk, rfl, hp⟩ := hrel
    by_cases hlt : k < n
    · obtain ⟨b, off, rfl, hc⟩ := HV.out (by omega)
      have c1 := hc k hlt
      have hstep : (if g k = x then (k : Int) else placeI g x (n - (k + 1)) (k + 1)) = R := by
        have := hp.out
        rw [show n - k = n - (k + 1) + 1 by omega] at this
        exact this
      clear hc HV hp
      by_cases hx : g k = x
      · rw [if_pos hx] at hstep
        subst hstep
        clear HR
        rw [hx] at c1
        clear hx
        go_wp2
        go_ret
        exact ⟨rfl, rfl⟩
      · rw [if_neg hx] at hstep
        have HS := Lib.hid hstep
        have g1 : (x == g k) = false := by simpa using fun h : x = g k => hx h.symm
        clear hx hstep
        generalize g k = y at c1 g1
        go_wp2
        go_round
        case rel => exact ⟨k + 1, by omega, by go_num, HS.out⟩
        case measure => simp [RowKit.intOf]; omega
    · obtain rfl : k = n := by omega
      have hR : R = -1 := by rw [← hp.out, Nat.sub_self]; rfl
      subst hR
      clear hp HR
      go_wp2
      go_ret
      exact ⟨rfl, rfl⟩
def Seen8 (w : World) (B : Nat) (S : Nat → Bool) : Prop := B < w.heap.size ∧ ∀ j, j < 8 → w.cell? ⟨B, j, none⟩ = some (.bool (S j)) ∧ w.frozen? ⟨B, j, none⟩ = false
theorem Seen8.made (w : World) (t : TypeId) : Seen8 (w.alloc (.cells #[.bool false, .bool false, .bool false, .bool false, .bool false, .bool false, .bool false, .bool false] t)) w.heap.size (fun _ => false) := by
  refine ⟨by simp, fun j hj => ⟨?_, ?_⟩⟩
  · rw [cell_of_row _ w.heap.size j _ t (0, 0) (heap_alloc_new w _)]
    have : j = 0 ∨ j = 1 ∨ j = 2 ∨ j = 3 ∨ j = 4 ∨ j = 5 ∨ j = 6 ∨ j = 7 := by omega
    rcases this with rfl | rfl | rfl | rfl | rfl | rfl | rfl | rfl <;> rfl
  · exact frozen_of_row _ w.heap.size j _ t (heap_alloc_new w _)
theorem Seen8.set {w : World} {B : Nat} {S : Nat → Bool} (h : Seen8 w B S) (m : Nat) (hm : m < 8) : Seen8 (w.setCell ⟨B, m, none⟩ (.bool true)) B (fun j => S j || decide (j = m)) := by
  refine ⟨by simpa [World.setCell] using h.1, fun j hj => ⟨?_, (World.frozen?_setCell _ _ _ _).trans (h.2 j hj).2⟩⟩
  by_cases hjm : j = m
  · subst hjm
    rw [World.cell?_setCell_same' _ _ _ (by rw [(h.2 j hj).1]; rfl)]
    simp
  · rw [World.cell?_setCell_other _ _ _ _ (by intro e; simp only [Addr.mk.injEq] at e; omega), (h.2 j hj).1]
    simp [hjm]
end Go.Proofs.Ytfkfolglfmmkoaa
set_option linter.unusedVariables false
namespace Go.Proofs.Ytfkfolglfmmkoaa
open Go.RowKit

theorem placeI_pos (g : Nat → Int) (x : Int) (r : Nat) : ∀ k, 0 ≤ placeI g x r k ↔ ∃ j, k ≤ j ∧ j < k + r ∧ g j = x := by
  induction r with
  | zero => intro k; unfold placeI; constructor
            · intro h; omega
            · rintro ⟨j, h1, h2, _⟩; omega
  | succ r ih =>
    intro k
    unfold placeI
    by_cases h : g k = x
    · rw [if_pos h]
      exact ⟨fun _ => ⟨k, Nat.le_refl _, by omega, h⟩, fun _ => by omega⟩
    · rw [if_neg h, ih (k + 1)]
      constructor
      · rintro ⟨j, h1, h2, h3⟩; exact ⟨j, by omega, by omega, h3⟩
      · rintro ⟨j, h1, h2, h3⟩
        refine ⟨j, ?_, by omega, h3⟩
        rcases Nat.lt_or_ge k j with h4 | h4
        · omega
        · obtain rfl : j = k := by omega
          exact absurd h3 h
theorem placeI_has (g : Nat → Int) (x : Int) (n : Nat) : 0 ≤ placeI g x n 0 ↔ hasP g x n := by
  rw [placeI_pos]
  constructor
  · rintro ⟨j, _, h2, h3⟩; exact ⟨j, by omega, h3⟩
  · rintro ⟨j, h2, h3⟩; exact ⟨j, by omega, by omega, h3⟩
theorem slicesContains_int (v : Value) (n : Nat) (g : Nat → Int) (x : Int) (R : Bool) (w : World) (hR : R = true ↔ hasP g x n) (h : IntRow w v n g) :
    Calls Try.prog 97 #[v, .int .i64 x] w fun e w' => e = .returned (.bool R) ∧ w = w' := by
  have H := Lib.hid (slicesIndex_int v n g x w h)
  have hp : R = decide (0 ≤ placeI g x n 0) := by
    rw [Bool.eq_iff_iff, hR, decide_eq_true_eq, placeI_has]
  generalize placeI g x n 0 = q at *
  subst hp
  clear h hR
  go_enter Try.func97, Try.ntmps97
  go_wp2_with (go_at_call 118; refine H.out.mono ?_; rintro e w' ⟨rfl, rfl⟩)
  go_ret
  exact ⟨rfl, rfl⟩
theorem cells5 {w w2 : World} {t : TypeId} {a b c d f : Value} (h : Below (w.alloc (.cells #[a, b, c, d, f] t)).heap.size (w.alloc (.cells #[a, b, c, d, f] t)) w2) :
    w2.cell? ⟨w.heap.size, 0, none⟩ = some a ∧ w2.cell? ⟨w.heap.size, 1, none⟩ = some b ∧ w2.cell? ⟨w.heap.size, 2, none⟩ = some c ∧ w2.cell? ⟨w.heap.size, 3, none⟩ = some d ∧ w2.cell? ⟨w.heap.size, 4, none⟩ = some f := by
  have k : ∀ j, w2.cell? ⟨w.heap.size, j, none⟩ = #[a, b, c, d, f][j]? := fun j => by
    rw [h.cell (p := ⟨w.heap.size, j, none⟩) (by simp), cell_of_row _ w.heap.size j _ t (0, 0) (heap_alloc_new w _)]
  exact ⟨k 0, k 1, k 2, k 3, k 4⟩
theorem cells5_below {w w2 : World} {B : Nat} {a b c d f : Value} (k : w.cell? ⟨B, 0, none⟩ = some a ∧ w.cell? ⟨B, 1, none⟩ = some b ∧ w.cell? ⟨B, 2, none⟩ = some c ∧ w.cell? ⟨B, 3, none⟩ = some d ∧ w.cell? ⟨B, 4, none⟩ = some f) (h : Below w.heap.size w w2) :
    w2.cell? ⟨B, 0, none⟩ = some a ∧ w2.cell? ⟨B, 1, none⟩ = some b ∧ w2.cell? ⟨B, 2, none⟩ = some c ∧ w2.cell? ⟨B, 3, none⟩ = some d ∧ w2.cell? ⟨B, 4, none⟩ = some f := by
  have hb : B < w.heap.size := World.block_lt_of_cell? w _ k.1
  exact ⟨(h.cell (p := ⟨B, 0, none⟩) hb).trans k.1, (h.cell (p := ⟨B, 1, none⟩) hb).trans k.2.1, (h.cell (p := ⟨B, 2, none⟩) hb).trans k.2.2.1, (h.cell (p := ⟨B, 3, none⟩) hb).trans k.2.2.2.1, (h.cell (p := ⟨B, 4, none⟩) hb).trans k.2.2.2.2⟩
def decisiveP (win draw loss : Int) (n : Nat) (g : Nat → Int) : Prop := rulesP win draw loss n g ∧ hasP g 8 n
end Go.Proofs.Ytfkfolglfmmkoaa
