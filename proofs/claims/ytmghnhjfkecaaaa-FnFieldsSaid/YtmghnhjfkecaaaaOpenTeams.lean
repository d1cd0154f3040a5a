/-
  What the frame of a proof wants of arguments that are teams, or lists of them: opened.
-/
import Derived.Test.YtmghnhjfkecaaaaTeams
import Derived.Deep.Slices
import Derived.Deep.Strs
import Derived.Lib.SmallJoins
import Derived.ChangeOld
import Derived.OpenShut
import Derived.ShutString
set_option linter.unusedVariables false
namespace Go.Proofs.Ytmghnhjfkecaaaa
open Go.RowKit Go.ChangeShapes Go.WideShapes

/-- a team as arguments can hold it -/
def TeamFit (t : TeamD) : Prop := t.nm.size ≤ maxLen ∧ (Lit.int .i64 t.club).wf = true ∧ (Lit.int .i64 t.seed).wf = true
instance : Inhabited TeamD := ⟨⟨ByteArray.empty, 0, 0⟩⟩
section
variable {H : Type} {enc : TypeId × Value → H} {P : Program} {w : World} {base : Nat} {spare : Nat → Bool} {held : Bool}
theorem open_teams {t e : TypeId} {f0 f1 f2 : Field} {fuel : Nat} {cs : List Value} {x : DataW H × List MemPlace} (ht : P.underlying t = some (.slice e)) (he : P.underlying e = some (.struct #[f0, f1, f2]))
    (ce : P.cellsOf e = 3) (o0 : f0.offset = 0) (o1 : f1.offset = 1) (o2 : f2.offset = 2) (c0 : P.cellsOf f0.type = 1) (c1 : P.cellsOf f1.type = 1) (c2 : P.cellsOf f2.type = 1)
    (u0 : P.underlying f0.type = some .string) (u1 : P.underlying f1.type = some (.int .i64)) (u2 : P.underlying f2.type = some (.int .i64))
    (h : DataW.trod enc P w base spare held fuel t cs = some x) :
    cs = [.slice none 0 0] ∨ ∃ (a : Addr) (len cap : Nat) (g : Nat → TeamD), cs = [.slice (some a) len cap] ∧ len ≤ cap ∧ cap ≤ maxLen ∧
      ∀ i, i < len → (w.cell? (a.add (i * 3)) = some (.string (g i).nm) ∧ w.cell? (a.add (i * 3 + 1)) = some (.int .i64 (g i).club) ∧ w.cell? (a.add (i * 3 + 2)) = some (.int .i64 (g i).seed)) ∧ TeamFit (g i) := by
  rcases Go.Deep.open_slice ht h with ⟨h0, _⟩ | ⟨a, len, cap, m, n, D, Pl, rfl, hb, hl, hm, hmm, rfl, hx⟩
  · exact .inl h0
  right
  have hlm : len ≤ m := by rw [hmm]; split <;> omega
  have each : ∀ i, i < len → ∃ q : TeamD, (w.cell? (a.add (i * 3)) = some (.string q.nm) ∧ w.cell? (a.add (i * 3 + 1)) = some (.int .i64 q.club) ∧ w.cell? (a.add (i * 3 + 2)) = some (.int .i64 q.seed)) ∧ TeamFit q := by
    intro i hi
    obtain ⟨cs', h1, h2⟩ := hx i (by omega)
    rw [ce] at h1
    obtain ⟨_, hlen, hcell⟩ := World.cells?_some h1
    obtain ⟨xs, k, hk, hxy, _, hxl, hf⟩ := DataW.trod_struct he h2
    match xs, hxl, cs', hlen with
    | [y0, y1, y2], _, [v0, v1, v2], _ =>
      have g0 := hf 0 f0 rfl
      have g1 := hf 1 f1 rfl
      have g2 := hf 2 f2 rfl
      simp [o0, o1, o2, c0, c1, c2] at g0 g1 g2
      obtain ⟨s, hs, _, hw⟩ := DataW.trod_string u0 g0
      obtain ⟨z1, hz1, _, k1⟩ := DataW.trod_int u1 g1
      obtain ⟨z2, hz2, _, k2⟩ := DataW.trod_int u2 g2
      have e0 := hcell 0 (by omega)
      have e1 := hcell 1 (by omega)
      have e2 := hcell 2 (by omega)
      rw [Go.Deep.add_add] at e0 e1 e2
      simp only [List.cons.injEq, and_true] at hs hz1 hz2
      subst hs; subst hz1; subst hz2
      exact ⟨⟨s, z1, z2⟩, ⟨by simpa using e0, by simpa using e1, by simpa using e2⟩, hw, k1, k2⟩
  obtain ⟨g, hg⟩ := Go.Deep.choose_lt each
  exact ⟨a, len, cap, g, rfl, hl, hm, hg⟩
end
/-- the row of an argument -/
theorem teamRow_of_open {w : World} {v : Value} {a : Option Addr} {n c : Nat} (hv : v = .slice a n c)
    (h : ([v] : List Value) = [.slice none 0 0] ∨ ∃ (a : Addr) (len cap : Nat) (g : Nat → TeamD), [v] = [.slice (some a) len cap] ∧ len ≤ cap ∧ cap ≤ maxLen ∧
      ∀ i, i < len → (w.cell? (a.add (i * 3)) = some (.string (g i).nm) ∧ w.cell? (a.add (i * 3 + 1)) = some (.int .i64 (g i).club) ∧ w.cell? (a.add (i * 3 + 2)) = some (.int .i64 (g i).seed)) ∧ TeamFit (g i)) :
    ∃ g, TeamRow w v n g ∧ (∀ i, (g i).nm.size ≤ maxLen) ∧ ∀ i, TeamFit (g i) := by
  subst hv
  have hz : TeamFit default := ⟨Nat.zero_le _, WalkArith.wf_i64 (by decide), WalkArith.wf_i64 (by decide)⟩
  rcases h with h | ⟨x, len, cap, g, h, hl, hm, hg⟩
  · simp only [List.cons.injEq, Value.slice.injEq, and_true] at h
    obtain ⟨rfl, rfl, rfl⟩ := h
    exact ⟨fun _ => default, .inl ⟨_, _, rfl, rfl⟩, fun _ => hz.1, fun _ => hz⟩
  · simp only [List.cons.injEq, Value.slice.injEq, and_true] at h
    obtain ⟨rfl, rfl, rfl⟩ := h
    have hfit : ∀ i, TeamFit (if i < n then g i else default) := fun i => by
      by_cases hi : i < n
      · simpa [hi] using (hg i hi).2
      · simpa [hi] using hz
    refine ⟨fun i => if i < n then g i else default, ?_, fun i => (hfit i).1, hfit⟩
    by_cases h0 : n = 0
    · subst h0; exact .inl ⟨_, _, rfl, rfl⟩
    · obtain ⟨b, off, spot⟩ := x
      have hspot : spot = none := by simpa [Addr.add] using World.cell?_spot (hg 0 (by omega)).1.1
      subst hspot
      refine .inr ⟨b, off, c, rfl, by omega, by unfold maxLen at hm; omega, fun i hi => ?_, hl⟩
      have hadd : ∀ j, (⟨b, off, none⟩ : Addr).add j = ⟨b, off + j, none⟩ := fun j => by unfold Addr.add; split <;> simp_all
      have := (hg i hi).1
      simp only [hadd] at this
      simpa [hi, Nat.add_assoc] using this
end Go.Proofs.Ytmghnhjfkecaaaa
