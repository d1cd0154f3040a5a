/-
  Packed: Kit, Ints, LawKit, Lists, Push, OpenAgg, Recs, Push2.
-/
import Derived.WalkKit
import Derived.Lib.LaidTab
import Derived.Lib.Hide
import Derived.Deep.QuietTactic
import Derived.BigQuiet
import Derived.Test.YteciobkjfmddcaaGreatDoorProg
import Derived.Outline
import Derived.Deep.AppendLies
import Derived.Deep.Slices
import Derived.Deep.Fields
import Derived.Lib.SmallJoins
import Derived.ChangeOld
import Derived.ChangeSame
import Derived.OpenShut
import Derived.ShutString
import Derived.Laws.AppendOwnNone
set_option linter.unusedVariables false
namespace Go.Proofs.YteciobkjfmddcaaGreatDoor
open Go.RowKit

theorem below_grown {w w' : World} {B : Nat} (h : Below B w w') (hB : w.heap.size ≤ B) : w.grownBy w' none :=
  ⟨h.os, h.tape, h.output, h.size, fun k hk _ => h.block k (Nat.lt_of_lt_of_le hk hB)⟩
theorem owns_below {w w' : World} {base B : Nat} {e : TypeId} {size : Nat} {v : Value} {n : Nat} {xs : List Value} (h : w.ownsRow base e size v n xs) (hb : Below B w w') (hB : w.heap.size ≤ B) :
    w'.ownsRow base e size v n xs := h.kept (below_grown hb hB) (by cases hv : v.ownBlock <;> simp)
theorem owns_drewN {w : World} {base : Nat} {e : TypeId} {size : Nat} {v : Value} {n q : Nat} {xs : List Value} (h : w.ownsRow base e size v n xs) : (w.drewN q).ownsRow base e size v n xs := h
theorem below_drewN {B : Nat} {a w : World} (h : Below B a w) (q : Nat) : Below B a (w.drewN q) := ⟨h.os, h.tape, h.output, h.size, h.block⟩
theorem owns_kept {w w' : World} {base B : Nat} {e : TypeId} {size : Nat} {v : Value} {n : Nat} {xs : List Value} (h : w.ownsRow base e size v n xs) (hb : Below B w w') (hv : ∀ k, v.ownBlock = some k → k < B) :
    w'.ownsRow base e size v n xs := by
  refine ⟨h.1, ?_⟩
  rcases h.2 with hn | ⟨g, cap, cur, rfl, hbg, hgg, rest⟩
  · exact .inl hn
  · exact .inr ⟨g, cap, cur, rfl, hbg, (hb.block g (hv g rfl)).trans hgg, rest⟩
theorem owns_mono {w : World} {base base' : Nat} {e : TypeId} {size : Nat} {v : Value} {n : Nat} {xs : List Value} (h : w.ownsRow base e size v n xs) (hb : base' ≤ base) : w.ownsRow base' e size v n xs := by
  refine ⟨h.1, ?_⟩
  rcases h.2 with hn | ⟨g, cap, cur, rfl, hbg, hgg, rest⟩
  · exact .inl hn
  · exact .inr ⟨g, cap, cur, rfl, Nat.le_trans hb hbg, hgg, rest⟩
theorem owns_some {w : World} {base : Nat} {e : TypeId} {v : Value} {n : Nat} {xs : List Value} (h : w.ownsRow base e 1 v n xs) (j : Nat) (hj : j < n) : ∃ u, xs[j]? = some u :=
  ⟨xs[j]'(by have := h.1; omega), List.getElem?_eq_getElem _⟩
theorem owns_cell {w : World} {base : Nat} {e : TypeId} {g n cap : Nat} {xs : List Value} (h : w.ownsRow base e 1 (.slice (some ⟨g, 0, none⟩) n cap) n xs) (j : Nat) (hj : j < n) {u : Value} (hu : Hid (xs[j]? = some u)) :
    w.cell? ⟨g, j, none⟩ = some u := by rw [h.cellAt j (by omega)]; exact hu

theorem owns_take {w : World} {base : Nat} {e : TypeId} {size g n cap : Nat} {xs : List Value} (h : w.ownsRow base e size (.slice (some ⟨g, 0, none⟩) n cap) n xs) (m : Nat) (hm : m ≤ n) :
    w.ownsRow base e size (.slice (some ⟨g, 0, none⟩) m cap) m (xs.take (m * size)) := by
  refine ⟨by rw [List.length_take, h.1]; exact Nat.min_eq_left (Nat.mul_le_mul_right _ hm), ?_⟩
  rcases h.2 with ⟨h', _⟩ | ⟨g', cap', cur, h', hb, hg, hnc, hcm, hcs, htake⟩
  · simp at h'
  · simp only [Value.slice.injEq, Option.some.injEq, Addr.mk.injEq, and_true, true_and] at h'
    obtain ⟨rfl, rfl⟩ := h'
    refine .inr ⟨g, cap, cur, rfl, hb, hg, Nat.le_trans hm hnc, hcm, hcs, ?_⟩
    rw [← htake, List.take_take, Nat.min_eq_left (Nat.mul_le_mul_right _ hm)]

theorem wpList_push {P : Program} {w : World} {ops : Array Oper} {rest : List Oper} {o : Oper} {a : Act} {Q : Exit → Act → World → Prop} (hgd : o.guard = none) (s x : Operand) (t : TypeId)
    (ho : o.op = .call { callee := .builtin .append, args := #[s, x], argTypes := #[t, t] })
    (base : Nat) (e : TypeId) {i : TypeInfo} {z : Value} {size bytes : Nat} (ht : P.underlying t = some (.slice e)) (hi : P.info? e = some i) (hz : i.zero = some z)
    (hsize : i.size = size) (hby : i.bytes = bytes) (hzs : z.cells.size = size) (hsz : 0 < size)
    (cs : List Value) (hcs : cs.length = size) (h1 : ∀ u ∈ cs, u.oneCell' = true)
    {v : Value} {n : Nat} {xs : List Value} (hs : a.eval s = v) (hx : a.eval x = .slice (some ⟨w.heap.size, 0, none⟩) 1 1) (hown : w.ownsRow base e size v n xs)
    (h63 : n + 1 ≤ maxLen) (hbytes : (n + 1) * bytes ≤ 140737488355328) (hbase : base ≤ w.heap.size)
    (h : ∀ v' w', w'.ownsRow base e size v' (n + 1) (xs ++ cs) → w.grownBy w' v.ownBlock → wpList P ops Q rest (a.put o.dst v') w') : wpList P ops Q (o :: rest) a (w.alloc (.cells cs.toArray e)) := by
  have hcell : ∀ (j : Nat) (u : Value), cs[j]? = some u → (w.alloc (.cells cs.toArray e)).cell? ((⟨w.heap.size, 0, none⟩ : Addr).add j) = some u := by
    intro j u hu
    have hadd : (⟨w.heap.size, 0, none⟩ : Addr).add j = ⟨w.heap.size, j, none⟩ := by unfold Addr.add; split <;> simp_all
    rw [hadd, cell_of_row _ w.heap.size j cs.toArray e (0, 0) (heap_alloc_new w _)]
    simpa using hu
  refine wpList_append_own _ hgd s x t ho base e i z size bytes ht hi hz hsize hby hzs hsz v n xs hs (hown.alloc _) ⟨w.heap.size, 0, none⟩ 1 1 cs hx (by simpa using hcs) hcell h1 h63 hbytes (by simp; omega) ?_
  intro v' w' h2 h3 _
  have hg0 := World.grownBy_alloc w (.cells cs.toArray e) v.ownBlock
  refine h v' w' h2 ⟨h3.os.trans hg0.os, h3.tape.trans hg0.tape, h3.output.trans hg0.output, Nat.le_trans hg0.size h3.size, fun k hk hne => ?_⟩
  rw [h3.block k (Nat.lt_of_lt_of_le hk hg0.size) hne, hg0.block k hk hne]
theorem below_push {B : Nat} {a w w' : World} {base : Nat} {e : TypeId} {size : Nat} {v : Value} {n : Nat} {xs : List Value} (h : Below B a w) (hown : w.ownsRow base e size v n xs) (hg : w.grownBy w' v.ownBlock) (hB : B ≤ base) (hsz : B ≤ w.heap.size) : Below B a w' :=
  h.grown hg hsz fun k hk => Nat.le_trans hB (hown.lt k hk).1

def VarAt (w : World) (g : Nat) (cs : Array Value) : Prop := ∃ t fz, w.heap[g]? = some (.cells cs t fz)
theorem VarAt.below {w w' : World} {B g : Nat} {cs : Array Value} (h : VarAt w g cs) (hb : Below B w w') (hB : w.heap.size ≤ B) : VarAt w' g cs := by
  obtain ⟨t, fz, hg⟩ := h
  exact ⟨t, fz, (hb.block g (Nat.lt_of_lt_of_le (Array.getElem?_eq_some_iff.1 hg).1 hB)).trans hg⟩
theorem var_of_at {P : Program} {w : World} {nm : String} {g : Nat} {cs : Array Value} (hg : P.globalNamed nm = some g) (h : VarAt w g cs) : w.var? P nm = some cs := by
  obtain ⟨t, fz, hh⟩ := h
  simp [World.var?, hg, hh]
theorem at_of_var {P : Program} {w : World} {nm : String} {g : Nat} {cs : Array Value} (hg : P.globalNamed nm = some g) (h : w.var? P nm = some cs) : VarAt w g cs := by
  unfold World.var? at h
  simp only [hg, Option.bind_some] at h
  split at h
  · rename_i c t fz hh
    cases h
    exact ⟨t, fz, hh⟩
  · cases h
theorem tabIs_of_at {P : Program} {w : World} {nm : String} {g : Nat} {k : IntKind} {zs : List Int} (hg : P.globalNamed nm = some g) (h : VarAt w g (zs.map fun z => Value.int k z).toArray) : Lib.TabIs P w nm k zs := var_of_at hg h

theorem owns_cells3 {w : World} {base : Nat} {e : TypeId} {g n cap : Nat} {xs : List Value} (h : w.ownsRow base e 3 (.slice (some ⟨g, 0, none⟩) n cap) n xs) (j : Nat) (hj : j < n) :
    (∃ u, w.cell? ⟨g, j * 3, none⟩ = some u) ∧ (∃ u, w.cell? ⟨g, j * 3 + 1, none⟩ = some u) ∧ ∃ u, w.cell? ⟨g, j * 3 + 2, none⟩ = some u := by
  have hl := h.1
  refine ⟨⟨xs[j * 3]'(by omega), ?_⟩, ⟨xs[j * 3 + 1]'(by omega), ?_⟩, ⟨xs[j * 3 + 2]'(by omega), ?_⟩⟩
  · rw [h.cellAt _ (by omega)]; exact List.getElem?_eq_getElem _
  · rw [h.cellAt _ (by omega)]; exact List.getElem?_eq_getElem _
  · rw [h.cellAt _ (by omega)]; exact List.getElem?_eq_getElem _
theorem owns_set3 {w : World} {base : Nat} {e : TypeId} {g n cap : Nat} {xs : List Value} (h : w.ownsRow base e 3 (.slice (some ⟨g, 0, none⟩) n cap) n xs) (j : Nat) (u0 u1 u2 : Value) :
    (((w.setCell ⟨g, j * 3, none⟩ u0).setCell ⟨g, j * 3 + 1, none⟩ u1).setCell ⟨g, j * 3 + 2, none⟩ u2).ownsRow base e 3 (.slice (some ⟨g, 0, none⟩) n cap) n (((xs.set (j * 3) u0).set (j * 3 + 1) u1).set (j * 3 + 2) u2) :=
  (((h.stored (j * 3) u0).1.stored (j * 3 + 1) u1).1.stored (j * 3 + 2) u2).1
theorem set3_at {xs : List Value} {n j : Nat} (hl : xs.length = n * 3) (hj : j < n) (u0 u1 u2 : Value) :
    (((xs.set (j * 3) u0).set (j * 3 + 1) u1).set (j * 3 + 2) u2)[j * 3]? = some u0 ∧ (((xs.set (j * 3) u0).set (j * 3 + 1) u1).set (j * 3 + 2) u2)[j * 3 + 1]? = some u1 ∧
      (((xs.set (j * 3) u0).set (j * 3 + 1) u1).set (j * 3 + 2) u2)[j * 3 + 2]? = some u2 := by
  refine ⟨?_, ?_, ?_⟩
  · rw [List.getElem?_set_ne (by omega), List.getElem?_set_ne (by omega), List.getElem?_set_self (by omega)]
  · rw [List.getElem?_set_ne (by omega), List.getElem?_set_self (by simp; omega)]
  · rw [List.getElem?_set_self (by simp; omega)]
theorem set3_other {xs : List Value} {j t : Nat} (h : t ≠ j) (u0 u1 u2 : Value) (m : Nat) (hm : m < 3) :
    (((xs.set (j * 3) u0).set (j * 3 + 1) u1).set (j * 3 + 2) u2)[t * 3 + m]? = xs[t * 3 + m]? := by
  rw [List.getElem?_set_ne (by omega), List.getElem?_set_ne (by omega), List.getElem?_set_ne (by omega)]
end Go.Proofs.YteciobkjfmddcaaGreatDoor
set_option linter.unusedVariables false
namespace Go.Proofs.YteciobkjfmddcaaGreatDoor
open Go.RowKit

def IntRow (w : World) (v : Value) (n : Nat) (g : Nat → Int) : Prop :=
  (∃ a cap, v = .slice a 0 cap ∧ n = 0) ∨ ∃ b off cap, v = .slice (some ⟨b, off, none⟩) n cap ∧ 0 < n ∧ n ≤ 9223372036854775807 ∧ (∀ i, i < n → w.cell? ⟨b, off + i, none⟩ = some (.int .i64 (g i))) ∧ n ≤ cap
theorem IntRow.form {w : World} {v : Value} {n : Nat} {g : Nat → Int} (h : IntRow w v n g) :
    ∃ a cap, v = .slice a n cap ∧ n ≤ 9223372036854775807 ∧ (0 < n → ∃ b off, a = some ⟨b, off, none⟩ ∧ ∀ i, i < n → w.cell? ⟨b, off + i, none⟩ = some (.int .i64 (g i))) := by
  rcases h with ⟨a, cap, rfl, rfl⟩ | ⟨b, off, cap, rfl, _, hn, hc, _⟩
  · exact ⟨_, _, rfl, by omega, fun h => absurd h (by omega)⟩
  · exact ⟨_, _, rfl, hn, fun _ => ⟨b, off, rfl, hc⟩⟩
theorem IntRow.drewN {w : World} {v : Value} {n q : Nat} {g : Nat → Int} (h : IntRow w v n g) : IntRow (w.drewN q) v n g := by
  rcases h with h | ⟨b, off, cap, h1, h0, h2, h3, h4⟩
  · exact .inl h
  · exact .inr ⟨b, off, cap, h1, h0, h2, fun i hi => by rw [World.cell?_drewN]; exact h3 i hi, h4⟩
theorem IntRow.below {w w' : World} {B : Nat} {v : Value} {n : Nat} {g : Nat → Int} (h : IntRow w v n g) (hb : Below B w w') (hB : w.heap.size ≤ B) : IntRow w' v n g := by
  rcases h with h | ⟨b, off, cap, h1, h0, h2, h3, h4⟩
  · exact .inl h
  · exact .inr ⟨b, off, cap, h1, h0, h2, fun i hi => (hb.cell (p := ⟨b, off + i, none⟩) (Nat.lt_of_lt_of_le (World.block_lt_of_cell? w _ (h3 i hi)) hB)).trans (h3 i hi), h4⟩
theorem IntRow.of_owns {w : World} {base : Nat} {e : TypeId} {v : Value} {n : Nat} {xs : List Value} {g : Nat → Int} (h : w.ownsRow base e 1 v n xs) (hn : n ≤ 9223372036854775807)
    (hg : ∀ i, i < n → xs[i]? = some (.int .i64 (g i))) : IntRow w v n g := by
  by_cases h0 : n = 0
  · subst h0
    rcases h.2 with ⟨rfl, _⟩ | ⟨b, cap, cur, rfl, _⟩
    · exact .inl ⟨_, _, rfl, rfl⟩
    · exact .inl ⟨_, _, rfl, rfl⟩
  · rcases h.2 with ⟨_, hz⟩ | ⟨b, cap, cur, rfl, _, _, hcap, _⟩
    · exact absurd hz h0
    · refine .inr ⟨b, 0, cap, rfl, by omega, hn, fun i hi => ?_, hcap⟩
      rw [Nat.zero_add, h.cellAt i (by omega)]
      exact hg i hi
theorem IntRow.congr {w : World} {v : Value} {n : Nat} {g g' : Nat → Int} (h : IntRow w v n g) (hg : ∀ i, i < n → g i = g' i) : IntRow w v n g' := by
  rcases h with h | ⟨b, off, cap, h1, h0, h2, h3, h4⟩
  · exact .inl h
  · exact .inr ⟨b, off, cap, h1, h0, h2, fun i hi => by rw [← hg i hi]; exact h3 i hi, h4⟩
def getI (L : List Int) (i : Nat) : Int := L.getD i 0
theorem IntRow.of_list {w : World} {base : Nat} {e : TypeId} {v : Value} {L : List Int} (h : w.ownsRow base e 1 v L.length (L.map (Value.int .i64))) (hn : L.length ≤ 9223372036854775807) :
    IntRow w v L.length (getI L) := IntRow.of_owns h hn fun i hi => by simp [getI, hi]
theorem Tryz.infoI : (Tryz.prog.info? 3).map (fun i => (i.zero, i.size, i.bytes)) = some (some (.int .i64 0), 1, 8) := by kernel_rfl

def IntsMade (w : World) (n : Nat) (g : Nat → Int) (e : Ending) (w' : World) : Prop :=
  ∃ v, e = .returned v ∧ IntRow w' v n g ∧ (∃ xs, w'.ownsRow w.heap.size 3 1 v n xs) ∧ Below w.heap.size w w'
end Go.Proofs.YteciobkjfmddcaaGreatDoor
set_option linter.unusedVariables false
namespace Go.Proofs.YteciobkjfmddcaaGreatDoor
open Go.RowKit

def BoxN (w : World) (B : Nat) (cs : List Value) : Prop := B < w.heap.size ∧ ∀ j v, cs[j]? = some v → w.cell? ⟨B, j, none⟩ = some v
theorem BoxN.below {w w' : World} {B : Nat} {cs : List Value} (h : BoxN w B cs) (hb : Below w.heap.size w w') : BoxN w' B cs :=
  ⟨Nat.lt_of_lt_of_le h.1 hb.size, fun j v hv => (hb.cell (p := ⟨B, j, none⟩) h.1).trans (h.2 j v hv)⟩
theorem BoxN.made {u w2 : World} {cs : Array Value} {t : TypeId} {B : Nat} (h : Below (u.alloc (.cells cs t)).heap.size (u.alloc (.cells cs t)) w2) (hB : u.heap.size = B) : BoxN w2 B cs.toList := by
  subst hB
  refine ⟨Nat.lt_of_lt_of_le (by simp) h.size, fun j v hv => ?_⟩
  rw [h.cell (p := ⟨u.heap.size, j, none⟩) (by simp), cell_of_row _ u.heap.size j _ t (0, 0) (heap_alloc_new u _)]
  simpa using hv
theorem below_prev {u w2 : World} {o : Obj} (h : Below (u.alloc o).heap.size (u.alloc o) w2) : Below u.heap.size u w2 :=
  ((Below.refl _ _).alloc (Nat.le_refl _) _).trans (h.mono (by simp))
structure Touch (lo hi : Nat) (w w' : World) : Prop where
  os : w'.os = w.os
  tape : w'.tape = w.tape
  output : w'.output = w.output
  size : w.heap.size ≤ w'.heap.size
  block : ∀ k, k < w.heap.size → (k < lo ∨ hi ≤ k) → w'.heap[k]? = w.heap[k]?
theorem Touch.refl (lo hi : Nat) (w : World) : Touch lo hi w w := ⟨rfl, rfl, rfl, Nat.le_refl _, fun _ _ _ => rfl⟩
theorem Touch.trans {lo hi : Nat} {a b c : World} (h : Touch lo hi a b) (k : Touch lo hi b c) : Touch lo hi a c :=
  ⟨k.os.trans h.os, k.tape.trans h.tape, k.output.trans h.output, Nat.le_trans h.size k.size, fun i hi ho => (k.block i (Nat.lt_of_lt_of_le hi h.size) ho).trans (h.block i hi ho)⟩
theorem Touch.of_below {lo hi : Nat} {w w' : World} (h : Below w.heap.size w w') : Touch lo hi w w' := ⟨h.os, h.tape, h.output, h.size, fun k hk _ => h.block k hk⟩
theorem Touch.below {lo hi B : Nat} {w w' : World} (h : Touch lo hi w w') (hB : B ≤ lo) (hs : B ≤ w.heap.size) : Below B w w' := ⟨h.os, h.tape, h.output, h.size, fun k hk => h.block k (by omega) (.inl (by omega))⟩
theorem Touch.grown {lo hi : Nat} {w w' : World} {row : Option Nat} (h : w.grownBy w' row) (hr : ∀ k, row = some k → lo ≤ k ∧ k < hi) : Touch lo hi w w' :=
  ⟨h.os, h.tape, h.output, h.size, fun k hk ho => h.block k hk (fun e => by have := hr k e.symm; omega)⟩
theorem BoxN.touch {lo hi : Nat} {w w' : World} {B : Nat} {cs : List Value} (h : BoxN w B cs) (t : Touch lo hi w w') (ho : B < lo ∨ hi ≤ B) : BoxN w' B cs :=
  ⟨Nat.lt_of_lt_of_le h.1 t.size, fun j v hv => (World.cell?_of_block (w := w) (a := ⟨B, j, none⟩) (t.block B h.1 ho)).trans (h.2 j v hv)⟩
theorem BoxN.free {u w2 : World} {cs : Array Value} {t : TypeId} {B : Nat} (h : Below (u.alloc (.cells cs t)).heap.size (u.alloc (.cells cs t)) w2) (hB : u.heap.size = B) (j : Nat) : w2.frozen? ⟨B, j, none⟩ = false := by
  subst hB
  rw [h.frozen (p := ⟨u.heap.size, j, none⟩) (by simp)]
  exact frozen_of_row _ u.heap.size j _ t (heap_alloc_new u _)
theorem Touch.setCell {lo hi : Nat} {a w : World} (h : Touch lo hi a w) (p : Addr) (u : Value) (h1 : lo ≤ p.block) (h2 : p.block < hi) : Touch lo hi a (w.setCell p u) :=
  h.trans ⟨rfl, rfl, rfl, by simp [World.setCell], fun k _ ho => Below.heap_setCell _ _ _ _ (by omega)⟩
def InW (lo hi : Nat) (v : Value) : Prop := ∀ k, v.ownBlock = some k → lo ≤ k ∧ k < hi
theorem InW.of_owns {w : World} {base : Nat} {e : TypeId} {size : Nat} {v : Value} {n : Nat} {xs : List Value} (h : w.ownsRow base e size v n xs) : InW base w.heap.size v := h.lt
theorem InW.mono {lo hi lo' hi' : Nat} {v : Value} (h : InW lo hi v) (h1 : lo' ≤ lo) (h2 : hi ≤ hi') : InW lo' hi' v := fun k hk => by have := h k hk; omega
theorem InW.nat {hi : Nat} {v : Value} {w : World} {n : Nat} {g : Nat → Int} (h : IntRow w v n g) (h0 : 0 < n) (hs : w.heap.size ≤ hi) : InW 0 hi v := by
  rcases h with ⟨_, _, _, rfl⟩ | ⟨b, off, cap, rfl, _, _, hc, _⟩
  · omega
  · intro k hk
    have := World.block_lt_of_cell? w _ (hc 0 h0)
    simp only [Value.ownBlock, Option.some.injEq] at hk
    subst hk
    exact ⟨Nat.zero_le _, Nat.lt_of_lt_of_le this hs⟩
theorem owns_touch {lo hi lo' hi' : Nat} {w w' : World} {base : Nat} {e : TypeId} {size : Nat} {v : Value} {n : Nat} {xs : List Value} (h : w.ownsRow base e size v n xs) (t : Touch lo hi w w') (hv : InW lo' hi' v) (ho : hi' ≤ lo ∨ hi ≤ lo') : w'.ownsRow base e size v n xs := by
  refine ⟨h.1, ?_⟩
  rcases h.2 with hn | ⟨g, cap, cur, rfl, hbg, hgg, rest⟩
  · exact .inl hn
  · have := hv g rfl
    exact .inr ⟨g, cap, cur, rfl, hbg, (t.block g (Array.getElem?_eq_some_iff.1 hgg).1 (by omega)).trans hgg, rest⟩
theorem IntRow.touch {lo hi lo' hi' : Nat} {w w' : World} {v : Value} {n : Nat} {g : Nat → Int} (h : IntRow w v n g) (t : Touch lo hi w w') (hv : 0 < n → InW lo' hi' v) (ho : hi' ≤ lo ∨ hi ≤ lo') : IntRow w' v n g := by
  rcases h with h | ⟨b, off, cap, rfl, h0, h2, h3, h4⟩
  · exact .inl h
  · have := hv h0 b rfl
    exact .inr ⟨b, off, cap, rfl, h0, h2, fun i hi => (World.cell?_of_block (w := w) (a := ⟨b, off + i, none⟩) (t.block b (World.block_lt_of_cell? w _ (h3 i hi)) (by omega))).trans (h3 i hi), h4⟩
def SzPost (c : Nat) (left : Int) (w : World) (e : Ending) (w' : World) : Prop := (∃ r : Int, e = .returned (.int .i64 r) ∧ (r < 0 ∨ (0 ≤ r ∧ (c : Int) + r = left))) ∧ Below w.heap.size w w'
end Go.Proofs.YteciobkjfmddcaaGreatDoor
set_option linter.unusedVariables false
namespace Go.Proofs.YteciobkjfmddcaaGreatDoor
open Go.RowKit

def gapA {α : Type} (L : List α) (j : Nat) (u : α) : List α := L.take j ++ u :: L.drop j
section
variable {α β : Type} {L : List α} {j : Nat} {u x : α}
theorem gapA_len (h : j ≤ L.length) : (gapA L j u).length = L.length + 1 := by
  unfold gapA; simp; omega
theorem gapA_get {i : Nat} (h : i < j) (hj : j ≤ L.length) : (gapA L j u)[i]? = L[i]? := by
  unfold gapA
  rw [List.getElem?_append_left (by simp; omega), List.getElem?_take_of_lt h]
theorem gapA_set (hj : j ≤ L.length) : (gapA L j u).set j x = gapA L j x := by
  unfold gapA
  rw [List.set_append_right _ _ (by simp; omega)]
  simp [Nat.min_eq_left hj]
theorem gapA_step (h : L[j]? = some x) : gapA L (j + 1) x = gapA L j x := by
  have hj : j < L.length := (List.getElem?_eq_some_iff.1 h).1
  have hx : L[j] = x := (List.getElem?_eq_some_iff.1 h).2
  unfold gapA
  rw [(List.take_append_getElem hj).symm, List.drop_eq_getElem_cons hj, hx]
  simp only [List.append_assoc, List.cons_append, List.nil_append]
theorem gapA_end : gapA L L.length u = L ++ [u] := by
  unfold gapA; simp
theorem gapA_map (f : α → β) : (gapA L j u).map f = gapA (L.map f) j (f u) := by
  unfold gapA; simp
theorem gapA_mem {y : α} (h : y ∈ gapA L j u) : y = u ∨ y ∈ L := by
  unfold gapA at h
  rcases List.mem_append.1 h with h | h
  · exact .inr (List.mem_of_mem_take h)
  · rcases List.mem_cons.1 h with h | h
    · exact .inl h
    · exact .inr (List.mem_of_mem_drop h)
theorem gapA_pairwise {R : α → α → Prop} (hL : L.Pairwise R) (h1 : ∀ y ∈ L, R y u) (h2 : ∀ y ∈ L, R u y) : (gapA L j u).Pairwise R := by
  unfold gapA
  rw [List.pairwise_append, List.pairwise_cons]
  refine ⟨hL.sublist (List.take_sublist _ _), ⟨fun y hy => h2 y (List.mem_of_mem_drop hy), hL.sublist (List.drop_sublist _ _)⟩, fun a ha b hb => ?_⟩
  rcases List.mem_cons.1 hb with rfl | hb
  · exact h1 a (List.mem_of_mem_take ha)
  · have h3 : (L.take j ++ L.drop j).Pairwise R := by rw [List.take_append_drop]; exact hL
    exact (List.pairwise_append.1 h3).2.2 a ha b hb
end
def leadV {α : Type} (f : α → Int) (v : Int) : List α → Nat
  | [] => 0
  | y :: L => if v < f y then leadV f v L + 1 else 0
section
variable {α : Type} {f : α → Int} {v : Int}
theorem leadV_le (L : List α) : leadV f v L ≤ L.length := by
  induction L with
  | nil => exact Nat.le_refl _
  | cons y L ih => unfold leadV; split <;> simp <;> omega
theorem leadV_lt (L : List α) : ∀ i x, i < leadV f v L → L[i]? = some x → v < f x := by
  induction L with
  | nil => intro i x hi; exact absurd hi (by simp [leadV])
  | cons y L ih =>
    intro i x hi hx
    unfold leadV at hi
    split at hi
    · next h =>
      cases i with
      | zero => simp at hx; rw [← hx]; exact h
      | succ i => exact ih i x (by omega) (by simpa using hx)
    · omega
theorem leadV_ge (L : List α) : ∀ x, L[leadV f v L]? = some x → ¬ v < f x := by
  induction L with
  | nil => intro x h; simp at h
  | cons y L ih =>
    intro x h
    unfold leadV at h
    split at h
    · next hy => exact ih x (by simpa using h)
    · next hy => simp at h; rw [← h]; exact hy
end
def insP (v t : Int) : List (Int × List Int) → List (Int × List Int)
  | [] => [(v, [t])]
  | (u, p) :: r => if v < u then (u, p) :: insP v t r else if u = v then (u, p ++ [t]) :: r else (v, [t]) :: (u, p) :: r
theorem insP_new (v t : Int) : ∀ L : List (Int × List Int), (∀ x, L[leadV Prod.fst v L]? = some x → x.1 ≠ v) → insP v t L = gapA L (leadV Prod.fst v L) (v, [t])
  | [], _ => rfl
  | (u, p) :: r, h => by
    unfold insP leadV
    by_cases hu : v < u
    · rw [if_pos hu, if_pos hu, insP_new v t r (fun x hx => h x (by unfold leadV; rw [if_pos hu]; simpa using hx))]
      simp [gapA]
    · rw [if_neg hu, if_neg hu]
      have : u ≠ v := h (u, p) (by unfold leadV; rw [if_neg hu]; rfl)
      rw [if_neg this]
      simp [gapA]
theorem insP_old (v t : Int) : ∀ (L : List (Int × List Int)) (p : List Int), L[leadV Prod.fst v L]? = some (v, p) → insP v t L = L.set (leadV Prod.fst v L) (v, p ++ [t])
  | [], p, h => by simp at h
  | (u, q) :: r, p, h => by
    unfold insP
    unfold leadV at h ⊢
    by_cases hu : v < u
    · rw [if_pos hu] at h ⊢
      rw [if_pos hu, insP_old v t r p (by simpa using h)]
      simp
    · rw [if_neg hu] at h ⊢
      simp only [List.getElem?_cons_zero, Option.some.injEq, Prod.mk.injEq] at h
      obtain ⟨rfl, rfl⟩ := h
      rw [if_neg hu, if_pos rfl]
      simp
def splitP (V : Nat → Int) (gg : Nat → Int) : Nat → List (Int × List Int)
  | 0 => []
  | k + 1 => insP (V (gg k).toNat) (gg k) (splitP V gg k)
def ApartV (v v' : Value) : Prop := ∀ k, v.ownBlock = some k → v'.ownBlock ≠ some k
theorem ApartV.symm {v v' : Value} (h : ApartV v v') : ApartV v' v := fun k h1 h2 => h k h2 h1
def ApartL (l : List Value) : Prop := l.Pairwise ApartV
def OwnT (w : World) (base : Nat) (e : TypeId) (T : List (Int × Value × List Int)) : Prop := ∀ x ∈ T, w.ownsRow base e 1 x.2.1 x.2.2.length (x.2.2.map (Value.int .i64))
theorem OwnT.kept {w w' : World} {base : Nat} {e : TypeId} {T : List (Int × Value × List Int)} {row : Option Nat} (h : OwnT w base e T) (hg : w.grownBy w' row) (hne : ∀ x ∈ T, ∀ k, x.2.1.ownBlock = some k → row ≠ some k) : OwnT w' base e T := fun x hx =>
  (h x hx).kept hg (by
    cases hv : x.2.1.ownBlock with
    | none => exact .inl rfl
    | some k => exact .inr fun e => hne x hx k hv e.symm)
theorem OwnT.below {w w' : World} {base B : Nat} {e : TypeId} {T : List (Int × Value × List Int)} (h : OwnT w base e T) (hb : Below B w w') (hB : w.heap.size ≤ B) : OwnT w' base e T := fun x hx => owns_below (h x hx) hb hB
theorem OwnT.lt {w : World} {base : Nat} {e : TypeId} {T : List (Int × Value × List Int)} (h : OwnT w base e T) {x : Int × Value × List Int} (hx : x ∈ T) {k : Nat} (hk : x.2.1.ownBlock = some k) : base ≤ k ∧ k < w.heap.size := (h x hx).lt k hk
theorem OwnT.mono {w : World} {base base' : Nat} {e : TypeId} {T : List (Int × Value × List Int)} (h : OwnT w base e T) (hb : base' ≤ base) : OwnT w base' e T := fun x hx => owns_mono (h x hx) hb
end Go.Proofs.YteciobkjfmddcaaGreatDoor
set_option linter.unusedVariables false
namespace Go.Proofs.YteciobkjfmddcaaGreatDoor
open Go.RowKit

theorem wpList_pushL {P : Program} {w : World} {ops : Array Oper} {rest : List Oper} {o : Oper} {a : Act} {Q : Exit → Act → World → Prop} (hgd : o.guard = none) (s x : Operand) (t : TypeId)
    (ho : o.op = .call { callee := .builtin .append, args := #[s, x], argTypes := #[t, t] })
    (base : Nat) (e : TypeId) {i : TypeInfo} {z : Value} {size bytes : Nat} (ht : P.underlying t = some (.slice e)) (hi : P.info? e = some i) (hz : i.zero = some z)
    (hsize : i.size = size) (hby : i.bytes = bytes) (hzs : z.cells.size = size) (hsz : 0 < size)
    (cs : List Value) (hcs : cs.length = size) (h1 : ∀ u ∈ cs, u.oneCell' = true)
    {v : Value} {n : Nat} {xs : List Value} (hs : a.eval s = v) (hx : a.eval x = .slice (some ⟨w.heap.size, 0, none⟩) 1 1) (hown : w.ownsRow base e size v n xs)
    (h63 : n + 1 ≤ maxLen) (hbytes : (n + 1) * bytes ≤ 140737488355328) (hbase : base ≤ w.heap.size)
    (h : ∀ g cap w', w'.ownsRow base e size (.slice (some ⟨g, 0, none⟩) (n + 1) cap) (n + 1) (xs ++ cs) → w.grownBy w' v.ownBlock → (v.ownBlock = some g ∨ w.heap.size ≤ g) → g < w'.heap.size →
      wpList P ops Q rest (a.put o.dst (.slice (some ⟨g, 0, none⟩) (n + 1) cap)) w') : wpList P ops Q (o :: rest) a (w.alloc (.cells cs.toArray e)) := by
  refine wpList_append_lies _ hgd s x t ho base e i z size bytes ht hi hz hsize hby hzs hsz v n xs hs (hown.alloc _) ⟨w.heap.size, 0, none⟩ 1 1 cs hx (by simpa using hcs)
    (by simpa using World.news_of_block (cs := cs.toArray) (heap_alloc_new w (.cells cs.toArray e))) h1 (by omega) h63 hbytes (by simp; omega) _ rfl ?_
  intro g cap w' h2 h3 hat hlt
  have hg0 := World.grownBy_alloc w (.cells cs.toArray e) v.ownBlock
  refine h g cap w' h2 ⟨h3.os.trans hg0.os, h3.tape.trans hg0.tape, h3.output.trans hg0.output, Nat.le_trans hg0.size h3.size, fun k hk hne => ?_⟩ ?_ hlt
  · rw [h3.block k (Nat.lt_of_lt_of_le hk hg0.size) hne, hg0.block k hk hne]
  · rcases hat with h5 | h5
    · exact .inl h5
    · right; rw [h5]; simp
theorem news_of_row {w : World} {b m c : Nat} {g : Nat → Int} (h : IntRow w (.slice (some ⟨b, 0, none⟩) m c) m g) :
    ∀ j u, ((List.range m).map fun j => Value.int .i64 (g j))[j]? = some u → w.cell? ((⟨b, 0, none⟩ : Addr).add j) = some u := by
  intro j u hu
  simp only [List.getElem?_map] at hu
  by_cases hj : j < m
  · rw [List.getElem?_range hj] at hu
    simp only [Option.map_some, Option.some.injEq] at hu
    subst hu
    have hadd : (⟨b, 0, none⟩ : Addr).add j = ⟨b, j, none⟩ := by unfold Addr.add; split <;> simp_all
    rw [hadd]
    rcases h with ⟨_, _, _, h1⟩ | ⟨b', off, c', he, _, _, hc, _⟩
    · omega
    · simp only [Value.slice.injEq, Option.some.injEq, Addr.mk.injEq, and_true] at he
      obtain ⟨⟨rfl, rfl⟩, _⟩ := he
      simpa using hc j hj
  · rw [List.getElem?_eq_none (by simp; omega)] at hu; cases hu
theorem ones_row {m : Nat} {g : Nat → Int} : ∀ u ∈ (List.range m).map (fun j => Value.int .i64 (g j)), u.oneCell' = true := by
  intro u hu; simp only [List.mem_map] at hu; obtain ⟨_, _, rfl⟩ := hu; rfl
theorem wpList_cloneI {P : Program} {w : World} {ops : Array Oper} {rest : List Oper} {o : Oper} {a : Act} {Q : Exit → Act → World → Prop} (hgd : o.guard = none) (s x : Operand) (t : TypeId)
    (ho : o.op = .call { callee := .builtin .append, args := #[s, x], argTypes := #[t, t] })
    (e : TypeId) {i : TypeInfo} (ht : P.underlying t = some (.slice e)) (hi : P.info? e = some i) (hz : i.zero = some (.int .i64 0)) (hsize : i.size = 1) (hby : i.bytes = 8)
    {v : Value} {m : Nat} {g : Nat → Int} (hs : a.eval s = .slice (some ⟨w.heap.size, 0, none⟩) 0 0) (hx : a.eval x = v) (hrow : IntRow w v m g) (h0 : 0 < m) (hm : m ≤ 1048576)
    (h : ∀ gg cap w', w'.ownsRow w.heap.size e 1 (.slice (some ⟨gg, 0, none⟩) m cap) m ((List.range m).map fun j => Value.int .i64 (g j)) → IntRow w' (.slice (some ⟨gg, 0, none⟩) m cap) m g → Below w.heap.size w w' → w.heap.size ≤ gg → gg < w'.heap.size →
      wpList P ops Q rest (a.put o.dst (.slice (some ⟨gg, 0, none⟩) m cap)) w') : wpList P ops Q (o :: rest) a (w.alloc (.cells #[] e)) := by
  rcases hrow with ⟨_, _, _, h1⟩ | ⟨b, off, c, rfl, _, _, hc, _⟩
  · omega
  have hown : (w.alloc (.cells #[] e)).ownsRow w.heap.size e 1 (.slice (some ⟨w.heap.size, 0, none⟩) 0 0) 0 [] := World.ownsRow_lit w #[] 0 (Nat.le_refl _) (by decide) rfl
  refine wpList_append_lies _ hgd s x t ho w.heap.size e i (.int .i64 0) 1 8 ht hi hz hsize hby rfl (by decide) (.slice (some ⟨w.heap.size, 0, none⟩) 0 0) 0 [] hs hown ⟨b, off, none⟩ m c ((List.range m).map fun j => Value.int .i64 (g j)) hx (by simp) ?_
    (by intro u hu; simp only [List.mem_map] at hu; obtain ⟨_, _, rfl⟩ := hu; rfl) h0 (by unfold maxLen; omega) (by omega) (by simp) _ rfl ?_
  · intro j u hu
    simp only [List.getElem?_map] at hu
    by_cases hj : j < m
    · rw [List.getElem?_range hj] at hu
      simp only [Option.map_some, Option.some.injEq] at hu
      subst hu
      have hadd : (⟨b, off, none⟩ : Addr).add j = ⟨b, off + j, none⟩ := by unfold Addr.add; split <;> simp_all
      rw [hadd]
      exact (((Below.refl _ w).alloc (Nat.le_refl _) (.cells #[] e)).cell (p := ⟨b, off + j, none⟩) (World.block_lt_of_cell? w _ (hc j hj))).trans (hc j hj)
    · rw [List.getElem?_eq_none (by simp; omega)] at hu; cases hu
  · intro gg cap w' ho' hg' hat hlt
    simp only [Nat.zero_add, List.nil_append] at ho' ⊢
    refine h gg cap w' ho' (IntRow.of_owns ho' (by omega) fun j hj => by simp [hj]) (((Below.refl _ w).alloc (Nat.le_refl _) _).grown hg' (by simp) (fun k hk => by simp [Value.ownBlock] at hk; omega)) ?_ hlt
    rcases hat with h5 | h5
    · simp [Value.ownBlock] at h5; omega
    · rw [h5]; simp
end Go.Proofs.YteciobkjfmddcaaGreatDoor
set_option linter.unusedVariables false
namespace Go.Proofs.YteciobkjfmddcaaGreatDoor
open Go.RowKit Go.ChangeShapes Go.WideShapes Go.Joins Go.Deep

def IntFit (x : Int) : Prop := -9223372036854775808 ≤ x ∧ x ≤ 9223372036854775807
theorem intFit_of {x : Int} (h : (Lit.int .i64 x).wf = true) : IntFit x := by
  simp [Lit.wf, IntKind.min, IntKind.max, IntKind.signed, IntKind.bits] at h
  unfold IntFit
  omega
section
variable {H : Type} {enc : TypeId × Value → H} {P : Program} {w : World} {base : Nat} {spare : Nat → Bool} {held : Bool}
theorem open_ag5 {r : Reach} {b0 : Nat} {t : TypeId} {f0 f1 f2 f3 f4 : Field} {v : Value} {d : DataW H} {p : List MemPlace} (hs : P.underlying t = some (.struct #[f0, f1, f2, f3, f4])) (hone : oneCellFields P #[f0, f1, f2, f3, f4] = true) (hC : P.cellsOf t = 5)
    (hv : Value.okWide P w r b0 t v) (h : DataW.Trod enc P w base spare held t v d p) :
    ∃ (v0 v1 v2 v3 v4 : Value) (y0 y1 y2 y3 y4 : DataW H × List MemPlace) (n : Nat), v = .agg #[v0, v1, v2, v3, v4] ∧ d = .agg [y0.1, y1.1, y2.1, y3.1, y4.1] ∧ p = y0.2 ++ (y1.2 ++ (y2.2 ++ (y3.2 ++ y4.2))) ∧
      DataW.trod enc P w base spare held n f0.type [v0] = some y0 ∧ DataW.trod enc P w base spare held n f1.type [v1] = some y1 ∧ DataW.trod enc P w base spare held n f2.type [v2] = some y2 ∧ DataW.trod enc P w base spare held n f3.type [v3] = some y3 ∧ DataW.trod enc P w base spare held n f4.type [v4] = some y4 := by
  obtain ⟨cs, rfl, hsz⟩ := okWide_struct hs hv
  obtain ⟨l⟩ := cs
  match l, hsz.trans hC with
  | [c0, c1, c2, c3, c4], _ =>
    obtain ⟨fuel, hf⟩ := h
    obtain ⟨xs, n, _, hx, _, hlen, hg⟩ := DataW.trod_struct hs hf
    obtain ⟨o0, k0⟩ := hone_of hone 0 f0 rfl
    obtain ⟨o1, k1⟩ := hone_of hone 1 f1 rfl
    obtain ⟨o2, k2⟩ := hone_of hone 2 f2 rfl
    obtain ⟨o3, k3⟩ := hone_of hone 3 f3 rfl
    obtain ⟨o4, k4⟩ := hone_of hone 4 f4 rfl
    match xs, hlen with
    | [y0, y1, y2, y3, y4], _ =>
      simp only [Prod.mk.injEq] at hx
      exact ⟨c0, c1, c2, c3, c4, y0, y1, y2, y3, y4, n, rfl, by simpa using hx.1, by simpa using hx.2, by simpa [Value.cells, o0, k0] using hg 0 f0 rfl, by simpa [Value.cells, o1, k1] using hg 1 f1 rfl, by simpa [Value.cells, o2, k2] using hg 2 f2 rfl, by simpa [Value.cells, o3, k3] using hg 3 f3 rfl, by simpa [Value.cells, o4, k4] using hg 4 f4 rfl⟩
theorem open_introw {t e : TypeId} {fuel : Nat} {v : Value} {x : DataW H × List MemPlace} (ht : P.underlying t = some (.slice e)) (he : P.underlying e = some (.int .i64)) (hc : P.cellsOf e = 1)
    (h : DataW.trod enc P w base (fun _ => true) held fuel t [v] = some x) : ∃ (n : Nat) (g : Nat → Int), IntRow w v n g ∧ (∀ i, IntFit (g i)) ∧ n ≤ 9223372036854775807 := by
  rcases open_ints ht he hc h with ⟨hcs, _⟩ | ⟨a, len, cap, zs, hcs, _, hl, hm, hz, _, hcell, hwz⟩
  · simp only [List.cons.injEq, and_true] at hcs
    subst hcs
    exact ⟨0, fun _ => 0, .inl ⟨_, _, rfl, rfl⟩, fun _ => (by unfold IntFit; simp : IntFit 0), by omega⟩
  · simp only [List.cons.injEq, and_true] at hcs
    subst hcs
    unfold maxLen at hm
    have hfit : ∀ i, IntFit (zs.getD i 0) := fun i => by
      by_cases hi : i < zs.length
      · rw [List.getD_eq_getElem?_getD, List.getElem?_eq_getElem hi]
        exact intFit_of (hwz _ (List.getElem_mem hi))
      · rw [List.getD_eq_getElem?_getD, List.getElem?_eq_none (Nat.le_of_not_lt hi)]
        unfold IntFit; simp
    refine ⟨len, fun i => zs.getD i 0, ?_, hfit, by omega⟩
    by_cases h0 : len = 0
    · subst h0; exact .inl ⟨_, _, rfl, rfl⟩
    · simp only [if_true] at hz
      obtain ⟨b, off, spot⟩ := a
      have hspot : spot = none := by simpa [Addr.add] using World.cell?_spot (hcell 0 (by omega))
      subst hspot
      refine .inr ⟨b, off, cap, rfl, by omega, by omega, fun i hi => ?_, hl⟩
      have hadd : (⟨b, off, none⟩ : Addr).add i = ⟨b, off + i, none⟩ := by unfold Addr.add; split <;> simp_all
      rw [← hadd]
      exact hcell i (by omega)
theorem open_introw' {t e : TypeId} {v : Value} (ht : P.underlying t = some (.slice e)) (he : P.underlying e = some (.int .i64)) (hc : P.cellsOf e = 1)
    (h : ∃ (fuel : Nat) (x : DataW H × List MemPlace), DataW.trod enc P w base (fun _ => true) held fuel t [v] = some x) : ∃ (n : Nat) (g : Nat → Int), IntRow w v n g ∧ (∀ i, IntFit (g i)) ∧ n ≤ 9223372036854775807 := by
  obtain ⟨fuel, x, h⟩ := h
  exact open_introw ht he hc h
end
end Go.Proofs.YteciobkjfmddcaaGreatDoor
set_option linter.unusedVariables false
namespace Go.Proofs.YteciobkjfmddcaaGreatDoor
open Go.RowKit

def CellsAt (w : World) (b o : Nat) (cs : List Value) : Prop := b < w.heap.size ∧ ∀ j u, cs[j]? = some u → w.cell? ⟨b, o + j, none⟩ = some u
theorem CellsAt.below {w w' : World} {b o : Nat} {cs : List Value} (h : CellsAt w b o cs) (hb : Below w.heap.size w w') : CellsAt w' b o cs :=
  ⟨Nat.lt_of_lt_of_le h.1 hb.size, fun j u hu => (hb.cell (p := ⟨b, o + j, none⟩) h.1).trans (h.2 j u hu)⟩
theorem CellsAt.belowB {w w' : World} {b o base : Nat} {cs : List Value} (h : CellsAt w b o cs) (hb : Below base w w') (hB : b < base) : CellsAt w' b o cs :=
  ⟨Nat.lt_of_lt_of_le h.1 hb.size, fun j u hu => (hb.cell (p := ⟨b, o + j, none⟩) hB).trans (h.2 j u hu)⟩
def RecRow (k : Nat) (w : World) (v : Value) (n : Nat) (g : Nat → List Value) : Prop :=
  (∃ a cap, v = .slice a 0 cap ∧ n = 0) ∨ ∃ b off cap, v = .slice (some ⟨b, off, none⟩) n cap ∧ 0 < n ∧ n ≤ 9223372036854775807 ∧ (∀ i, i < n → CellsAt w b (off + i * k) (g i)) ∧ n ≤ cap
section
variable {k : Nat} {w w' : World} {v : Value} {n : Nat} {g : Nat → List Value}
theorem RecRow.form (h : RecRow k w v n g) : ∃ a cap, v = .slice a n cap ∧ n ≤ 9223372036854775807 ∧ (0 < n → ∃ b off, a = some ⟨b, off, none⟩ ∧ n ≤ cap ∧ ∀ i, i < n → CellsAt w b (off + i * k) (g i)) := by
  rcases h with ⟨a, cap, rfl, rfl⟩ | ⟨b, off, cap, rfl, _, hn, hc, hcap⟩
  · exact ⟨_, _, rfl, by omega, fun h => absurd h (by omega)⟩
  · exact ⟨_, _, rfl, hn, fun _ => ⟨b, off, rfl, hcap, hc⟩⟩
theorem RecRow.below {B : Nat} (h : RecRow k w v n g) (hb : Below B w w') (hB : w.heap.size ≤ B) : RecRow k w' v n g := by
  rcases h with h | ⟨b, off, cap, h1, h0, h2, h3, h4⟩
  · exact .inl h
  · exact .inr ⟨b, off, cap, h1, h0, h2, fun i hi => (h3 i hi).belowB hb (Nat.lt_of_lt_of_le (h3 i hi).1 hB), h4⟩
theorem RecRow.drewN {q : Nat} (h : RecRow k w v n g) : RecRow k (w.drewN q) v n g := h.below (below_drewN (Below.refl _ _) q) (Nat.le_refl _)
theorem RecRow.touch {lo hi lo' hi' : Nat} (h : RecRow k w v n g) (t : Touch lo hi w w') (hv : 0 < n → InW lo' hi' v) (ho : hi' ≤ lo ∨ hi ≤ lo') : RecRow k w' v n g := by
  rcases h with h | ⟨b, off, cap, rfl, h0, h2, h3, h4⟩
  · exact .inl h
  · have := hv h0 b rfl
    exact .inr ⟨b, off, cap, rfl, h0, h2, fun i hi => ⟨Nat.lt_of_lt_of_le (h3 i hi).1 t.size, fun j u hu => (World.cell?_of_block (w := w) (a := ⟨b, off + i * k + j, none⟩) (t.block b (h3 i hi).1 (by omega))).trans ((h3 i hi).2 j u hu)⟩, h4⟩
theorem RecRow.inw {hi : Nat} (h : RecRow k w v n g) (h0 : 0 < n) (hs : w.heap.size ≤ hi) : InW 0 hi v := by
  rcases h with ⟨_, _, _, rfl⟩ | ⟨b, off, cap, rfl, _, _, hc, _⟩
  · omega
  · intro x hx
    simp only [Value.ownBlock, Option.some.injEq] at hx
    subst hx
    exact ⟨Nat.zero_le _, Nat.lt_of_lt_of_le (hc 0 h0).1 hs⟩
theorem RecRow.congr {g' : Nat → List Value} (h : RecRow k w v n g) (hg : ∀ i, i < n → g i = g' i) : RecRow k w v n g' := by
  rcases h with h | ⟨b, off, cap, h1, h0, h2, h3, h4⟩
  · exact .inl h
  · exact .inr ⟨b, off, cap, h1, h0, h2, fun i hi => by rw [← hg i hi]; exact h3 i hi, h4⟩
def RecCells (k n : Nat) (xs : List Value) (g : Nat → List Value) : Prop := ∀ i, i < n → ∀ j u, (g i)[j]? = some u → xs[i * k + j]? = some u
theorem RecRow.of_owns {base : Nat} {e : TypeId} {xs : List Value} (h : w.ownsRow base e k v n xs) (hn : n ≤ 9223372036854775807) (hg : RecCells k n xs g) (hk : ∀ i, i < n → (g i).length ≤ k) : RecRow k w v n g := by
  by_cases h0 : n = 0
  · subst h0
    rcases h.2 with ⟨rfl, _⟩ | ⟨b, cap, cur, rfl, _⟩
    · exact .inl ⟨_, _, rfl, rfl⟩
    · exact .inl ⟨_, _, rfl, rfl⟩
  · have hlt := h.lt
    rcases h.2 with ⟨_, hz⟩ | ⟨b, cap, cur, rfl, _, _, hcap, _⟩
    · exact absurd hz h0
    · refine .inr ⟨b, 0, cap, rfl, by omega, hn, fun i hi => ⟨(hlt b rfl).2, fun j u hu => ?_⟩, hcap⟩
      have hj : j < (g i).length := (List.getElem?_eq_some_iff.1 hu).1
      have hk' := hk i hi
      have hx := hg i hi j u hu
      have hlen : i * k + j < xs.length := (List.getElem?_eq_some_iff.1 hx).1
      have h1 := h.1
      rw [Nat.zero_add, h.cellAt _ (by omega)]
      exact hx
theorem RecCells.push {xs cs : List Value} (h : RecCells k n xs g) (hl : xs.length = n * k) (hc : g n = cs) (hcl : cs.length = k) : RecCells k (n + 1) (xs ++ cs) g := by
  intro i hi j u hu
  by_cases e : i = n
  · subst e
    rw [hc] at hu
    rw [List.getElem?_append_right (by omega), show i * k + j - xs.length = j by omega]
    exact hu
  · have hx := h i (by omega) j u hu
    rw [List.getElem?_append_left ((List.getElem?_eq_some_iff.1 hx).1)]
    exact hx
theorem RecCells.nil {xs : List Value} : RecCells k 0 xs g := fun i hi => absurd hi (by omega)
theorem RecCells.congr {xs : List Value} {g' : Nat → List Value} (h : RecCells k n xs g) (hg : ∀ i, i < n → g i = g' i) : RecCells k n xs g' := fun i hi j u hu => h i hi j u (by rw [hg i hi]; exact hu)
def RecMade (k : Nat) (T : TypeId) (w : World) (n : Nat) (g : Nat → List Value) (e : Ending) (w' : World) : Prop :=
  ∃ v, e = .returned v ∧ RecRow k w' v n g ∧ (∃ xs, w'.ownsRow w.heap.size T k v n xs) ∧ Below w.heap.size w w'
end
def setsFrom (xs : List Value) (s : Nat) : List Value → List Value
  | [] => xs
  | u :: us => setsFrom (xs.set s u) (s + 1) us
theorem setsFrom_len (cs : List Value) : ∀ (xs : List Value) (s : Nat), (setsFrom xs s cs).length = xs.length := by
  induction cs with
  | nil => intro xs s; rfl
  | cons u us ih => intro xs s; unfold setsFrom; rw [ih]; simp
theorem setsFrom_out (cs : List Value) : ∀ (xs : List Value) (s t : Nat), t < s ∨ s + cs.length ≤ t → (setsFrom xs s cs)[t]? = xs[t]? := by
  induction cs with
  | nil => intro xs s t _; rfl
  | cons u us ih =>
    intro xs s t h
    unfold setsFrom
    simp only [List.length_cons] at h
    rw [ih _ _ _ (by omega), List.getElem?_set_ne (by omega)]
theorem setsFrom_in (cs : List Value) : ∀ (xs : List Value) (s j : Nat) (u : Value), s + cs.length ≤ xs.length → cs[j]? = some u → (setsFrom xs s cs)[s + j]? = some u := by
  induction cs with
  | nil => intro xs s j u _ h; simp at h
  | cons x us ih =>
    intro xs s j u hl h
    unfold setsFrom
    simp only [List.length_cons] at hl
    cases j with
    | zero =>
      simp only [List.getElem?_cons_zero, Option.some.injEq] at h
      subst h
      rw [setsFrom_out _ _ _ _ (by omega), Nat.add_zero, List.getElem?_set_self (by omega)]
    | succ j =>
      simp only [List.getElem?_cons_succ] at h
      rw [show s + (j + 1) = (s + 1) + j by omega]
      exact ih _ _ j u (by simp; omega) h
theorem RecCells.sets {k n t : Nat} {xs cs : List Value} {g : Nat → List Value} (h : RecCells k t xs g) (hl : xs.length = n * k) (ht : t < n) (hc : g t = cs) (hcl : cs.length = k) (hgl : ∀ i, i < t → (g i).length ≤ k) :
    RecCells k (t + 1) (setsFrom xs (t * k) cs) g := by
  have hmul : t * k + k ≤ n * k := by have := Nat.mul_le_mul_right k (show t + 1 ≤ n by omega); rw [Nat.succ_mul] at this; exact this
  intro i hi j u hu
  by_cases e : i = t
  · subst e
    rw [hc] at hu
    exact setsFrom_in cs xs _ j u (by omega) hu
  · have hx := h i (by omega) j u hu
    have hj : j < (g i).length := (List.getElem?_eq_some_iff.1 hu).1
    have := hgl i (by omega)
    have hmul2 : i * k + k ≤ t * k := by have := Nat.mul_le_mul_right k (show i + 1 ≤ t by omega); rw [Nat.succ_mul] at this; exact this
    rw [setsFrom_out _ _ _ _ (by omega)]
    exact hx
theorem owns_sets {base : Nat} {e : TypeId} {size g n cap : Nat} (cs : List Value) : ∀ {w : World} {xs : List Value} (_ : w.ownsRow base e size (.slice (some ⟨g, 0, none⟩) n cap) n xs) (s : Nat),
    ∃ w', w' = (List.range cs.length).foldl (fun w j => w.setCell ⟨g, s + j, none⟩ (cs.getD j undef)) w ∧ w'.ownsRow base e size (.slice (some ⟨g, 0, none⟩) n cap) n (setsFrom xs s cs) := by
  intro w xs h s
  induction cs generalizing w xs s with
  | nil => exact ⟨w, rfl, h⟩
  | cons u us ih =>
    obtain ⟨w', h1, h2⟩ := ih (h.stored s u).1 (s + 1)
    refine ⟨w', ?_, h2⟩
    rw [h1, List.length_cons, List.range_succ_eq_map, List.foldl_cons, List.foldl_map]
    simp only [Nat.add_zero, List.getD_cons_zero]
    congr 1
    funext w j
    simp only [List.getD_cons_succ]
    congr 2
    omega
theorem owns_cellR {w : World} {base : Nat} {e : TypeId} {size g n cap : Nat} {xs : List Value} (h : w.ownsRow base e size (.slice (some ⟨g, 0, none⟩) n cap) n xs) (s : Nat) (hs : s < n * size) : ∃ u, w.cell? ⟨g, s, none⟩ = some u := by
  have hl := h.1
  exact ⟨xs[s]'(by omega), by rw [h.cellAt _ (by omega)]; exact List.getElem?_eq_getElem _⟩
theorem cells_update {k n t : Nat} {xs cs : List Value} {g : Nat → List Value} (h : RecCells k n xs g) (hl : xs.length = n * k) (ht : t < n) (hcl : cs.length = k) (hgl : ∀ i, i < n → (g i).length ≤ k) :
    RecCells k n (setsFrom xs (t * k) cs) fun i => if i = t then cs else g i := by
  have hmul : t * k + k ≤ n * k := by have := Nat.mul_le_mul_right k (show t + 1 ≤ n by omega); rw [Nat.succ_mul] at this; exact this
  intro i hi j u hu
  by_cases e : i = t
  · subst e
    replace hu : cs[j]? = some u := by simpa using hu
    exact setsFrom_in cs xs _ j u (by omega) hu
  · replace hu : (g i)[j]? = some u := by simpa [e] using hu
    have hx := h i hi j u hu
    have hj : j < (g i).length := (List.getElem?_eq_some_iff.1 hu).1
    have := hgl i hi
    rw [setsFrom_out _ _ _ _ ?_]
    · exact hx
    · rcases Nat.lt_or_ge i t with h1 | h1
      · have hmul2 : i * k + k ≤ t * k := by have := Nat.mul_le_mul_right k (show i + 1 ≤ t by omega); rw [Nat.succ_mul] at this; exact this
        left; omega
      · have hmul2 : t * k + k ≤ i * k := by have := Nat.mul_le_mul_right k (show t + 1 ≤ i by omega); rw [Nat.succ_mul] at this; exact this
        right; omega
end Go.Proofs.YteciobkjfmddcaaGreatDoor
set_option linter.unusedVariables false
namespace Go.Proofs.YteciobkjfmddcaaGreatDoor
open Go.RowKit

theorem run_append_zero {P : Program} {w : World} (base : Nat) (t ty e : TypeId) (i : TypeInfo) (size : Nat) (ht : P.underlying t = some (.slice e)) (hi : P.info? e = some i)
    (v : Value) (n : Nat) (xs : List Value) (hown : w.ownsRow base e size v n xs) (ad : Option Addr) (c : Nat) :
    (Builtin.append_ #[t, t] ty #[v, .slice ad 0 c]).run P w = .ok v w := by
  rcases ad with _ | ad
  · rcases hown.2 with ⟨rfl, rfl⟩ | ⟨g, cap, cur, rfl, _, _, hnc, _⟩
    · simp [Builtin.append_, run_underlying ht, sizeOf, typeInfo, hi, Builtin.lenOf, Builtin.firstCells]
    · simp [Builtin.append_, run_underlying ht, sizeOf, typeInfo, hi, Builtin.lenOf, Builtin.firstCells, hnc, storeCells]
  · have h0 : Sem.run P (loadCells ad 0) w = .ok #[] w := by simp [loadCells, loadCellsFrom]
    rcases hown.2 with ⟨rfl, rfl⟩ | ⟨g, cap, cur, rfl, _, _, hnc, _⟩
    · simp [Builtin.append_, run_underlying ht, sizeOf, typeInfo, hi, Builtin.lenOf, Builtin.firstCells, h0]
    · simp [Builtin.append_, run_underlying ht, sizeOf, typeInfo, hi, Builtin.lenOf, Builtin.firstCells, hnc, storeCells, h0]
theorem wpList_appendZero {P : Program} {w : World} {ops : Array Oper} {rest : List Oper} {o : Oper} {a : Act} {Q : Exit → Act → World → Prop} (hgd : o.guard = none) (s x : Operand) (t : TypeId)
    (ho : o.op = .call { callee := .builtin .append, args := #[s, x], argTypes := #[t, t] })
    (base : Nat) (e : TypeId) (i : TypeInfo) (size : Nat) (ht : P.underlying t = some (.slice e)) (hi : P.info? e = some i)
    (v : Value) (n : Nat) (xs : List Value) (hs : a.eval s = v) (hown : w.ownsRow base e size v n xs) (ad : Option Addr) (c : Nat) (hx : a.eval x = .slice ad 0 c)
    (h : wpList P ops Q rest (a.put o.dst v) w) : wpList P ops Q (o :: rest) a w := by
  refine wpList_plain hgd fun K hK => ?_
  have hrun := run_append_zero (P := P) (w := w) base t o.type e i size ht hi v n xs hown ad c
  unfold Oper.wp
  simp [execOp, ho, resolve, invoke, builtin, hs, hx, hrun, Result.andThen]
  exact hK _ _ h
def flatR (g : Nat → List Value) (n : Nat) : List Value := (List.range n).flatMap g
theorem flatR_len (k : Nat) (g : Nat → List Value) (n : Nat) (hk : ∀ i, i < n → (g i).length = k) : (flatR g n).length = n * k := by
  induction n with
  | zero => simp [flatR]
  | succ n ih =>
    have := ih fun i hi => hk i (by omega)
    unfold flatR at this ⊢
    rw [List.range_succ, List.flatMap_append, List.length_append, this]
    simp [hk n (by omega), Nat.succ_mul]
theorem flatR_cells (k : Nat) (g : Nat → List Value) (n : Nat) (hk : ∀ i, i < n → (g i).length = k) : RecCells k n (flatR g n) g := by
  induction n with
  | zero => exact RecCells.nil
  | succ n ih =>
    have h1 := ih fun i hi => hk i (by omega)
    have h2 := flatR_len k g n fun i hi => hk i (by omega)
    have h3 : flatR g (n + 1) = flatR g n ++ g n := by unfold flatR; rw [List.range_succ, List.flatMap_append]; simp
    rw [h3]
    exact h1.push h2 rfl (hk n (by omega))
theorem flatR_get (k : Nat) (g : Nat → List Value) (n : Nat) (hk : ∀ i, i < n → (g i).length = k) (h0 : 0 < k) (j : Nat) (u : Value) (h : (flatR g n)[j]? = some u) :
    j / k < n ∧ (g (j / k))[j % k]? = some u := by
  have hl := flatR_len k g n hk
  have hj : j < n * k := by rw [← hl]; exact (List.getElem?_eq_some_iff.1 h).1
  have hjn : j / k < n := Nat.div_lt_of_lt_mul (by rw [Nat.mul_comm]; exact hj)
  refine ⟨hjn, ?_⟩
  have hm : j % k < (g (j / k)).length := by rw [hk _ hjn]; exact Nat.mod_lt _ h0
  obtain ⟨u', hu'⟩ : ∃ u', (g (j / k))[j % k]? = some u' := ⟨_, List.getElem?_eq_getElem hm⟩
  have := flatR_cells k g n hk (j / k) hjn (j % k) u' hu'
  rw [Nat.mul_comm, Nat.div_add_mod, h] at this
  rw [hu']; exact this.symm
theorem wpList_cloneR {P : Program} {w : World} {ops : Array Oper} {rest : List Oper} {o : Oper} {a : Act} {Q : Exit → Act → World → Prop} (hgd : o.guard = none) (s x : Operand) (t : TypeId)
    (ho : o.op = .call { callee := .builtin .append, args := #[s, x], argTypes := #[t, t] })
    (e : TypeId) {i : TypeInfo} {z : Value} {k bytes : Nat} (ht : P.underlying t = some (.slice e)) (hi : P.info? e = some i) (hz : i.zero = some z) (hsize : i.size = k) (hby : i.bytes = bytes) (hzs : z.cells.size = k) (hk0 : 0 < k)
    {v : Value} {m : Nat} {g : Nat → List Value} (hs : a.eval s = .slice (some ⟨w.heap.size, 0, none⟩) 0 0) (hx : a.eval x = v) (hrow : RecRow k w v m g) (hgl : ∀ i, i < m → (g i).length = k) (h1 : ∀ i, i < m → ∀ u ∈ g i, u.oneCell' = true)
    (hm : m ≤ 1048576) (hb : bytes ≤ 1048576)
    (h : ∀ vv w', w'.ownsRow w.heap.size e k vv m (flatR g m) → Below w.heap.size w w' → wpList P ops Q rest (a.put o.dst vv) w') : wpList P ops Q (o :: rest) a (w.alloc (.cells #[] e)) := by
  have hown : (w.alloc (.cells #[] e)).ownsRow w.heap.size e k (.slice (some ⟨w.heap.size, 0, none⟩) 0 0) 0 [] := World.ownsRow_lit w #[] 0 (Nat.le_refl _) (by decide) (by simp)
  rcases hrow with ⟨ad, cap, rfl, rfl⟩ | ⟨b, off, c, rfl, h0, _, hc, _⟩
  · exact wpList_appendZero hgd s x t ho w.heap.size e i k ht hi _ 0 [] hs hown ad cap hx (h _ _ (by simpa [flatR] using hown) ((Below.refl _ _).alloc (Nat.le_refl _) _))
  · have hmul : (0 + m) * bytes ≤ 1048576 * 1048576 := Nat.mul_le_mul (by omega) hb
    refine wpList_append_lies _ hgd s x t ho w.heap.size e i z k bytes ht hi hz hsize hby hzs hk0 _ 0 [] hs hown ⟨b, off, none⟩ m c (flatR g m) hx (flatR_len k g m hgl) ?_ ?_ h0 (by unfold maxLen; omega) (by omega) (by simp) _ rfl ?_
    · intro j u hu
      obtain ⟨hj, hv⟩ := flatR_get k g m hgl hk0 j u hu
      have hadd : (⟨b, off, none⟩ : Addr).add j = ⟨b, off + j, none⟩ := by unfold Addr.add; split <;> simp_all
      have hq := (hc _ hj).2 _ u hv
      rw [show off + j / k * k + j % k = off + j by rw [Nat.add_assoc, Nat.mul_comm, Nat.div_add_mod]] at hq
      rw [hadd]
      exact (((Below.refl _ w).alloc (Nat.le_refl _) (.cells #[] e)).cell (p := ⟨b, off + j, none⟩) (hc _ hj).1).trans hq
    · intro u hu
      unfold flatR at hu
      rw [List.mem_flatMap] at hu
      obtain ⟨j, hj, hu⟩ := hu
      exact h1 j (List.mem_range.1 hj) u hu
    · intro gg cap w' ho' hg' hat hlt
      simp only [Nat.zero_add, List.nil_append] at ho' ⊢
      exact h _ w' ho' (((Below.refl _ w).alloc (Nat.le_refl _) _).grown hg' (by simp) (fun k hk => by simp [Value.ownBlock] at hk; omega))
end Go.Proofs.YteciobkjfmddcaaGreatDoor
