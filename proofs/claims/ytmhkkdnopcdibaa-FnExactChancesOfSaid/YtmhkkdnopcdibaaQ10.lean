/-
  Packed: Draw5, Draw6, Draw7.
-/
import Derived.Deep.RegionHeld3
import Derived.Deep.RegionLaw
import Derived.Deep.AppendLies
import Derived.Test.YtmhkkdnopcdibaaQ4
import Derived.Test.YtmhkkdnopcdibaaQ9
set_option linter.unusedVariables false
namespace Go.Proofs.Ytmhkkdnopcdibaa
open Go.RowKit

theorem BoxF.grown {w w' : World} {B : Nat} {cs : List Value} {row : Option Nat} (h : BoxF w B cs) (hg : w.grownBy w' row) (hr : row ≠ some B) : BoxF w' B cs :=
  ⟨Nat.lt_of_lt_of_le h.1 hg.size, fun j v hv => ⟨(hg.cell_far ⟨B, j, none⟩ h.1 (fun e => hr e.symm)).trans (h.2 j v hv).1, (hg.frozen_far ⟨B, j, none⟩ h.1 (fun e => hr e.symm)).trans (h.2 j v hv).2⟩⟩
theorem below_setD {B : Nat} {a w : World} (h : Below B a w) (p : Addr) (u : Value) (hp : B ≤ p.block) : Below B a (w.setCell p u) :=
  ⟨h.os, h.tape, h.output, Nat.le_trans h.size (by simp [World.setCell]), fun k hk => (Below.heap_setCell _ _ _ _ (by omega)).trans (h.block k hk)⟩
theorem potAt_in : ∀ (T : List (List Int)) (i : Nat) (r : List Int), T[i]? = some r → ∀ j, j < r.length → potAt T (((T.take i).flatten).length + j) = i
  | [], i, r, h, _, _ => by cases h
  | s :: T, 0, r, h, j, hj => by
    have e : s = r := by simpa using h
    subst e
    show (if _ < _ then _ else _) = 0
    rw [if_pos (by simpa using hj)]
  | s :: T, i + 1, r, h, j, hj => by
    have h2 : T[i]? = some r := by simpa using h
    show (if _ < _ then _ else _) = i + 1
    have e : ((List.take (i + 1) (s :: T)).flatten).length = s.length + ((T.take i).flatten).length := by simp
    rw [e, if_neg (by omega)]
    rw [show s.length + ((T.take i).flatten).length + j - s.length = ((T.take i).flatten).length + j by omega, potAt_in T i r h2 j hj]
theorem potAt_lt : ∀ (T : List (List Int)) (i : Nat), i < T.flatten.length → potAt T i < T.length
  | [], i, h => by simp at h
  | s :: T, i, h => by
    show (if _ < _ then _ else _) < T.length + 1
    split
    · omega
    · next h1 =>
      have h2 : i < s.length + T.flatten.length := by simpa using h
      have := potAt_lt T (i - s.length) (by omega)
      omega
def PotI (w1 : World) (X : Nat) (vf : Value) (most : Int) (vt : Value) (T : List (List Int)) (c : Nat) (v : Value) (wr : World) : Prop :=
  BoxF wr X [vf, .int .i64 most, vt, v, .slice none 0 0, .slice none 0 0] ∧ wr.ownsRow (X + 1) 3 1 v c ((List.range c).map fun j => Value.int .i64 (potAt T j)) ∧ Below X w1 wr
section
variable {w1 : World} {X : Nat} {vf : Value} {most : Int} {vt : Value} {T : List (List Int)} {c : Nat} {v : Value} {wr : World}
theorem PotI.keep {w2 : World} (h : PotI w1 X vf most vt T c v wr) (b : Below wr.heap.size wr w2) : PotI w1 X vf most vt T c v w2 :=
  ⟨h.1.below b, owns_below h.2.1 b (Nat.le_refl _), h.2.2.trans (b.mono (Nat.le_of_lt h.1.1))⟩
theorem PotI.drew (h : PotI w1 X vf most vt T c v wr) : PotI w1 X vf most vt T c v wr.drew := h.keep (Below.refl _ _).drew
theorem PotI.alloc (o : Obj) (h : PotI w1 X vf most vt T c v wr) : PotI w1 X vf most vt T c v (wr.alloc o) := h.keep ((Below.refl _ _).alloc (Nat.le_refl _) _)
theorem PotI.cell (h : PotI w1 X vf most vt T c v wr) : wr.cell? ⟨X, 3, none⟩ = some v := (h.1.2 3 _ rfl).1
theorem PotI.size (h : PotI w1 X vf most vt T c v wr) : X + 1 ≤ wr.heap.size := h.1.1
theorem PotI.put {k : Nat} {v' : Value} {wc : World} (hk : k = potAt T c) (hg : wr.grownBy wc v.ownBlock) (ho : wc.ownsRow (X + 1) 3 1 v' (c + 1) ((List.range c).map (fun j => Value.int .i64 (potAt T j)) ++ [.int .i64 k])) (h : PotI w1 X vf most vt T c v wr) :
    PotI w1 X vf most vt T (c + 1) v' (wc.setCell ⟨X, 3, none⟩ v') ∧ wc.cell? ⟨X, 3, none⟩ = some v ∧ wc.frozen? ⟨X, 3, none⟩ = false := by
  have hB : BoxF wc X [vf, .int .i64 most, vt, v, .slice none 0 0, .slice none 0 0] := h.1.grown hg fun e => by have := (h.2.1.lt _ e).1; omega
  refine ⟨⟨hB.set 3 v' (by simp), ?_, ?_⟩, hB.2 3 _ rfl⟩
  · rw [List.range_succ, List.map_append, List.map_singleton, ← hk]
    exact owns_low ho 3 v' (by omega)
  · exact below_setD (h.2.2.grown hg (Nat.le_of_lt h.1.1) (fun q hq => by have := (h.2.1.lt _ hq).1; omega)) ⟨X, 3, none⟩ _ (Nat.le_refl _)
end
theorem Try.infoBoolS : (Try.prog.info? 130).map (fun i => (i.zero, i.size, i.bytes)) = some (some (.slice none 0 0), 1, 24) := by kernel_rfl
theorem Try.infoBool : (Try.prog.info? 4).map (fun i => (i.zero, i.size, i.bytes)) = some (some (.bool false), 1, 1) := by kernel_rfl
def GrpI (w3 : World) (X : Nat) (a c d : Value) (most : Int) (np n n' : Nat) (gv cv : Value) (r q : Nat → Nat) (wr : World) : Prop :=
  BoxF wr X [a, .int .i64 most, c, d, gv, cv] ∧ Touch X (X + 1) w3 wr ∧ X < w3.heap.size ∧ Fam wr w3.heap.size 130 gv n np 4 (.bool false) r ∧ Fam wr w3.heap.size 31 cv n' 6 3 (.int .i64 0) q ∧ ∀ b, famUses gv n r b → ¬ famUses cv n' q b
theorem touch_moreD {lo hi : Nat} {u w w' : World} {row : Option Nat} (h : Touch lo hi u w) (g : w.grownBy w' row) (hr : ∀ q, row = some q → u.heap.size ≤ q) : Touch lo hi u w' :=
  ⟨g.os.trans h.os, g.tape.trans h.tape, g.output.trans h.output, Nat.le_trans h.size g.size, fun k hk ho => (g.block k (Nat.lt_of_lt_of_le hk h.size) (fun e => by have := hr k e.symm; omega)).trans (h.block k hk ho)⟩
section
variable {w3 : World} {X : Nat} {a c d : Value} {most : Int} {np n n' : Nat} {gv cv : Value} {r q : Nat → Nat} {wr : World}
theorem GrpI.keep {w2 : World} (h : GrpI w3 X a c d most np n n' gv cv r q wr) (b : Below wr.heap.size wr w2) : GrpI w3 X a c d most np n n' gv cv r q w2 :=
  ⟨h.1.below b, h.2.1.trans (Touch.of_below b), h.2.2.1, h.2.2.2.1.below b, h.2.2.2.2.1.below b, h.2.2.2.2.2⟩
theorem GrpI.drew (h : GrpI w3 X a c d most np n n' gv cv r q wr) : GrpI w3 X a c d most np n n' gv cv r q wr.drew := h.keep (Below.refl _ _).drew
theorem GrpI.alloc (o : Obj) (h : GrpI w3 X a c d most np n n' gv cv r q wr) : GrpI w3 X a c d most np n n' gv cv r q (wr.alloc o) := h.keep ((Below.refl _ _).alloc (Nat.le_refl _) _)
theorem GrpI.cell4 (h : GrpI w3 X a c d most np n n' gv cv r q wr) : wr.cell? ⟨X, 4, none⟩ = some gv := (h.1.2 4 _ rfl).1
theorem GrpI.cell5 (h : GrpI w3 X a c d most np n n' gv cv r q wr) : wr.cell? ⟨X, 5, none⟩ = some cv := (h.1.2 5 _ rfl).1
theorem GrpI.size (h : GrpI w3 X a c d most np n n' gv cv r q wr) : w3.heap.size ≤ wr.heap.size := h.2.1.size
theorem GrpI.pushP {o : Obj} {wc : World} {v' : Value} (hg : ((wr.alloc (.cells (madeCells #[.bool false] np) 4)).alloc o).grownBy wc gv.ownBlock)
    (ho : wc.ownsRow w3.heap.size 130 1 v' (n + 1) (((List.range n).map fun a => Value.slice (some ⟨r a, 0, none⟩) np np) ++ [.slice (some ⟨wr.heap.size, 0, none⟩) np np]))
    (hat : ∀ b, v'.ownBlock = some b → gv.ownBlock = some b ∨ wr.heap.size < b) (h : GrpI w3 X a c d most np n n' gv cv r q wr) :
    (∃ r', GrpI w3 X a c d most np (n + 1) n' v' cv r' q (wc.setCell ⟨X, 4, none⟩ v')) ∧ wc.cell? ⟨X, 4, none⟩ = some gv ∧ wc.frozen? ⟨X, 4, none⟩ = false := by
  have h2 := (h.alloc (.cells (madeCells #[.bool false] np) 4)).alloc o
  have hB : BoxF wc X [a, .int .i64 most, c, d, gv, cv] := h2.1.grown hg fun e => by have := (h.2.2.2.1.own.lt _ e).1; have := h.2.2.1; omega
  obtain ⟨r', f1, f2⟩ := h.2.2.2.1.push h.size hg ho hat
  refine ⟨⟨r', hB.set 4 v' (by simp), ?_, h.2.2.1, f1.low 4 v' h.2.2.1, ?_, fun b h1 h3 => ?_⟩, hB.2 4 _ rfl⟩
  · exact (touch_moreD h2.2.1 hg fun b hb => (h.2.2.2.1.own.lt _ hb).1).setCell ⟨X, 4, none⟩ _ (Nat.le_refl _) (Nat.lt_succ_self _)
  · exact (h2.2.2.2.2.1.keep hg fun b hb => h.2.2.2.2.2 b (.inl hb)).low 4 v' h.2.2.1
  · rcases f2 b h1 with h4 | h4
    · exact h.2.2.2.2.2 b h4 h3
    · have := (h.2.2.2.2.1.lt h3).2; omega
theorem GrpI.pushC {o : Obj} {wc : World} {v' : Value} (hg : ((wr.alloc (.cells (madeCells #[.int .i64 0] 6) 3)).alloc o).grownBy wc cv.ownBlock)
    (ho : wc.ownsRow w3.heap.size 31 1 v' (n' + 1) (((List.range n').map fun a => Value.slice (some ⟨q a, 0, none⟩) 6 6) ++ [.slice (some ⟨wr.heap.size, 0, none⟩) 6 6]))
    (hat : ∀ b, v'.ownBlock = some b → cv.ownBlock = some b ∨ wr.heap.size < b) (h : GrpI w3 X a c d most np n n' gv cv r q wr) :
    (∃ q', GrpI w3 X a c d most np n (n' + 1) gv v' r q' (wc.setCell ⟨X, 5, none⟩ v')) ∧ wc.cell? ⟨X, 5, none⟩ = some cv ∧ wc.frozen? ⟨X, 5, none⟩ = false := by
  have h2 := (h.alloc (.cells (madeCells #[.int .i64 0] 6) 3)).alloc o
  have hB : BoxF wc X [a, .int .i64 most, c, d, gv, cv] := h2.1.grown hg fun e => by have := (h.2.2.2.2.1.own.lt _ e).1; have := h.2.2.1; omega
  obtain ⟨q', f1, f2⟩ := h.2.2.2.2.1.push h.size hg ho hat
  refine ⟨⟨q', hB.set 5 v' (by simp), ?_, h.2.2.1, ?_, f1.low 5 v' h.2.2.1, fun b h1 h3 => ?_⟩, hB.2 5 _ rfl⟩
  · exact (touch_moreD h2.2.1 hg fun b hb => (h.2.2.2.2.1.own.lt _ hb).1).setCell ⟨X, 5, none⟩ _ (Nat.le_refl _) (Nat.lt_succ_self _)
  · exact (h2.2.2.2.1.keep hg fun b hb hu => h.2.2.2.2.2 b hu (.inl hb)).low 5 v' h.2.2.1
  · rcases f2 b h3 with h4 | h4
    · exact h.2.2.2.2.2 b h1 h4
    · have := (h.2.2.2.1.lt h1).2; omega
end
theorem flat_most {G : Nat} : ∀ T : List (List Int), (∀ i, i < T.length → (T.getD i []).length ≤ G) → T.flatten.length ≤ T.length * G
  | [], _ => by simp
  | s :: T, h => by
    have h1 : s.length ≤ G := h 0 (by simp)
    have h2 := flat_most T fun i hi => by have := h (i + 1) (by simp; omega); simpa using this
    have e : (s :: T).flatten.length = s.length + T.flatten.length := by simp
    have e2 : (s :: T).length * G = T.length * G + G := by rw [List.length_cons, Nat.succ_mul]
    rw [e, e2]
    omega
theorem flat_some {T : List (List Int)} (h0 : 0 < T.length) (h : ∀ i, i < T.length → 1 ≤ (T.getD i []).length) : 0 < T.flatten.length := by
  cases T with
  | nil => simp at h0
  | cons s T =>
    have h1 : 1 ≤ s.length := h 0 (by simp)
    have e : (s :: T).flatten.length = s.length + T.flatten.length := by simp
    rw [e]
    omega
set_option maxHeartbeats 1000000 in
theorem NewM.of {w w1 w3 wr : World} {X nf N np G : Nat} {F : Nat → TeamD} {T : List (List Int)} {FL : List Int} {most : Int} {fa ta : Option Addr} {fc tc : Nat} {v pv cv : Value} {r q : Nat → Nat}
    (hB1 : Below w.heap.size w w1) (hX : w1.heap.size = X) (hF : TeamRow w1 (.slice fa nf fc) nf F) (hT : IntRow w1 (.slice ta N tc) N (getI FL))
    (hP : PotI w1 X (.slice fa nf fc) most (.slice ta N tc) T N v w3) (hG : GrpI w3 X (.slice fa nf fc) (.slice ta N tc) v most np G G pv cv r q wr) (hp : potsP nf F T G most) (hFL : T.flatten = FL) (hN : FL.length = N) (hnp : T.length = np) :
    NewM w (drwD F T G most) (.returned (.pointer (some ⟨X, 0, none⟩))) wr := by
  obtain ⟨hf, hg, hm, ht, hr, hd⟩ := hp
  have hnf : 2 ≤ nf ∧ nf ≤ 8 := hf.1
  have hwX : w.heap.size ≤ X := by rw [← hX]; exact hB1.size
  have hN0 : 0 < N := by rw [← hN, ← hFL]; exact flat_some (by omega) fun i hi => by have := (hr i hi).1; omega
  have hN12 : N ≤ 12 := by
    have h1 := flat_most (G := G) T fun i hi => by have := (hr i hi).2; omega
    have h2 : T.length * G ≤ 3 * 4 := Nat.mul_le_mul (by omega) (by omega)
    rw [hFL, hN] at h1
    omega
  obtain ⟨_, _, he, _, hfc⟩ := hF.form'
  simp only [Value.slice.injEq, true_and] at he
  obtain ⟨rfl, rfl⟩ := he
  obtain ⟨fb, fo, rfl, hfcap, hcells⟩ := hfc (by omega)
  obtain ⟨tb, to, rfl, htcap, ht0⟩ := int_at hT hN0
  obtain ⟨pb, pc, rfl, hpb1, hpb2⟩ := hP.2.1.form hN0
  have hpc : N ≤ pc := by
    rcases hP.2.1.2 with ⟨_, h9⟩ | ⟨g, cap, cur, h9, _, _, h8, _⟩
    · omega
    · simp only [Value.slice.injEq, true_and] at h9
      obtain ⟨_, rfl⟩ := h9
      exact h8
  obtain ⟨gb, gcap, rfl, hmp⟩ := hG.2.2.2.1.mat (by omega)
  obtain ⟨cb, ccap, rfl, hmc⟩ := hG.2.2.2.2.1.mat (by omega)
  have hlo : X < w3.heap.size := hG.2.2.1
  have hBX : Below X w1 wr := hP.2.2.trans (hG.2.1.below (Nat.le_refl _) (Nat.le_of_lt hlo))
  have key : ∀ (b o : Nat) (u : Value), w1.cell? ⟨b, o, none⟩ = some u → wr.cell? ⟨b, o, none⟩ = some u := fun b o u h => (hBX.cell (p := ⟨b, o, none⟩) (by rw [← hX]; exact World.block_lt_of_cell? w1 _ h)).trans h
  have hfb : fb < X := by rw [← hX]; exact World.block_lt_of_cell? w1 _ (hcells 0 (by omega)).1
  have htb : tb < X := by rw [← hX]; exact World.block_lt_of_cell? w1 _ ht0
  have hdd : ∀ i, i < N → 0 ≤ getI FL i ∧ getI FL i ≤ (nf : Int) - 1 := fun i hi => by have := (hd i (by rw [hFL, hN]; exact hi)).1; rw [hFL] at this; exact this
  have htm : ∀ i, teamAt T i = (getI FL i).toNat := fun i => by unfold teamAt; rw [hFL]
  have hTN : ∀ i, i < N → ((teamAt T i : Nat) : Int) = getI FL i ∧ teamAt T i < nf := fun i hi => by have := hdd i hi; rw [htm]; omega
  have hA := hG.2.2.2.2.2
  refine ⟨w3.heap.size, wr.heap.size, X, { fb := fb, fo := fo, nf := nf, fc := fc, tb := tb, to := to, tc := tc, pb := pb, po := 0, pc := pc, gb := gb, gcap := gcap, cb := cb, ccap := ccap, N := N, G := G, NP := np, r := r, rc := fun _ => np, q := q, qc := fun _ => 6, team := teamAt T, pot := potAt T, cl := fun i => (F (teamAt T i)).club.toNat, most := most }, rfl, ⟨?_, ?_, rfl, rfl, rfl, rfl⟩, ⟨hG.1.box, ⟨hlo, Nat.lt_trans hfb hlo, Nat.lt_trans htb hlo, hpb2⟩, ⟨hfcap, htcap, ?_, hN12, by show G ≤ 4; omega, hnf.2, by show np ≤ 3; omega⟩, fun i hi => ?_, fun i hi => ?_, fun i hi => ?_, hmp, hmc, ?_⟩, ?_, Nat.le_trans hwX (Nat.le_of_lt hlo)⟩
  · show N = T.flatten.length
    rw [hFL, hN]
  · show G = ((G : Int)).toNat
    simp
  · exact hpc
  · obtain ⟨bo, of, e, _, h9⟩ := int_at hT hi
    simp only [Option.some.injEq, Addr.mk.injEq, and_true] at e
    obtain ⟨rfl, rfl⟩ := e
    have h8 := hTN i hi
    refine ⟨?_, h8.2⟩
    show wr.cell? ⟨tb, to + i, none⟩ = some (.int .i64 ((teamAt T i : Nat) : Int))
    rw [h8.1]
    exact key _ _ _ h9
  · refine ⟨?_, ?_⟩
    · show wr.cell? ⟨pb, 0 + i, none⟩ = some (.int .i64 (potAt T i))
      rw [Nat.zero_add, World.cell?_of_block (w := w3) (a := ⟨pb, i, none⟩) (hG.2.1.block pb hpb2 (.inr hpb1)), hP.2.1.cellAt i (by rw [Nat.mul_one]; exact hi), List.getElem?_map, List.getElem?_range hi]
      rfl
    · show potAt T i < np
      rw [← hnp]
      exact potAt_lt T i (by rw [hFL, hN]; exact hi)
  · have h8 := hTN i hi
    have h7 : 0 ≤ (F (teamAt T i)).club ∧ (F (teamAt T i)).club ≤ 5 := (hf.2 _ h8.2).1.2.1
    refine ⟨?_, ?_⟩
    · show wr.cell? ⟨fb, fo + teamAt T i * 3 + 1, none⟩ = some (.int .i64 (((F (teamAt T i)).club.toNat : Nat) : Int))
      rw [Int.toNat_of_nonneg h7.1]
      exact key _ _ _ (hcells _ h8.2).2.1
    · show (F (teamAt T i)).club.toNat < 6
      omega
  · refine ⟨fun e => ?_, fun g hg => ⟨fun e => ?_, fun e => ?_⟩, fun g h hg hh e => ?_⟩
    · exact hA gb (.inl rfl) (.inl (by show some cb = some gb; rw [show gb = cb from e]))
    · exact hA (r g) (.inr ⟨g, hg, rfl⟩) (.inl (by show some cb = some (r g); rw [show r g = cb from e]))
    · exact hA gb (.inl rfl) (.inr ⟨g, hg, e⟩)
    · exact hA (r g) (.inr ⟨g, hg, rfl⟩) (.inr ⟨h, hh, e.symm⟩)
  · exact hB1.trans (hBX.mono hwX)
set_option maxRecDepth 100000 in
set_option maxHeartbeats 4000000 in
theorem l12New_spec : NewC := by
  intro vf nf F vp gr most T w hf h hw hp
  obtain ⟨G, rfl⟩ : ∃ G : Nat, gr = (G : Int) := ⟨gr.toNat, by have := hp.2.1; omega⟩
  have hG4 : 1 ≤ G ∧ G ≤ 4 := by have := hp.2.1; omega
  obtain ⟨pa, pc, rfl, hpn⟩ := pots_form h
  obtain ⟨fa, fc, rfl, hfn, _⟩ := hf.form
  have hfl6 := Nat.le_trans (flat_wt (T := T)) hw
  obtain ⟨U, hU⟩ : ∃ U, w.alloc (.cells #[.slice pa (List.length (α := List Int) T) pc, .int .i64 G, .int .i64 most] 26) = U := ⟨_, rfl⟩
  have bU : Below w.heap.size w U := by rw [← hU]; exact (Below.refl _ _).alloc (Nat.le_refl _) _
  have HS : Hid (PotsAt U w.heap.size pa (List.length (α := List Int) T) pc G most T) := by rw [← hU]; exact PotsAt.made h
  have HB := Lib.hid bU
  have HP := Lib.hid hp
  have HF : Hid (TeamRow U (.slice fa nf fc) nf F) := hf.below bU (Nat.le_refl _)
  have CL : Hid (∀ wa, Below U.heap.size U wa → Calls Try.prog 59 #[.agg #[.slice pa (List.length (α := List Int) T) pc, .int .i64 G, .int .i64 most]] wa (IntsL wa T.flatten)) := fun wa hb => l12Teams_spec _ G most T wa (HS.out.2.below hb) hw
  obtain ⟨i0, hi, hz0, hz1, hz2⟩ := info_parts Try.infoI
  obtain ⟨np, hnp⟩ : ∃ np, List.length (α := List Int) T = np := ⟨_, rfl⟩
  have HNP := Lib.hid hnp
  rw [hnp] at hpn hU HS CL ⊢
  have c0 := HS.out.1.2 0 _ rfl
  have c1 := HS.out.1.2 1 _ rfl
  have c2 := HS.out.1.2 2 _ rfl
  obtain ⟨FL, hFL⟩ : ∃ FL, T.flatten = FL := ⟨_, rfl⟩
  have HFL := Lib.hid hFL
  rw [hFL] at hfl6 CL
  obtain ⟨N, hN⟩ : ∃ N, FL.length = N := ⟨_, rfl⟩
  have HNN := Lib.hid hN
  rw [hN] at hfl6
  clear h hf bU hw hp hnp hFL
  go_enter Try.func65, Try.ntmps65
  go_wp2_with fail
  clear hU
  have HC : Hid (∀ w', Below U.heap.size U w' → w'.cell? ⟨w.heap.size, 0, none⟩ = some (.slice pa np pc) ∧ w'.cell? ⟨w.heap.size, 1, none⟩ = some (.int .i64 G) ∧ w'.cell? ⟨w.heap.size, 2, none⟩ = some (.int .i64 most)) := fun w' hb => ⟨(HS.out.1.below hb).2 0 _ rfl, (HS.out.1.below hb).2 1 _ rfl, (HS.out.1.below hb).2 2 _ rfl⟩
  go_region_held3 (fun w' => w'.cell? ⟨w.heap.size, 0, none⟩ = some (.slice pa np pc) ∧ w'.cell? ⟨w.heap.size, 1, none⟩ = some (.int .i64 G) ∧ w'.cell? ⟨w.heap.size, 2, none⟩ = some (.int .i64 most)) (first | exact HC.out _ (Below.refl _ _).drew | exact HC.out _ hSw | exact HC.out _ (hSw.alloc hSw.size _))
    (first | (go_at_call 59; refine (CL.out _ (Below.refl _ _).drew).mono ?_; rintro e w1 h9; obtain ⟨vt, rfl, htr, hown, b⟩ := IntsL.made h9 (by rw [hN]; omega); obtain ⟨ta, tc, rfl, _, _⟩ := htr.form; rw [hN] at htr hown ⊢; have hSw : Below U.heap.size U w1 := (Below.refl _ _).drew.trans b) | fail)
  have HS1 := Lib.hid (HS.out.below hSw)
  have HTR := Lib.hid htr
  have HF1 := Lib.hid (HF.out.below hSw (Nat.le_refl _))
  have HB1 := Lib.hid (HB.out.trans (hSw.mono HB.out.size))
  have hX0 : w.heap.size < w1.heap.size := HS1.out.1.1
  obtain ⟨xs9, hxs9⟩ := hown
  have HTI : Hid (InW U.heap.size w1.heap.size (.slice ta N tc)) := InW.of_owns hxs9
  clear htr hSw b h9 hxs9 HS HF HB HC CL hN c0 c1 c2
  obtain ⟨V, hV⟩ : ∃ V, w1.alloc (.cells #[.slice fa nf fc, .int .i64 most, .slice ta N tc, .slice none 0 0, .slice none 0 0, .slice none 0 0] 95) = V := ⟨_, rfl⟩
  obtain ⟨X, hX⟩ : ∃ X, w1.heap.size = X := ⟨_, rfl⟩
  have P0 : Hid (PotI w1 X (.slice fa nf fc) most (.slice ta N tc) T 0 (.slice none 0 0) V) := by
    rw [← hV, ← hX]
    exact ⟨BoxF.made (Below.refl _ _) rfl, World.ownsRow_nil _ _ _ _, (Below.refl _ _).alloc (Nat.le_refl _) _⟩
  have HKP : Hid (∀ wa c v, PotI w1 X (.slice fa nf fc) most (.slice ta N tc) T c v wa → PotsAt wa w.heap.size pa np pc G most T) := fun wa c v h => HS1.out.below (by rw [hX]; exact h.2.2)
  have c0 := (HKP.out _ _ _ P0.out).1.2 0 _ rfl
  have c1 := (HKP.out _ _ _ P0.out).1.2 1 _ rfl
  have c2 := (HKP.out _ _ _ P0.out).1.2 2 _ rfl
  have HX := Lib.hid hX
  rw [hV, hX]
  clear hV hX
  go_wp2
  clear c0 c1 c2
  go_loopw [19] (fun iv wr => ∃ (i : Nat) (v : Value), i ≤ np ∧ iv = .int .i64 i ∧ Hid (PotI w1 X (.slice fa nf fc) most (.slice ta N tc) T ((T.take i).flatten).length v wr)) (fun iv _ => np - (RowKit.intOf iv).toNat)
  case atStart => exact ⟨0, _, Nat.zero_le _, rfl, P0⟩
  case round =>
    clear P0
    obtain ⟨i, v, hi9, rfl, HPI⟩ := hrel
    by_cases hlt : i < np
    · obtain ⟨r, hr⟩ : ∃ r : List Int, T[i]? = some r := ⟨_, List.getElem?_eq_getElem (by rw [HNP.out]; exact hlt)⟩
      obtain ⟨b, off, x, xc, rfl, hcap, q0, hrr, hm63⟩ := pot_cells (by rw [HNP.out]; exact (HKP.out _ _ _ HPI.out).2) hr
      rw [HNP.out] at hcap
      have hj1 : (i : Int) < (np : Int) := by omega
      have HLN : Hid (((T.take (i + 1)).flatten).length = ((T.take i).flatten).length + r.length) := by show _ = _; rw [List.take_add_one, hr, List.flatten_append]; simp
      have HPT : Hid (∀ j, j < r.length → potAt T (((T.take i).flatten).length + j) = i) := potAt_in T i r hr
      have hcb : ((T.take i).flatten).length + r.length ≤ 1048576 := by rw [← HLN.out]; refine Nat.le_trans (flat_takeD _) ?_; rw [HFL.out, HNN.out]; exact hfl6
      obtain ⟨m, hm⟩ : ∃ m, r.length = m := ⟨_, rfl⟩
      rw [hm] at q0 hm63 HLN HPT hcb
      generalize ((T.take i).flatten).length = cI at *
      clear hm hrr hr
      go_wp2
      clear q0
      generalize wr = w2 at *
      go_loopw [26] (fun jv wr => ∃ (j : Nat) (v : Value), j ≤ m ∧ jv = .int .i64 j ∧ Hid (PotI w1 X (.slice fa nf fc) most (.slice ta N tc) T (cI + j) v wr)) (fun jv _ => m - (RowKit.intOf jv).toNat)
      case atStart => exact ⟨0, v, Nat.zero_le _, rfl, HPI⟩
      case round =>
        clear HPI
        obtain ⟨j, v, hj9, rfl, HPJ⟩ := hrel
        by_cases hlt2 : j < m
        · have hj2 : (j : Int) < (m : Int) := by omega
          obtain ⟨va, vc, hvf⟩ := owns_form HPJ.out.2.1
          subst hvf
          have c3 := HPJ.out.cell
          have HPJ2 : Hid (i = potAt T (cI + j)) := (HPT.out j hlt2).symm
          have hsz := HPJ.out.size
          go_wp2_with (at_builtin; refine wpList_pushL rfl (.tmp 32) (.tmp 34) 31 rfl (X + 1) 3 Try.underlying31 hi hz0 hz1 hz2 rfl (by decide) [.int .i64 i] rfl (by intro u hu; simp at hu; subst hu; rfl) rfl (by show Value.slice (some ⟨_, 0, none⟩) 1 1 = _; simp) HPJ.out.2.1 (by unfold maxLen; omega) (by omega) hsz ?_; intro gg c9 wc oc gc hat hlt9; have s9 := PotI.put HPJ2.out gc oc HPJ.out; have f9 := s9.2.1; have e9 := s9.2.2; have S9 := Lib.hid s9.1; clear s9 oc gc hat hlt9)
          go_roundw
          case rel => exact ⟨j + 1, _, by omega, by go_num, S9⟩
          case measure => simp [RowKit.intOf]; omega
        obtain rfl : j = m := by omega
        go_wp2
        go_roundw
        case rel => exact ⟨i + 1, v, by omega, by go_num, by rw [HLN.out]; exact HPJ⟩
        case measure => simp [RowKit.intOf]; omega
    obtain rfl : np = i := by omega
    have HPN : Hid (PotI w1 X (.slice fa nf fc) most (.slice ta N tc) T N v wr) := by
      have h9 := HPI.out
      rw [List.take_of_length_le (by have := HNP.out; omega), HFL.out, HNN.out] at h9
      exact h9
    clear HPI
    have hX1 : X < wr.heap.size := HPN.out.1.1
    have G0 : Hid (GrpI wr X (.slice fa nf fc) (.slice ta N tc) v most np 0 0 (.slice none 0 0) (.slice none 0 0) id id wr) :=
      ⟨HPN.out.1, Touch.refl _ _ _, hX1, Fam.nil _ _ _ _ _ _, Fam.nil _ _ _ _ _ _, fun b h => by rcases h with h | ⟨_, h, _⟩ <;> (simp [Value.ownBlock] at h)⟩
    have HPX := Lib.hid (HKP.out _ _ _ HPN.out).1
    have HX0 : Hid (w.heap.size < X) := by show _ < _; rw [← HX.out]; exact hX0
    have mk1 : ∀ w, (Instr.makeSlice 130 (.int .i64 (np : Int)) (.int .i64 (np : Int))).run Try.prog w = .ok (.slice (some ⟨w.heap.size, 0, none⟩) np np) (w.alloc (.cells (madeCells #[.bool false] np) 4)) := fun w => run_make_row' _ _ _ 1 Try.underlying130 Try.infoBool rfl .i64 .i64 np (by have := HP.out.2.2.2.1; rw [HNP.out] at this; omega) hpn w
    have mk2 : ∀ w, (Instr.makeSlice 31 (.int .i64 6) (.int .i64 6)).run Try.prog w = .ok (.slice (some ⟨w.heap.size, 0, none⟩) 6 6) (w.alloc (.cells (madeCells #[.int .i64 0] 6) 3)) := fun w => run_make_row' _ _ _ 8 Try.underlying31 Try.infoI rfl .i64 .i64 6 (by omega) (by omega) w
    obtain ⟨b0, bi, bz0, bz1, bz2⟩ := info_parts Try.infoBoolS
    obtain ⟨s0i, si, iz0, iz1, iz2⟩ := info_parts Try.infoIntSS
    go_wp2
    generalize hwr : wr = w3 at *
    clear hwr
    go_loopw [8] (fun gv wr => ∃ (g : Nat) (pv cv : Value) (r q : Nat → Nat), g ≤ G ∧ gv = .int .i64 g ∧ Hid (GrpI w3 X (.slice fa nf fc) (.slice ta N tc) v most np g g pv cv r q wr)) (fun gv _ => G - (RowKit.intOf gv).toNat)
    case atStart => exact ⟨0, _, _, _, _, Nat.zero_le _, rfl, G0⟩
    case round =>
      clear G0
      obtain ⟨g, pv, cv, r, q, hg9, rfl, HG⟩ := hrel
      have HPr := Lib.hid (HPX.out.touch HG.out.2.1 (.inl HX0.out))
      have c0 := HPr.out.2 0 _ rfl
      have c1 := HPr.out.2 1 _ rfl
      have c2 := HPr.out.2 2 _ rfl
      by_cases hlt : g < G
      · have hj1 : (g : Int) < (G : Int) := by omega
        obtain ⟨oa, oc9, hof⟩ := owns_form HG.out.2.2.2.1.own
        obtain ⟨ea, ec9, hef⟩ := owns_form HG.out.2.2.2.2.1.own
        subst hof hef
        have s0 := HG.out
        have d0 : wr.drew.cell? ⟨w.heap.size, 0, none⟩ = some (.slice pa np pc) := c0
        have k0 : wr.drew.cell? ⟨X, 4, none⟩ = some (.slice oa g oc9) := s0.cell4
        have k1 : ∀ o, (wr.alloc o).drew.cell? ⟨X, 4, none⟩ = some (.slice oa g oc9) := fun o => (s0.alloc o).cell4
        have k2 : ∀ o o2, ((wr.alloc o).alloc o2).drew.cell? ⟨X, 4, none⟩ = some (.slice oa g oc9) := fun o o2 => ((s0.alloc o).alloc o2).cell4
        have ow1 := Lib.hid (((s0.alloc (.cells (madeCells #[.bool false] np) 4)).alloc (.cells #[.slice (some ⟨wr.heap.size, 0, none⟩) np np] 130)).drew)
        have nw1 : Hid (∀ j u, [Value.slice (some ⟨wr.heap.size, 0, none⟩) np np][j]? = some u → (((wr.alloc (.cells (madeCells #[.bool false] np) 4)).alloc (.cells #[.slice (some ⟨wr.heap.size, 0, none⟩) np np] 130)).drew).cell? ((⟨wr.heap.size + 1, 0, none⟩ : Addr).add j) = some u) := by
          have h8 : (wr.alloc (.cells (madeCells #[.bool false] np) 4)).heap.size = wr.heap.size + 1 := by simp
          have h9 := heap_alloc_new (wr.alloc (.cells (madeCells #[.bool false] np) 4)) (.cells #[.slice (some ⟨wr.heap.size, 0, none⟩) np np] 130)
          rw [h8] at h9
          exact World.news_of_block (w := ((wr.alloc (.cells (madeCells #[.bool false] np) 4)).alloc (.cells #[.slice (some ⟨wr.heap.size, 0, none⟩) np np] 130)).drew) (cs := #[.slice (some ⟨wr.heap.size, 0, none⟩) np np]) (t := 130) (fr := (0, 0)) h9
        have sz1 : ((wr.alloc (.cells (madeCells #[.bool false] np) 4)).alloc (.cells #[.slice (some ⟨wr.heap.size, 0, none⟩) np np] 130)).drew.heap.size = wr.heap.size + 2 := by show ((wr.alloc _).alloc _).heap.size = _; simp
        have SZ1 := Lib.hid sz1
        clear HG sz1
        go_wp2
        go_region_law
          (first
            | (refine step_append_lies _ (by rfl) (.tmp 50) (.tmp 55) 93 (by rfl) w3.heap.size 130 b0 (.slice none 0 0) 1 24 Try.underlying93 bi bz0 bz1 bz2 rfl (by decide) (.slice oa g oc9) g ((List.range g).map fun a => Value.slice (some ⟨r a, 0, none⟩) np np) (by rfl) ow1.out.2.2.2.1.own ⟨wr.heap.size + 1, 0, none⟩ 1 1 [.slice (some ⟨wr.heap.size, 0, none⟩) np np] (by rfl) (by rfl) nw1.out (by intro u hu; simp at hu; subst hu; rfl) (by omega) (by unfold maxLen; omega) (by omega) ow1.out.size (wr.heap.size + 2) SZ1.out ?_; intro gg c9 wc oc gc hat hlt9; have s9 := GrpI.pushP (wr := wr) (o := .cells #[.slice (some ⟨wr.heap.size, 0, none⟩) np np] 130) (gv := .slice oa g oc9) (r := r) (n := g) (np := np) ⟨gc.os, gc.tape, gc.output, gc.size, gc.block⟩ oc (fun b hb => by simp only [Value.ownBlock, Option.some.injEq] at hb; subst hb; rcases hat with h | h; exact .inl h; exact .inr (by omega)) s0; have f9 := s9.2.1; have e9 := s9.2.2)
            | fail)
        all_goals (
          obtain ⟨r', s5⟩ := s9.1
          clear s9 f9 e9 gc oc hat s0 d0 k0 k1 k2 ow1 nw1 SZ1 c0 c1 c2 HPr hlt9
          generalize wc.setCell ⟨X, 4, none⟩ (.slice (some ⟨gg, 0, none⟩) (g + 1) c9) = w5 at *
          generalize Value.slice (some ⟨gg, 0, none⟩) (g + 1) c9 = pv at *
          have k0 : w5.drew.cell? ⟨X, 5, none⟩ = some (.slice ea g ec9) := s5.cell5
          have k1 : ∀ o, (w5.alloc o).drew.cell? ⟨X, 5, none⟩ = some (.slice ea g ec9) := fun o => (s5.alloc o).cell5
          have k2 : ∀ o o2, ((w5.alloc o).alloc o2).drew.cell? ⟨X, 5, none⟩ = some (.slice ea g ec9) := fun o o2 => ((s5.alloc o).alloc o2).cell5
          have ow2 := Lib.hid (((s5.alloc (.cells (madeCells #[.int .i64 0] 6) 3)).alloc (.cells #[.slice (some ⟨w5.heap.size, 0, none⟩) 6 6] 31)).drew)
          have nw2 : Hid (∀ j u, [Value.slice (some ⟨w5.heap.size, 0, none⟩) 6 6][j]? = some u → (((w5.alloc (.cells (madeCells #[.int .i64 0] 6) 3)).alloc (.cells #[.slice (some ⟨w5.heap.size, 0, none⟩) 6 6] 31)).drew).cell? ((⟨w5.heap.size + 1, 0, none⟩ : Addr).add j) = some u) := by
            have h8 : (w5.alloc (.cells (madeCells #[.int .i64 0] 6) 3)).heap.size = w5.heap.size + 1 := by simp
            have h9 := heap_alloc_new (w5.alloc (.cells (madeCells #[.int .i64 0] 6) 3)) (.cells #[.slice (some ⟨w5.heap.size, 0, none⟩) 6 6] 31)
            rw [h8] at h9
            exact World.news_of_block (w := ((w5.alloc (.cells (madeCells #[.int .i64 0] 6) 3)).alloc (.cells #[.slice (some ⟨w5.heap.size, 0, none⟩) 6 6] 31)).drew) (cs := #[.slice (some ⟨w5.heap.size, 0, none⟩) 6 6]) (t := 31) (fr := (0, 0)) h9
          have sz2 : ((w5.alloc (.cells (madeCells #[.int .i64 0] 6) 3)).alloc (.cells #[.slice (some ⟨w5.heap.size, 0, none⟩) 6 6] 31)).drew.heap.size = w5.heap.size + 2 := by show ((w5.alloc _).alloc _).heap.size = _; simp
          have SZ2 := Lib.hid sz2
          clear sz2
          go_wp2
          go_region_law
          (first
            | (refine step_append_lies _ (by rfl) (.tmp 63) (.tmp 65) 24 (by rfl) w3.heap.size 31 s0i (.slice none 0 0) 1 24 Try.underlying24 si iz0 iz1 iz2 rfl (by decide) (.slice ea g ec9) g ((List.range g).map fun a => Value.slice (some ⟨q a, 0, none⟩) 6 6) (by rfl) ow2.out.2.2.2.2.1.own ⟨w5.heap.size + 1, 0, none⟩ 1 1 [.slice (some ⟨w5.heap.size, 0, none⟩) 6 6] (by rfl) (by rfl) nw2.out (by intro u hu; simp at hu; subst hu; rfl) (by omega) (by unfold maxLen; omega) (by omega) ow2.out.size (w5.heap.size + 2) SZ2.out ?_; intro gg c9 wd oc gc hat hlt9; have s9 := GrpI.pushC (wr := w5) (o := .cells #[.slice (some ⟨w5.heap.size, 0, none⟩) 6 6] 31) (cv := .slice ea g ec9) (q := q) (n' := g) (np := np) ⟨gc.os, gc.tape, gc.output, gc.size, gc.block⟩ oc (fun b hb => by simp only [Value.ownBlock, Option.some.injEq] at hb; subst hb; rcases hat with h | h; exact .inl h; exact .inr (by omega)) s5; have f9 := s9.2.1; have e9 := s9.2.2)
            | fail))
        all_goals (
          obtain ⟨q', s6⟩ := s9.1
          clear s9 f9 e9 gc oc hat s5 k0 k1 k2 ow2 nw2 SZ2 hlt9
          go_wp2
          exact ⟨⟨g + 1, _, _, r', q', by omega, by go_num, s6⟩, by simp [RowKit.intOf]; omega⟩)
      obtain rfl : g = G := by omega
      go_wp2
      go_ret
      exact NewM.of HB1.out HX.out HF1.out HTR.out HPN.out HG.out HP.out HFL.out HNN.out HNP.out
end Go.Proofs.Ytmhkkdnopcdibaa
set_option linter.unusedVariables false
namespace Go.Proofs.Ytmhkkdnopcdibaa
open Go.RowKit

def idxF (d : DrwD) : List Int → Nat → (Nat → Nat → Bool) → (Nat → Nat → Int) → Nat
  | [], _, _, _ => 0
  | x :: L, i, P, C => sumNN (fun g => if fitB d P C i g = true then cntF d (d.N - (i + 1)) (putP d P i g true) (putC d C i g true) (i + 1) else 0) x.toNat + idxF d L (i + 1) (putP d P i x.toNat true) (putC d C i x.toNat true)
theorem idxF_cons (d : DrwD) (x : Int) (L : List Int) (i : Nat) (P : Nat → Nat → Bool) (C : Nat → Nat → Int) : idxF d (x :: L) i P C = sumNN (fun g => if fitB d P C i g = true then cntF d (d.N - (i + 1)) (putP d P i g true) (putC d C i g true) (i + 1) else 0) x.toNat + idxF d L (i + 1) (putP d P i x.toNat true) (putC d C i x.toNat true) := rfl
theorem DrwEq.idx {d d' : DrwD} (h : DrwEq d d') : ∀ (L : List Int) (i : Nat) (P : Nat → Nat → Bool) (C : Nat → Nat → Int), idxF d L i P C = idxF d' L i P C
  | [], _, _, _ => rfl
  | x :: L, i, P, C => by
    rw [idxF_cons, idxF_cons, h.N, h.fit, h.cnt, h.putP, h.putC, DrwEq.idx h L]
def befS (d : DrwD) (i : Nat) (P : Nat → Nat → Bool) (C : Nat → Nat → Int) : Nat → Nat := sumNN (fun g => if fitB d P C i g = true then cntF d (d.N - (i + 1)) (putP d P i g true) (putC d C i g true) (i + 1) else 0)
theorem befS_succ (d : DrwD) (i : Nat) (P : Nat → Nat → Bool) (C : Nat → Nat → Int) (g : Nat) : befS d i P C (g + 1) = befS d i P C g + (if fitB d P C i g = true then cntF d (d.N - (i + 1)) (putP d P i g true) (putC d C i g true) (i + 1) else 0) := rfl
theorem befS_le (d : DrwD) (h4 : d.G ≤ 4) (h12 : d.N ≤ 12) (i : Nat) (P : Nat → Nat → Bool) (C : Nat → Nat → Int) (k : Nat) (hk : k ≤ 4) : befS d i P C k ≤ 67108864 := by
  refine Nat.le_trans (sumNN_le (B := 4 ^ (d.N - (i + 1))) k fun g hg => ?_) ?_
  · show (if _ then _ else _) ≤ _
    split
    · exact cntF_le d h4 _ _ _ _
    · exact Nat.zero_le _
  · have h9 : 4 ^ (d.N - (i + 1)) ≤ 4 ^ 12 := Nat.pow_le_pow_right (by decide) (by omega)
    have h8 : k * 4 ^ (d.N - (i + 1)) ≤ 4 * 4 ^ 12 := Nat.mul_le_mul hk h9
    exact Nat.le_trans h8 (by decide)
set_option maxRecDepth 100000 in
set_option maxHeartbeats 8000000 in
theorem indexOfDraw_spec (vf : Value) (nf : Nat) (F : Nat → TeamD) (vp : Value) (gr most : Int) (T : List (List Int)) (vd : Value) (L : List Int) (R : Int) (w : World) (hR : potsP nf F T gr most ∧ isB F T gr most L = true → R = (idxF (drwD F T gr most) L 0 noP noC : Nat)) (hR0 : ¬ (potsP nf F T gr most ∧ isB F T gr most L = true) → R = -1) (hf : TeamRow w vf nf F) (hs : ∀ i, (F i).nm.size ≤ maxLen) (h : RdA tIntSS w [vp] T) (hw : tIntSS.wt T ≤ 1048576) (hd : IntRow w vd L.length (getI L)) :
    Calls Try.prog 38 #[vf, .agg #[vp, .int .i64 gr, .int .i64 most], vd] w fun e w' => e = .returned (.int .i64 R) ∧ Below w.heap.size w w' := by
  obtain ⟨pa, pc, rfl, hpn⟩ := pots_form h
  obtain ⟨da, dc, rfl, hdn, _⟩ := hd.form
  obtain ⟨r1, hr1⟩ := boolEx (potsP nf F T gr most ∧ isB F T gr most L = true)
  obtain ⟨U, hU⟩ : ∃ U, w.alloc (.cells #[.slice pa (List.length (α := List Int) T) pc, .int .i64 gr, .int .i64 most] 26) = U := ⟨_, rfl⟩
  have bU : Below w.heap.size w U := by rw [← hU]; exact (Below.refl _ _).alloc (Nat.le_refl _) _
  have HS : Hid (PotsAt U w.heap.size pa (List.length (α := List Int) T) pc gr most T) := by rw [← hU]; exact PotsAt.made h
  have HB := Lib.hid bU
  have HD : Hid (IntRow U (.slice da L.length dc) L.length (getI L)) := hd.below bU (Nat.le_refl _)
  have HF : Hid (TeamRow U vf nf F) := hf.below bU (Nat.le_refl _)
  have CF := Lib.hid (isDraw_spec l12New_spec vf nf F (.slice pa (List.length (α := List Int) T) pc) gr most T (.slice da L.length dc) L r1 U hr1 HF.out hs HS.out.2 hw HD.out)
  have CN : Hid (∀ wa, TeamRow wa vf nf F → RdA tIntSS wa [.slice pa (List.length (α := List Int) T) pc] T → potsP nf F T gr most → Calls Try.prog 65 #[vf, .agg #[.slice pa (List.length (α := List Int) T) pc, .int .i64 gr, .int .i64 most]] wa (NewM wa (drwD F T gr most))) := fun wa h1 h2 h3 => l12New_spec _ _ _ _ _ _ _ wa h1 h2 hw h3
  have HR1 := Lib.hid hr1
  have HRR := Lib.hid hR
  have HR0 := Lib.hid hR0
  obtain ⟨m, hm⟩ : ∃ m, L.length = m := ⟨_, rfl⟩
  have HM := Lib.hid hm
  obtain ⟨np, hnp⟩ : ∃ np, List.length (α := List Int) T = np := ⟨_, rfl⟩
  rw [hm] at hdn HD CF ⊢
  rw [hnp] at hU HS CF CN ⊢
  have c0 := HS.out.1.2 0 _ rfl
  have c1 := HS.out.1.2 1 _ rfl
  have c2 := HS.out.1.2 2 _ rfl
  clear h hf hR hR0 hr1 hd bU hw hs hm hnp hpn
  go_enter Try.func38, Try.ntmps38
  go_wp2_with fail
  clear hU c0 c1 c2
  refine CF.out.mono ?_
  rintro e w1 ⟨rfl, b⟩
  have HS1 := Lib.hid (HS.out.below b)
  have HF1 := Lib.hid (HF.out.below b (Nat.le_refl _))
  have HD1 := Lib.hid (HD.out.below b (Nat.le_refl _))
  have HB1 := Lib.hid (HB.out.trans (b.mono HB.out.size))
  clear b HS HB CF HF HD
  have c0 := HS1.out.1.2 0 _ rfl
  have c1 := HS1.out.1.2 1 _ rfl
  have c2 := HS1.out.1.2 2 _ rfl
  cases r1 with
  | false =>
    obtain rfl : R = -1 := HR0.out fun h => by have := HR1.out.2 h; cases this
    go_wp2
    go_ret
    exact ⟨rfl, HB1.out⟩
  | true =>
  have HP := Lib.hid (HR1.out.1 rfl)
  have HRE := Lib.hid (HRR.out HP.out)
  have CN1 := Lib.hid (CN.out w1 HF1.out HS1.out.2 HP.out.1)
  clear HR1 HRR HR0 CN
  go_wp2_with fail
  clear c0 c1 c2
  refine CN1.out.mono ?_
  rintro e w2 ⟨lo, hi, X, d, rfl, hq, hdr, b, hlo⟩
  have HB2 := Lib.hid (HB1.out.trans (b.mono HB1.out.size))
  have HDr := Lib.hid hdr
  have HD2 : Hid (IntRow w2 (.slice da m dc) m (getI L)) := HD1.out.below b (Nat.le_refl _)
  have HIN : Hid (0 < m → InW 0 lo (.slice da m dc)) := fun h0 => InW.nat HD1.out h0 hlo
  have HLO : Hid (w.heap.size ≤ lo) := Nat.le_trans HB1.out.size hlo
  have HSZ : Hid (w.heap.size ≤ w2.heap.size) := HB2.out.size
  have h4 : d.G ≤ 4 := hdr.caps.2.2.2.2.1
  have h12 : d.N ≤ 12 := hdr.caps.2.2.2.1
  have hBE : (begB (drwD F T gr most) L noP noC).isSome = true ∧ L.length = d.N := by
    have h9 := HP.out.2
    unfold isB at h9
    rw [Bool.and_eq_true, decide_eq_true_eq] at h9
    exact ⟨h9.2, h9.1.trans hq.N.symm⟩
  rw [← hq.beg] at hBE
  have hmN : m = d.N := by rw [← HM.out]; exact hBE.2
  have HB0 : Hid ((begF d (L.drop 0) 0 noP noC).isSome = true) := by
    have h9 := hBE.1
    unfold begB at h9
    rw [if_pos (by omega)] at h9
    exact h9
  have HRd : Hid ((0 : Nat) + idxF d (L.drop 0) 0 noP noC = idxF (drwD F T gr most) L 0 noP noC) := by show _ = _; rw [Nat.zero_add, hq.idx]; rfl
  clear hdr hq b hlo CN1 hBE
  obtain ⟨RR, hRR⟩ : ∃ RR, idxF (drwD F T gr most) L 0 noP noC = RR := ⟨_, rfl⟩
  rw [hRR] at HRd HRE
  clear hRR
  have HMN := Lib.hid hmN
  have hm12 : m ≤ 12 := by omega
  clear hmN
  go_wp2
  go_loopw [8, 22] (fun nv iv wr => ∃ (i n : Nat) (P : Nat → Nat → Bool) (C : Nat → Nat → Int), i ≤ m ∧ iv = .int .i64 i ∧ nv = .int .i64 n ∧ Hid (n + idxF d (L.drop i) i P C = RR) ∧ n ≤ i * 67108864 ∧ Hid ((begF d (L.drop i) i P C).isSome = true) ∧ Hid (DrwAt wr lo hi X d P C) ∧ Hid (clubB d C i) ∧ Hid (Touch lo hi w2 wr)) (fun _ iv _ => m - (RowKit.intOf iv).toNat)
  case atStart => exact ⟨0, 0, noP, noC, Nat.zero_le _, rfl, rfl, HRd, by omega, HB0, HDr, clubB.none d, Touch.refl _ _ _⟩
  case round =>
    clear HRd HB0 HDr
    obtain ⟨i, n, P, C, hi9, rfl, rfl, HV, hn9, HBG, HD, HC, HT⟩ := hrel
    by_cases hlt : i < m
    · have HLr := Lib.hid (HD2.out.touch HT.out (fun h0 => HIN.out h0) (.inl (Nat.le_refl _)))
      obtain ⟨b, off, rfl, hcap, q0⟩ := int_at HLr.out hlt
      have hj1 : (i : Int) < (m : Int) := by omega
      have hLi : L[i]? = some (getI L i) := by rw [List.getElem?_eq_getElem (by rw [HM.out]; exact hlt)]; simp [getI, show i < L.length by rw [HM.out]; exact hlt]
      have hdrp : L.drop i = getI L i :: L.drop (i + 1) := by
        obtain ⟨hl, he⟩ := List.getElem?_eq_some_iff.1 hLi
        rw [← he]
        exact List.drop_eq_getElem_cons hl
      have HV2 := HV.out
      have HG2 := HBG.out
      rw [hdrp, idxF_cons] at HV2
      rw [hdrp, begF_cons] at HG2
      have hiN : i < d.N := by rw [← HMN.out]; exact hlt
      obtain ⟨x, hx⟩ : ∃ x, getI L i = x := ⟨_, rfl⟩
      rw [hx] at q0 HV2 HG2
      clear hx hLi hdrp HV HBG
      have hxr : (0 ≤ x ∧ x ≤ (d.G : Int) - 1) ∧ fitB d P C i x.toNat = true := by
        split at HG2
        · next h => exact h
        · cases HG2
      rw [if_pos hxr] at HG2
      obtain ⟨g, rfl⟩ : ∃ g : Nat, x = g := ⟨x.toNat, by omega⟩
      rw [Int.toNat_natCast] at HV2 HG2
      have hgG : g < d.G := by omega
      have hg4 : g ≤ 4 := by omega
      have HVN : Hid ((n + befS d i P C g) + idxF d (L.drop (i + 1)) (i + 1) (putP d P i g true) (putC d C i g true) = RR) := by
        show _ = _
        rw [Nat.add_assoc]
        exact HV2
      have HGN := Lib.hid HG2
      have HLE : Hid (∀ k, k ≤ 4 → befS d i P C k ≤ 67108864) := befS_le d h4 h12 i P C
      have HST := Lib.hid (befS_succ d i P C)
      have HS0 : Hid (befS d i P C 0 = 0) := rfl
      have hcl6 := (HD.out.club i hiN).2
      have hnb : n ≤ 805306368 := by have : i * 67108864 ≤ 12 * 67108864 := Nat.mul_le_mul_right _ (by omega); omega
      clear HV2 HG2 hxr
      obtain ⟨SS, hSS⟩ : ∃ SS, befS d i P C = SS := ⟨_, rfl⟩
      rw [hSS] at HVN HLE HST HS0
      clear hSS
      go_wp2
      clear q0
      generalize wr = w3 at *
      go_loopw [8, 11] (fun nv kv wr => ∃ (k n2 : Nat), k ≤ g ∧ kv = .int .i64 k ∧ nv = .int .i64 n2 ∧ Hid (n2 = n + SS k) ∧ Hid (DrwAt wr lo hi X d P C) ∧ Hid (Touch lo hi w2 wr)) (fun _ kv _ => g - (RowKit.intOf kv).toNat)
      case atStart => exact ⟨0, n, Nat.zero_le _, rfl, rfl, by show _ = _; rw [HS0.out]; rfl, HD, HT⟩
      case round =>
        clear HD HT HLr
        obtain ⟨k, n2, hk9, rfl, rfl, HW, HD, HT⟩ := hrel
        by_cases hlt2 : k < g
        · have hj2 : (k : Int) < (g : Int) := by omega
          have hkG : k < d.G := by omega
          have hb1 := HLE.out k (by omega)
          have hb2 := HLE.out (k + 1) (by omega)
          rw [HST.out] at hb2
          have hn2 : n2 ≤ 872415232 := by have := HW.out; omega
          have HWN := Lib.hid (HST.out k)
          have CF := Lib.hid (l12Fits_spec wr lo hi X d P C i k HD.out hiN hkG)
          have HFF : Hid (fitB d P C i k = true → P k (d.pot i) = false) := fun h => (fit_free h).1
          obtain ⟨ft, hft⟩ : ∃ b, fitB d P C i k = b := ⟨_, rfl⟩
          rw [hft] at CF HWN HFF hb2
          clear hft
          go_wp2_with fail
          refine CF.out.mono ?_
          rintro e w4 ⟨rfl, b4⟩
          have HD1 := Lib.hid (HD.out.below b4)
          have HT1 := Lib.hid (HT.out.trans (Touch.of_below b4))
          clear b4 CF
          cases ft with
          | false =>
            have HWx : Hid (n2 = n + SS (k + 1)) := by show _ = _; rw [HWN.out, if_neg (by simp), HW.out]; rfl
            clear HWN HFF hb2
            go_wp2
            go_roundw
            case rel => exact ⟨k + 1, n2, by omega, by go_num, rfl, HWx, HD1, HT1⟩
            case measure => simp [RowKit.intOf]; omega
          | true =>
            rw [if_pos rfl] at hb2
            have HWx : Hid (n2 + cntF d (d.N - (i + 1)) (putP d P i k true) (putC d C i k true) (i + 1) = n + SS (k + 1)) := by show _ = _; rw [HWN.out, if_pos rfl, HW.out, Nat.add_assoc]
            have hcb := HC.out k _ hkG hcl6
            have CP := Lib.hid (l12Put_spec w4 lo hi X d P C i k true HD1.out hiN hkG (by omega))
            have HPB : Hid (putP d (putP d P i k true) i k false = P) := putP_back (HFF.out rfl)
            have HCB : Hid (putC d (putC d C i k true) i k false = C) := putC_back
            have HCN := Lib.hid (HC.out.put hkG hcl6)
            clear HWN HFF
            go_wp2_with fail
            refine CP.out.mono ?_
            rintro e w5 ⟨rfl, hd2, ht2⟩
            have HD5 := Lib.hid hd2
            have HT5 := Lib.hid (HT1.out.trans ht2)
            clear hd2 ht2 CP HD1 HT1
            have CC := Lib.hid (l12Count_spec lo hi X d (d.N - (i + 1)) (i + 1) _ _ w5 (by omega) HD5.out HCN.out)
            have hcn := HCN.out k _ hkG hcl6
            have CP2 := Lib.hid (fun wa ha => l12Put_spec wa lo hi X d (putP d P i k true) (putC d C i k true) i k false ha hiN hkG (by omega))
            rw [HPB.out, HCB.out] at CP2
            clear HPB HCB hcn
            generalize cntF d (d.N - (i + 1)) (putP d P i k true) (putC d C i k true) (i + 1) = kk at *
            go_wp2_with fail
            refine CC.out.mono ?_
            rintro e w6 ⟨rfl, hd3, ht3⟩
            have HD6 := Lib.hid hd3
            have HT6 := Lib.hid (HT5.out.trans ht3)
            clear hd3 ht3 CC HD5 HT5
            go_wp2_with fail
            refine (CP2.out _ HD6.out).mono ?_
            rintro e w7 ⟨rfl, hd4, ht4⟩
            have HD7 := Lib.hid hd4
            have HT7 := Lib.hid (HT6.out.trans ht4)
            clear hd4 ht4 CP2 HD6 HT6
            go_wp2
            go_roundw
            case rel => exact ⟨k + 1, n2 + kk, by omega, by go_num, by go_num, HWx, HD7, HT7⟩
            case measure => simp [RowKit.intOf]; omega
        obtain rfl : g = k := by omega
        have hb1 := HLE.out g hg4
        have hcb := HC.out g _ hgG hcl6
        have CP := Lib.hid (l12Put_spec wr lo hi X d P C i g true HD.out hiN hgG (by omega))
        have HCN := Lib.hid (HC.out.put hgG hcl6)
        have hn2 : n2 ≤ (i + 1) * 67108864 := by have := HW.out; rw [Nat.succ_mul]; omega
        have HVx : Hid (n2 + idxF d (L.drop (i + 1)) (i + 1) (putP d P i g true) (putC d C i g true) = RR) := by show _ = _; rw [HW.out]; exact HVN.out
        clear HVN HLE HST HS0
        go_wp2_with fail
        refine CP.out.mono ?_
        rintro e w8 ⟨rfl, hd5, ht5⟩
        have HD8 := Lib.hid hd5
        have HT8 := Lib.hid (HT.out.trans ht5)
        clear hd5 ht5 CP HD HT
        go_wp2
        go_roundw
        case rel => exact ⟨i + 1, n2, _, _, by omega, by go_num, rfl, HVx, hn2, HGN, HD8, HCN, HT8⟩
        case measure => simp [RowKit.intOf]; omega
    obtain rfl : m = i := by omega
    have HRy : Hid (R = (n : Int)) := by
      have h9 := HV.out
      rw [List.drop_of_length_le (by have := HM.out; omega)] at h9
      show _ = _
      rw [HRE.out, ← h9]
      rfl
    go_wp2
    go_ret
    exact ⟨by rw [HRy.out]; rfl, HB2.out.trans (HT.out.below HLO.out HSZ.out)⟩
end Go.Proofs.Ytmhkkdnopcdibaa
set_option linter.unusedVariables false
namespace Go.Proofs.Ytmhkkdnopcdibaa
open Go.RowKit

theorem DrwAt.belowHi {w w' : World} {lo hi X : Nat} {d : DrwD} {P : Nat → Nat → Bool} {C : Nat → Nat → Int} (h : DrwAt w lo hi X d P C) (hG : 0 < d.G) (b : Below hi w w') : DrwAt w' lo hi X d P C := by
  have hl : lo < hi := Nat.lt_of_le_of_lt h.mp.low.1 h.mp.low.2
  have key : ∀ (k o : Nat) (u : Value), k < hi → w.cell? ⟨k, o, none⟩ = some u → w'.cell? ⟨k, o, none⟩ = some u := fun k o u hk hc => (b.cell (p := ⟨k, o, none⟩) hk).trans hc
  have keyf : ∀ (k o : Nat), k < hi → w'.frozen? ⟨k, o, none⟩ = w.frozen? ⟨k, o, none⟩ := fun k o hk => b.frozen (p := ⟨k, o, none⟩) hk
  obtain ⟨l1, l2, l3, l4⟩ := h.low
  have mat : ∀ {gb cap : Nat} {r rc : Nat → Nat} {n m : Nat} {f : Nat → Nat → Value}, Mat w lo hi gb cap r rc n m f → Mat w' lo hi gb cap r rc n m f := fun hm =>
    ⟨hm.cap, hm.low, Nat.le_trans hm.high b.size, fun g hg => key _ _ _ hm.low.2 (hm.cell g hg), hm.rcap, hm.row, hm.diff, fun g j hg hj => ⟨key _ _ _ (hm.row g hg).2.1 (hm.val g j hg hj).1, (keyf _ _ (hm.row g hg).2.1).trans (hm.val g j hg hj).2⟩⟩
  exact ⟨⟨Nat.lt_of_lt_of_le h.box.1 b.size, fun j v hv => key _ _ _ (Nat.lt_trans l1 hl) (h.box.2 j v hv)⟩, h.low, h.caps, fun i hi => ⟨key _ _ _ (Nat.lt_trans l3 hl) (h.team i hi).1, (h.team i hi).2⟩, fun i hi => ⟨key _ _ _ (Nat.lt_trans l4 hl) (h.pot i hi).1, (h.pot i hi).2⟩, fun i hi => ⟨key _ _ _ (Nat.lt_trans l2 hl) (h.club i hi).1, (h.club i hi).2⟩, mat h.mp, mat h.mc, h.apart⟩
def pickG (S : Nat → Nat) (x G : Nat) : Nat := ((List.range G).find? fun g => decide (x < S (g + 1))).getD 0
theorem pickG_is {S : Nat → Nat} {x G g : Nat} (hg : g < G) (hx : x < S (g + 1)) (hb : ∀ k, k < g → ¬ x < S (k + 1)) : pickG S x G = g := by
  unfold pickG
  have h : (List.range G).find? (fun g => decide (x < S (g + 1))) = some g := by
    rw [List.find?_eq_some_iff_getElem]
    refine ⟨by simpa using hx, g, by simpa using hg, by simp, fun j hj => ?_⟩
    have := hb j hj
    simpa using this
  rw [h]
  rfl
def atF (d : DrwD) : Nat → (Nat → Nat → Bool) → (Nat → Nat → Int) → Nat → Nat → List Int
  | 0, _, _, _, _ => []
  | f + 1, P, C, i, x => ((pickG (befS d i P C) x d.G : Nat) : Int) :: atF d f (putP d P i (pickG (befS d i P C) x d.G) true) (putC d C i (pickG (befS d i P C) x d.G) true) (i + 1) (x - befS d i P C (pickG (befS d i P C) x d.G))
theorem DrwEq.bef {d d' : DrwD} (h : DrwEq d d') : befS d = befS d' := by
  funext i P C
  unfold befS
  rw [h.N, h.fit, h.cnt, h.putP, h.putC]
theorem DrwEq.at' {d d' : DrwD} (h : DrwEq d d') : atF d = atF d' := by
  funext f
  induction f with
  | zero => rfl
  | succ f IH =>
    funext P C i x
    unfold atF
    rw [h.G, h.bef, h.putP, h.putC, IH]
theorem cnt_bef {d : DrwD} {P : Nat → Nat → Bool} {C : Nat → Nat → Int} {i : Nat} (hi : i < d.N) : cntF d (d.N - i) P C i = befS d i P C d.G := by
  obtain ⟨f, hf⟩ : ∃ f, d.N - i = f + 1 := ⟨d.N - (i + 1), by omega⟩
  have e : d.N - (i + 1) = f := by omega
  rw [hf]
  show (if i = d.N then _ else _) = _
  rw [if_neg (by omega)]
  unfold befS
  rw [e]
theorem atF_step {d : DrwD} {P : Nat → Nat → Bool} {C : Nat → Nat → Int} {i x g : Nat} (hi : i < d.N) (hp : pickG (befS d i P C) x d.G = g) :
    atF d (d.N - i) P C i x = ((g : Nat) : Int) :: atF d (d.N - (i + 1)) (putP d P i g true) (putC d C i g true) (i + 1) (x - befS d i P C g) := by
  obtain ⟨f, hf⟩ : ∃ f, d.N - i = f + 1 := ⟨d.N - (i + 1), by omega⟩
  have e : d.N - (i + 1) = f := by omega
  rw [hf, e, ← hp]
  rfl
theorem atF_len (d : DrwD) : ∀ (f : Nat) (P : Nat → Nat → Bool) (C : Nat → Nat → Int) (i x : Nat), (atF d f P C i x).length = f
  | 0, _, _, _, _ => rfl
  | f + 1, P, C, i, x => by
    show (atF d f _ _ _ _).length + 1 = _
    rw [atF_len d f]
set_option maxRecDepth 100000 in
set_option maxHeartbeats 8000000 in
theorem l12At_spec (vf : Value) (nf : Nat) (F : Nat → TeamD) (vp : Value) (gr most : Int) (T : List (List Int)) (x : Nat) (w : World) (hp : potsP nf F T gr most) (hx : x < cntF (drwD F T gr most) T.flatten.length noP noC 0) (hf : TeamRow w vf nf F) (h : RdA tIntSS w [vp] T) (hw : tIntSS.wt T ≤ 1048576) :
    Calls Try.prog 68 #[vf, .agg #[vp, .int .i64 gr, .int .i64 most], .int .i64 x] w (IntsL w (atF (drwD F T gr most) T.flatten.length noP noC 0 x)) := by
  obtain ⟨i0, hi, hz0, hz1, hz2⟩ := info_parts Try.infoI
  obtain ⟨pa, pc, rfl, hpn⟩ := pots_form h
  obtain ⟨U, hU⟩ : ∃ U, w.alloc (.cells #[.slice pa (List.length (α := List Int) T) pc, .int .i64 gr, .int .i64 most] 26) = U := ⟨_, rfl⟩
  have bU : Below w.heap.size w U := by rw [← hU]; exact (Below.refl _ _).alloc (Nat.le_refl _) _
  have HS : Hid (PotsAt U w.heap.size pa (List.length (α := List Int) T) pc gr most T) := by rw [← hU]; exact PotsAt.made h
  have HB := Lib.hid bU
  have CN := Lib.hid (l12New_spec vf nf F (.slice pa (List.length (α := List Int) T) pc) gr most T U (hf.below bU (Nat.le_refl _)) HS.out.2 hw hp)
  obtain ⟨np, hnp⟩ : ∃ np, List.length (α := List Int) T = np := ⟨_, rfl⟩
  rw [hnp] at hpn hU HS CN ⊢
  have c0 := HS.out.1.2 0 _ rfl
  have c1 := HS.out.1.2 1 _ rfl
  have c2 := HS.out.1.2 2 _ rfl
  have HX := Lib.hid hx
  obtain ⟨RR, hRR⟩ : ∃ RR, atF (drwD F T gr most) T.flatten.length noP noC 0 x = RR := ⟨_, rfl⟩
  have HRR := Lib.hid hRR
  rw [hRR]
  have HG0 : Hid (1 ≤ gr ∧ gr ≤ 4) := hp.2.1
  clear h hf bU hw hp hx hnp hpn hRR
  go_enter Try.func68, Try.ntmps68
  go_wp2_with fail
  clear hU c0 c1 c2
  refine CN.out.mono ?_
  rintro e w2 ⟨lo, hi2, X, d, rfl, hq, hdr, b, hlo⟩
  have HB2 := Lib.hid (HB.out.trans (b.mono HB.out.size))
  have HLO : Hid (w.heap.size ≤ lo) := Nat.le_trans HB.out.size hlo
  have h4 : d.G ≤ 4 := hdr.caps.2.2.2.2.1
  have h12 : d.N ≤ 12 := hdr.caps.2.2.2.1
  have hG1 : 0 < d.G := by have h9 := hq.G; have h8 : (drwD F T gr most).G = gr.toNat := rfl; have := HG0.out; omega
  have hhi : hi2 ≤ w2.heap.size := hdr.mp.high
  have hlh : lo < hi2 := Nat.lt_of_le_of_lt hdr.mp.low.1 hdr.mp.low.2
  have HN : Hid (T.flatten.length = d.N) := hq.N.symm
  have HX0 : Hid (x < cntF d (d.N - 0) noP noC 0) := by have h9 := HX.out; rw [HN.out, ← hq.cnt] at h9; exact h9
  have HR0 : Hid (([] : List Int) ++ atF d (d.N - 0) noP noC 0 x = RR) := by have h9 := HRR.out; rw [HN.out, ← hq.at'] at h9; exact h9
  obtain ⟨W, hW⟩ : ∃ W, w2.alloc (.cells #[] 3) = W := ⟨_, rfl⟩
  have bW : Below w2.heap.size w2 W := by rw [← hW]; exact (Below.refl _ _).alloc (Nat.le_refl _) _
  have ON : Hid (W.ownsRow w2.heap.size 3 1 (.slice (some ⟨w2.heap.size, 0, none⟩) 0 0) 0 []) := by rw [← hW]; exact World.ownsRow_lit (e := 3) (size := 1) w2 #[] 0 (Nat.le_refl _) (by decide) rfl
  have HDW := Lib.hid (hdr.below bW)
  have HBW : Hid (Below lo w2 W) := bW.mono (by omega)
  have q2 := HDW.out.box.2 2 _ rfl
  have hsl : lo ≤ w2.heap.size := by omega
  clear hdr hq b hlo CN HX HRR bW
  obtain ⟨N, hNd⟩ : ∃ N, d.N = N := ⟨_, rfl⟩
  have HND := Lib.hid hNd
  rw [hNd] at h12 q2 HX0 HR0
  clear hNd
  go_wp2
  clear hW q2
  go_loopw [2, 8, 21] (fun xv ov iv wr => ∃ (i x : Nat) (out : List Int) (P : Nat → Nat → Bool) (C : Nat → Nat → Int), i ≤ N ∧ iv = .int .i64 i ∧ xv = .int .i64 x ∧ out.length = i ∧ Hid (out ++ atF d (N - i) P C i x = RR) ∧ Hid (x < cntF d (N - i) P C i) ∧ Hid (wr.ownsRow w2.heap.size 3 1 ov i (out.map (Value.int .i64))) ∧ Hid (DrwAt wr lo hi2 X d P C) ∧ Hid (clubB d C i) ∧ Hid (Below lo w2 wr)) (fun _ _ iv _ => N - (RowKit.intOf iv).toNat)
  case atStart => exact ⟨0, x, [], noP, noC, Nat.zero_le _, rfl, rfl, rfl, HR0, HX0, ON, HDW, clubB.none d, HBW⟩
  case round =>
    clear HR0 HX0 ON HDW HBW
    obtain ⟨i, x, out, P, C, hi9, rfl, rfl, hol, HV, HXC, HO, HD, HC, HBr⟩ := hrel
    by_cases hlt : i < N
    · have hj1 : (i : Int) < (N : Int) := by omega
      have hiN : i < d.N := by rw [HND.out]; exact hlt
      have hcl6 := (HD.out.club i hiN).2
      have HXB : Hid (x < befS d i P C d.G) := by have h9 := HXC.out; rw [← HND.out, cnt_bef hiN] at h9; exact h9
      have HLE : Hid (∀ k, k ≤ 4 → befS d i P C k ≤ 67108864) := befS_le d h4 (by rw [HND.out]; exact h12) i P C
      have HST := Lib.hid (befS_succ d i P C)
      have HAT : Hid (∀ g, pickG (befS d i P C) x d.G = g → out ++ ([((g : Nat) : Int)] ++ atF d (N - (i + 1)) (putP d P i g true) (putC d C i g true) (i + 1) (x - befS d i P C g)) = RR) := fun g hg => by
        have h9 := HV.out
        rw [← HND.out, atF_step hiN hg, HND.out] at h9
        exact h9
      have hx6 : x ≤ 67108864 := by have := HXB.out; have := HLE.out d.G h4; omega
      have HS0 : Hid (befS d i P C 0 = 0) := rfl
      have HPK : Hid (∀ g, g < d.G → x < befS d i P C (g + 1) → (∀ k, k < g → ¬ x < befS d i P C (k + 1)) → pickG (befS d i P C) x d.G = g) := fun g => pickG_is
      obtain ⟨SS, hSS⟩ : ∃ SS, befS d i P C = SS := ⟨_, rfl⟩
      rw [hSS] at HXB HLE HST HAT HS0 HPK
      clear hSS HV HXC
      have q4 := HD.out.box.2 4 _ rfl
      obtain ⟨G, hGd⟩ : ∃ G, d.G = G := ⟨_, rfl⟩
      have HGD := Lib.hid hGd
      rw [hGd] at q4 h4 hG1 HXB HPK
      clear hGd
      obtain ⟨oa, oc, hof⟩ := owns_form HO.out
      subst hof
      go_wp2
      clear q4
      generalize wr = w3 at *
      go_loopw [2, 8, 29] (fun xv ov gv wr => ∃ (g y : Nat), g ≤ G ∧ gv = .int .i64 g ∧ xv = .int .i64 y ∧ ov = .slice oa i oc ∧ Hid (y + SS g = x) ∧ Hid (∀ k, k < g → ¬ x < SS (k + 1)) ∧ Hid (wr.ownsRow w2.heap.size 3 1 (.slice oa i oc) i (out.map (Value.int .i64))) ∧ Hid (DrwAt wr lo hi2 X d P C) ∧ Hid (Below lo w2 wr)) (fun _ _ gv _ => G - (RowKit.intOf gv).toNat)
      case atStart => exact ⟨0, x, Nat.zero_le _, rfl, rfl, rfl, by show _ = _; rw [HS0.out]; rfl, fun k hk => absurd hk (Nat.not_lt_zero _), HO, HD, HBr⟩
      case round =>
        clear HO HD HBr
        obtain ⟨g, y, hg9, rfl, rfl, rfl, HY, HNB, HO, HD, HBr⟩ := hrel
        by_cases hlt2 : g < G
        · have hj2 : (g : Int) < (G : Int) := by omega
          have hgG : g < d.G := by rw [HGD.out]; exact hlt2
          have hb1 := HLE.out g (by omega)
          have hb2 := HLE.out (g + 1) (by omega)
          rw [HST.out] at hb2
          have hy6 : y ≤ 67108864 := by have := HY.out; omega
          have HSN := Lib.hid (HST.out g)
          have CF := Lib.hid (l12Fits_spec w3 lo hi2 X d P C i g)
          have CF2 := Lib.hid (l12Fits_spec wr lo hi2 X d P C i g HD.out hiN hgG)
          have HFF : Hid (fitB d P C i g = true → P g (d.pot i) = false) := fun h => (fit_free h).1
          obtain ⟨ft, hft⟩ : ∃ b, fitB d P C i g = b := ⟨_, rfl⟩
          rw [hft] at CF2 HSN HFF hb2
          clear hft CF
          go_wp2_with fail
          refine CF2.out.mono ?_
          rintro e w4 ⟨rfl, b4⟩
          have HD1 := Lib.hid (HD.out.below b4)
          have HB4 : Hid (Below lo w2 w4) := HBr.out.trans (b4.mono (Nat.le_trans hsl HBr.out.size))
          have HO1 := Lib.hid (owns_below HO.out b4 (Nat.le_refl _))
          clear b4 CF2 HD HBr HO
          cases ft with
          | false =>
            have HYx : Hid (y + SS (g + 1) = x) := by show _ = _; rw [HSN.out, if_neg (by simp), Nat.add_zero]; exact HY.out
            have HNx : Hid (∀ k, k < g + 1 → ¬ x < SS (k + 1)) := fun k hk => by
              by_cases e : k = g
              · rw [e]; have := HYx.out; omega
              · exact HNB.out k (by omega)
            clear HSN HFF hb2
            go_wp2
            go_roundw
            case rel => exact ⟨g + 1, y, by omega, by go_num, rfl, rfl, HYx, HNx, HO1, HD1, HB4⟩
            case measure => simp [RowKit.intOf]; omega
          | true =>
            rw [if_pos rfl] at hb2
            have HSx : Hid (SS (g + 1) = SS g + cntF d (d.N - (i + 1)) (putP d P i g true) (putC d C i g true) (i + 1)) := by show _ = _; rw [HSN.out, if_pos rfl]
            have hcb := HC.out g _ hgG hcl6
            have CP := Lib.hid (l12Put_spec w4 lo hi2 X d P C i g true HD1.out hiN hgG (by omega))
            have HPB : Hid (putP d (putP d P i g true) i g false = P) := putP_back (HFF.out rfl)
            have HCB : Hid (putC d (putC d C i g true) i g false = C) := putC_back
            have HCN := Lib.hid (HC.out.put hgG hcl6)
            have HI4 := Lib.hid (InW.of_owns HO1.out)
            clear HSN HFF
            go_wp2_with fail
            refine CP.out.mono ?_
            rintro e w5 ⟨rfl, hd2, ht2⟩
            have HD5 := Lib.hid hd2
            have HB5 : Hid (Below lo w2 w5) := HB4.out.trans (ht2.below (Nat.le_refl _) (Nat.le_trans hsl HB4.out.size))
            have HO5 := Lib.hid (owns_touch HO1.out ht2 HI4.out (.inr hhi))
            clear hd2 ht2 CP HD1 HB4 HO1 HI4
            have CC := Lib.hid (l12Count_spec lo hi2 X d (d.N - (i + 1)) (i + 1) _ _ w5 (by omega) HD5.out HCN.out)
            have hcn := HCN.out g _ hgG hcl6
            have CP2 := Lib.hid (fun wa ha => l12Put_spec wa lo hi2 X d (putP d P i g true) (putC d C i g true) i g false ha hiN hgG (by omega))
            rw [HPB.out, HCB.out] at CP2
            have HKK : Hid (cntF d (N - (i + 1)) (putP d P i g true) (putC d C i g true) (i + 1) = cntF d (d.N - (i + 1)) (putP d P i g true) (putC d C i g true) (i + 1)) := by show _ = _; rw [HND.out]
            have HI5 := Lib.hid (InW.of_owns HO5.out)
            clear HPB HCB hcn
            obtain ⟨kk, hkk⟩ : ∃ kk, cntF d (d.N - (i + 1)) (putP d P i g true) (putC d C i g true) (i + 1) = kk := ⟨_, rfl⟩
            rw [hkk] at CC HSx HKK hb2
            clear hkk
            go_wp2_with fail
            refine CC.out.mono ?_
            rintro e w6 ⟨rfl, hd3, ht3⟩
            have HD6 := Lib.hid hd3
            have HB6 : Hid (Below lo w2 w6) := HB5.out.trans (ht3.below (Nat.le_refl _) (Nat.le_trans hsl HB5.out.size))
            have HO6 := Lib.hid (owns_touch HO5.out ht3 HI5.out (.inr hhi))
            clear hd3 ht3 CC HD5 HB5 HO5 HI5
            by_cases hyk : y < kk
            · have g1 : decide ((y : Int) < (kk : Int)) = true := decide_eq_true (by omega)
              have g2 : decide (y < kk) = true := decide_eq_true hyk
              have HPg : Hid (out ++ ([((g : Nat) : Int)] ++ atF d (N - (i + 1)) (putP d P i g true) (putC d C i g true) (i + 1) (x - SS g)) = RR) := HAT.out g (by rw [HGD.out]; exact HPK.out g hlt2 (by have := HSx.out; have := HY.out; omega) HNB.out)
              have hxy : x - SS g = y := by have := HY.out; omega
              rw [hxy, ← List.append_assoc] at HPg
              have HXn : Hid (y < cntF d (N - (i + 1)) (putP d P i g true) (putC d C i g true) (i + 1)) := by show _ < _; rw [HKK.out]; exact hyk
              have hs6 : w2.heap.size ≤ w6.heap.size := HB6.out.size
              clear hxy
              go_wp2_with (at_builtin; refine wpList_pushL rfl (.tmp 48) (.tmp 50) 31 rfl w2.heap.size 3 Try.underlying31 hi hz0 hz1 hz2 rfl (by decide) [.int .i64 g] rfl (by intro u hu; simp at hu; subst hu; rfl) rfl (by show Value.slice (some ⟨_, 0, none⟩) 1 1 = _; simp) HO6.out (by unfold maxLen; omega) (by omega) hs6 ?_; intro gg9 cc9 w9 o9 g9 at9 lt9; have O9 := Lib.hid o9; have HB9 : Hid (Below w2.heap.size w6 w9) := Lib.hid ((Below.refl _ _).grown g9 hs6 (fun q hq => (HO6.out.lt q hq).1)); clear o9 g9 at9 lt9)
              have HD9 := Lib.hid (HD6.out.belowHi (by rw [HGD.out]; exact hG1) (HB9.out.mono hhi))
              have HBz : Hid (Below lo w2 w9) := HB6.out.trans (HB9.out.mono hsl)
              go_roundw
              case rel => exact ⟨i + 1, y, out ++ [(g : Int)], _, _, by omega, by go_num, rfl, by rw [List.length_append, List.length_singleton, hol], HPg, HXn, by rw [List.map_append]; exact O9, HD9, HCN, HBz⟩
              case measure => simp [RowKit.intOf]; omega
            · have g1 : decide ((y : Int) < (kk : Int)) = false := decide_eq_false (by omega)
              have g2 : decide (y < kk) = false := decide_eq_false hyk
              have HYx : Hid ((y - kk) + SS (g + 1) = x) := by show _ = _; have := HSx.out; have := HY.out; omega
              have HNx : Hid (∀ k, k < g + 1 → ¬ x < SS (k + 1)) := fun k hk => by
                by_cases e : k = g
                · rw [e]; have := HYx.out; omega
                · exact HNB.out k (by omega)
              have HI6 := Lib.hid (InW.of_owns HO6.out)
              have CPx := Lib.hid (CP2.out _ HD6.out)
              have hsub : (y : Int) - (kk : Int) = ((y - kk : Nat) : Int) := by omega
              clear CP2 HKK
              go_wp2_with fail
              refine CPx.out.mono ?_
              rintro e w7 ⟨rfl, hd4, ht4⟩
              have HD7 := Lib.hid hd4
              have HB7 : Hid (Below lo w2 w7) := HB6.out.trans (ht4.below (Nat.le_refl _) (Nat.le_trans hsl HB6.out.size))
              have HO7 := Lib.hid (owns_touch HO6.out ht4 HI6.out (.inr hhi))
              clear hd4 ht4 CPx
              go_wp2
              go_roundw
              case rel => exact ⟨g + 1, y - kk, by omega, by go_num, by first | rfl | exact congrArg (Value.int .i64) hsub, rfl, HYx, HNx, HO7, HD7, HB7⟩
              case measure => simp [RowKit.intOf]; omega
        exfalso
        obtain rfl : g = G := by omega
        have h9 := HXB.out
        have h8 := HY.out
        omega
    obtain rfl : N = i := by omega
    have HE : Hid (out = RR) := by
      have h9 := HV.out
      rw [Nat.sub_self] at h9
      show _ = _
      rw [← h9]
      exact (List.append_nil out).symm
    go_wp2
    go_ret
    rw [← HE.out]
    exact ⟨_, rfl, by rw [hol]; exact owns_mono HO.out HB2.out.size, HB2.out.trans (HBr.out.mono HLO.out)⟩
end Go.Proofs.Ytmhkkdnopcdibaa
