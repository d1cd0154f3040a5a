/-
  Packed: Draw5.
-/
import Derived.Deep.RegionHeld3
import Derived.Deep.RegionLaw
import Derived.Deep.AppendLies
import Derived.Test.YtmhkkdnopcdibaaQ7
import Derived.Test.YtmhkkdnopcdibaaQ17
set_option linter.unusedVariables false
namespace Go.Proofs.Ytmhkkdnopcdibaa
open Go.RowKit

theorem BoxF.grown {w w' : World} {B : Nat} {cs : List Value} {row : Option Nat} (h : BoxF w B cs) (hg : w.grownBy w' row) (hr : row ≠ some B) : BoxF w' B cs :=
  ⟨Nat.lt_of_lt_of_le h.1 hg.size, fun j v hv => ⟨(hg.cell_far ⟨B, j, none⟩ h.1 (fun e => hr e.symm)).trans (h.2 j v hv).1, (hg.frozen_far ⟨B, j, none⟩ h.1 (fun e => hr e.symm)).trans (h.2 j v hv).2⟩⟩
theorem below_setD {B : Nat} {a w : World} (h : Below B a w) (p : Addr) (u : Value) (hp : B ≤ p.block) : Below B a (w.setCell p u) :=
  ⟨h.os, h.tape, h.output, Nat.le_trans h.size (by simp [World.setCell]), fun k hk => (Below.heap_setCell _ _ _ _ (by omega)).trans (h.block k hk)⟩
theorem potAt_in : ∀ (T : List (List Int)) (i : Nat) (r : List Int), T[i]? = some r → ∀ j, j < r.length → potAt T (((T.take i).flatten).length + j) = i
  | [], i, r, h, _, _ => by cases h
  | s :: T, 0, r, h, j, hj => by
    have e : s = r := by simpa using h
    subst e
    show (if _ < _ then _ else _) = 0
    rw [if_pos (by simpa using hj)]
  | s :: T, i + 1, r, h, j, hj => by
    have h2 : T[i]? = some r := by simpa using h
    show (if _ < _ then _ else _) = i + 1
    have e : ((List.take (i + 1) (s :: T)).flatten).length = s.length + ((T.take i).flatten).length := by simp
    rw [e, if_neg (by omega)]
    rw [show s.length + ((T.take i).flatten).length + j - s.length = ((T.take i).flatten).length + j by omega, potAt_in T i r h2 j hj]
theorem potAt_lt : ∀ (T : List (List Int)) (i : Nat), i < T.flatten.length → potAt T i < T.length
  | [], i, h => by simp at h
  | s :: T, i, h => by
    show (if _ < _ then _ else _) < T.length + 1
    split
    · omega
    · next h1 =>
      have h2 : i < s.length + T.flatten.length := by simpa using h
      have := potAt_lt T (i - s.length) (by omega)
      omega
def PotI (w1 : World) (X : Nat) (vf : Value) (most : Int) (vt : Value) (T : List (List Int)) (c : Nat) (v : Value) (wr : World) : Prop :=
  BoxF wr X [vf, .int .i64 most, vt, v, .slice none 0 0, .slice none 0 0] ∧ wr.ownsRow (X + 1) 3 1 v c ((List.range c).map fun j => Value.int .i64 (potAt T j)) ∧ Below X w1 wr
section
variable {w1 : World} {X : Nat} {vf : Value} {most : Int} {vt : Value} {T : List (List Int)} {c : Nat} {v : Value} {wr : World}
theorem PotI.keep {w2 : World} (h : PotI w1 X vf most vt T c v wr) (b : Below wr.heap.size wr w2) : PotI w1 X vf most vt T c v w2 :=
  ⟨h.1.below b, owns_below h.2.1 b (Nat.le_refl _), h.2.2.trans (b.mono (Nat.le_of_lt h.1.1))⟩
theorem PotI.drew (h : PotI w1 X vf most vt T c v wr) : PotI w1 X vf most vt T c v wr.drew := h.keep (Below.refl _ _).drew
theorem PotI.alloc (o : Obj) (h : PotI w1 X vf most vt T c v wr) : PotI w1 X vf most vt T c v (wr.alloc o) := h.keep ((Below.refl _ _).alloc (Nat.le_refl _) _)
theorem PotI.cell (h : PotI w1 X vf most vt T c v wr) : wr.cell? ⟨X, 3, none⟩ = some v := (h.1.2 3 _ rfl).1
theorem PotI.size (h : PotI w1 X vf most vt T c v wr) : X + 1 ≤ wr.heap.size := h.1.1
theorem PotI.put {k : Nat} {v' : Value} {wc : World} (hk : k = potAt T c) (hg : wr.grownBy wc v.ownBlock) (ho : wc.ownsRow (X + 1) 3 1 v' (c + 1) ((List.range c).map (fun j => Value.int .i64 (potAt T j)) ++ [.int .i64 k])) (h : PotI w1 X vf most vt T c v wr) :
    PotI w1 X vf most vt T (c + 1) v' (wc.setCell ⟨X, 3, none⟩ v') ∧ wc.cell? ⟨X, 3, none⟩ = some v ∧ wc.frozen? ⟨X, 3, none⟩ = false := by
  have hB : BoxF wc X [vf, .int .i64 most, vt, v, .slice none 0 0, .slice none 0 0] := h.1.grown hg fun e => by have := (h.2.1.lt _ e).1; omega
  refine ⟨⟨hB.set 3 v' (by simp), ?_, ?_⟩, hB.2 3 _ rfl⟩
  · rw [List.range_succ, List.map_append, List.map_singleton, ← hk]
    exact owns_low ho 3 v' (by omega)
  · exact below_setD (h.2.2.grown hg (Nat.le_of_lt h.1.1) (fun q hq => by have := (h.2.1.lt _ hq).1; omega)) ⟨X, 3, none⟩ _ (Nat.le_refl _)
end
theorem Try.infoBoolS : (Try.prog.info? 130).map (fun i => (i.zero, i.size, i.bytes)) = some (some (.slice none 0 0), 1, 24) := by kernel_rfl
theorem Try.infoBool : (Try.prog.info? 4).map (fun i => (i.zero, i.size, i.bytes)) = some (some (.bool false), 1, 1) := by kernel_rfl
def GrpI (w3 : World) (X : Nat) (a c d : Value) (most : Int) (np n n' : Nat) (gv cv : Value) (r q : Nat → Nat) (wr : World) : Prop :=
  BoxF wr X [a, .int .i64 most, c, d, gv, cv] ∧ Touch X (X + 1) w3 wr ∧ X < w3.heap.size ∧ Fam wr w3.heap.size 130 gv n np 4 (.bool false) r ∧ Fam wr w3.heap.size 31 cv n' 6 3 (.int .i64 0) q ∧ ∀ b, famUses gv n r b → ¬ famUses cv n' q b
theorem touch_moreD {lo hi : Nat} {u w w' : World} {row : Option Nat} (h : Touch lo hi u w) (g : w.grownBy w' row) (hr : ∀ q, row = some q → u.heap.size ≤ q) : Touch lo hi u w' :=
  ⟨g.os.trans h.os, g.tape.trans h.tape, g.output.trans h.output, Nat.le_trans h.size g.size, fun k hk ho => (g.block k (Nat.lt_of_lt_of_le hk h.size) (fun e => by have := hr k e.symm; omega)).trans (h.block k hk ho)⟩
section
variable {w3 : World} {X : Nat} {a c d : Value} {most : Int} {np n n' : Nat} {gv cv : Value} {r q : Nat → Nat} {wr : World}
theorem GrpI.keep {w2 : World} (h : GrpI w3 X a c d most np n n' gv cv r q wr) (b : Below wr.heap.size wr w2) : GrpI w3 X a c d most np n n' gv cv r q w2 :=
  ⟨h.1.below b, h.2.1.trans (Touch.of_below b), h.2.2.1, h.2.2.2.1.below b, h.2.2.2.2.1.below b, h.2.2.2.2.2⟩
theorem GrpI.drew (h : GrpI w3 X a c d most np n n' gv cv r q wr) : GrpI w3 X a c d most np n n' gv cv r q wr.drew := h.keep (Below.refl _ _).drew
theorem GrpI.alloc (o : Obj) (h : GrpI w3 X a c d most np n n' gv cv r q wr) : GrpI w3 X a c d most np n n' gv cv r q (wr.alloc o) := h.keep ((Below.refl _ _).alloc (Nat.le_refl _) _)
theorem GrpI.cell4 (h : GrpI w3 X a c d most np n n' gv cv r q wr) : wr.cell? ⟨X, 4, none⟩ = some gv := (h.1.2 4 _ rfl).1
theorem GrpI.cell5 (h : GrpI w3 X a c d most np n n' gv cv r q wr) : wr.cell? ⟨X, 5, none⟩ = some cv := (h.1.2 5 _ rfl).1
theorem GrpI.size (h : GrpI w3 X a c d most np n n' gv cv r q wr) : w3.heap.size ≤ wr.heap.size := h.2.1.size
theorem GrpI.pushP {o : Obj} {wc : World} {v' : Value} (hg : ((wr.alloc (.cells (madeCells #[.bool false] np) 4)).alloc o).grownBy wc gv.ownBlock)
    (ho : wc.ownsRow w3.heap.size 130 1 v' (n + 1) (((List.range n).map fun a => Value.slice (some ⟨r a, 0, none⟩) np np) ++ [.slice (some ⟨wr.heap.size, 0, none⟩) np np]))
    (hat : ∀ b, v'.ownBlock = some b → gv.ownBlock = some b ∨ wr.heap.size < b) (h : GrpI w3 X a c d most np n n' gv cv r q wr) :
    (∃ r', GrpI w3 X a c d most np (n + 1) n' v' cv r' q (wc.setCell ⟨X, 4, none⟩ v')) ∧ wc.cell? ⟨X, 4, none⟩ = some gv ∧ wc.frozen? ⟨X, 4, none⟩ = false := by
  have h2 := (h.alloc (.cells (madeCells #[.bool false] np) 4)).alloc o
  have hB : BoxF wc X [a, .int .i64 most, c, d, gv, cv] := h2.1.grown hg fun e => by have := (h.2.2.2.1.own.lt _ e).1; have := h.2.2.1; omega
  obtain ⟨r', f1, f2⟩ := h.2.2.2.1.push h.size hg ho hat
  refine ⟨⟨r', hB.set 4 v' (by simp), ?_, h.2.2.1, f1.low 4 v' h.2.2.1, ?_, fun b h1 h3 => ?_⟩, hB.2 4 _ rfl⟩
  · exact (touch_moreD h2.2.1 hg fun b hb => (h.2.2.2.1.own.lt _ hb).1).setCell ⟨X, 4, none⟩ _ (Nat.le_refl _) (Nat.lt_succ_self _)
  · exact (h2.2.2.2.2.1.keep hg fun b hb => h.2.2.2.2.2 b (.inl hb)).low 4 v' h.2.2.1
  · rcases f2 b h1 with h4 | h4
    · exact h.2.2.2.2.2 b h4 h3
    · have := (h.2.2.2.2.1.lt h3).2; omega
theorem GrpI.pushC {o : Obj} {wc : World} {v' : Value} (hg : ((wr.alloc (.cells (madeCells #[.int .i64 0] 6) 3)).alloc o).grownBy wc cv.ownBlock)
    (ho : wc.ownsRow w3.heap.size 31 1 v' (n' + 1) (((List.range n').map fun a => Value.slice (some ⟨q a, 0, none⟩) 6 6) ++ [.slice (some ⟨wr.heap.size, 0, none⟩) 6 6]))
    (hat : ∀ b, v'.ownBlock = some b → cv.ownBlock = some b ∨ wr.heap.size < b) (h : GrpI w3 X a c d most np n n' gv cv r q wr) :
    (∃ q', GrpI w3 X a c d most np n (n' + 1) gv v' r q' (wc.setCell ⟨X, 5, none⟩ v')) ∧ wc.cell? ⟨X, 5, none⟩ = some cv ∧ wc.frozen? ⟨X, 5, none⟩ = false := by
  have h2 := (h.alloc (.cells (madeCells #[.int .i64 0] 6) 3)).alloc o
  have hB : BoxF wc X [a, .int .i64 most, c, d, gv, cv] := h2.1.grown hg fun e => by have := (h.2.2.2.2.1.own.lt _ e).1; have := h.2.2.1; omega
  obtain ⟨q', f1, f2⟩ := h.2.2.2.2.1.push h.size hg ho hat
  refine ⟨⟨q', hB.set 5 v' (by simp), ?_, h.2.2.1, ?_, f1.low 5 v' h.2.2.1, fun b h1 h3 => ?_⟩, hB.2 5 _ rfl⟩
  · exact (touch_moreD h2.2.1 hg fun b hb => (h.2.2.2.2.1.own.lt _ hb).1).setCell ⟨X, 5, none⟩ _ (Nat.le_refl _) (Nat.lt_succ_self _)
  · exact (h2.2.2.2.1.keep hg fun b hb hu => h.2.2.2.2.2 b hu (.inl hb)).low 5 v' h.2.2.1
  · rcases f2 b h3 with h4 | h4
    · exact h.2.2.2.2.2 b h1 h4
    · have := (h.2.2.2.1.lt h1).2; omega
end
theorem flat_most {G : Nat} : ∀ T : List (List Int), (∀ i, i < T.length → (T.getD i []).length ≤ G) → T.flatten.length ≤ T.length * G
  | [], _ => by simp
  | s :: T, h => by
    have h1 : s.length ≤ G := h 0 (by simp)
    have h2 := flat_most T fun i hi => by have := h (i + 1) (by simp; omega); simpa using this
    have e : (s :: T).flatten.length = s.length + T.flatten.length := by simp
    have e2 : (s :: T).length * G = T.length * G + G := by rw [List.length_cons, Nat.succ_mul]
    rw [e, e2]
    omega
theorem flat_some {T : List (List Int)} (h0 : 0 < T.length) (h : ∀ i, i < T.length → 1 ≤ (T.getD i []).length) : 0 < T.flatten.length := by
  cases T with
  | nil => simp at h0
  | cons s T =>
    have h1 : 1 ≤ s.length := h 0 (by simp)
    have e : (s :: T).flatten.length = s.length + T.flatten.length := by simp
    rw [e]
    omega
set_option maxHeartbeats 1000000 in
theorem NewM.of {w w1 w3 wr : World} {X nf N np G : Nat} {F : Nat → TeamD} {T : List (List Int)} {FL : List Int} {most : Int} {fa ta : Option Addr} {fc tc : Nat} {v pv cv : Value} {r q : Nat → Nat}
    (hB1 : Below w.heap.size w w1) (hX : w1.heap.size = X) (hF : TeamRow w1 (.slice fa nf fc) nf F) (hT : IntRow w1 (.slice ta N tc) N (getI FL))
    (hP : PotI w1 X (.slice fa nf fc) most (.slice ta N tc) T N v w3) (hG : GrpI w3 X (.slice fa nf fc) (.slice ta N tc) v most np G G pv cv r q wr) (hp : potsP nf F T G most) (hFL : T.flatten = FL) (hN : FL.length = N) (hnp : T.length = np) :
    NewM w (drwD F T G most) (.returned (.pointer (some ⟨X, 0, none⟩))) wr := by
  obtain ⟨hf, hg, hm, ht, hr, hd⟩ := hp
  have hnf : 2 ≤ nf ∧ nf ≤ 8 := hf.1
  have hwX : w.heap.size ≤ X := by rw [← hX]; exact hB1.size
  have hN0 : 0 < N := by rw [← hN, ← hFL]; exact flat_some (by omega) fun i hi => by have := (hr i hi).1; omega
  have hN12 : N ≤ 12 := by
    have h1 := flat_most (G := G) T fun i hi => by have := (hr i hi).2; omega
    have h2 : T.length * G ≤ 3 * 4 := Nat.mul_le_mul (by omega) (by omega)
    rw [hFL, hN] at h1
    omega
  obtain ⟨_, _, he, _, hfc⟩ := hF.form'
  simp only [Value.slice.injEq, true_and] at he
  obtain ⟨rfl, rfl⟩ := he
  obtain ⟨fb, fo, rfl, hfcap, hcells⟩ := hfc (by omega)
  obtain ⟨tb, to, rfl, htcap, ht0⟩ := int_at hT hN0
  obtain ⟨pb, pc, rfl, hpb1, hpb2⟩ := hP.2.1.form hN0
  have hpc : N ≤ pc := by
    rcases hP.2.1.2 with ⟨_, h9⟩ | ⟨g, cap, cur, h9, _, _, h8, _⟩
    · omega
    · simp only [Value.slice.injEq, true_and] at h9
      obtain ⟨_, rfl⟩ := h9
      exact h8
  obtain ⟨gb, gcap, rfl, hmp⟩ := hG.2.2.2.1.mat (by omega)
  obtain ⟨cb, ccap, rfl, hmc⟩ := hG.2.2.2.2.1.mat (by omega)
  have hlo : X < w3.heap.size := hG.2.2.1
  have hBX : Below X w1 wr := hP.2.2.trans (hG.2.1.below (Nat.le_refl _) (Nat.le_of_lt hlo))
  have key : ∀ (b o : Nat) (u : Value), w1.cell? ⟨b, o, none⟩ = some u → wr.cell? ⟨b, o, none⟩ = some u := fun b o u h => (hBX.cell (p := ⟨b, o, none⟩) (by rw [← hX]; exact World.block_lt_of_cell? w1 _ h)).trans h
  have hfb : fb < X := by rw [← hX]; exact World.block_lt_of_cell? w1 _ (hcells 0 (by omega)).1
  have htb : tb < X := by rw [← hX]; exact World.block_lt_of_cell? w1 _ ht0
  have hdd : ∀ i, i < N → 0 ≤ getI FL i ∧ getI FL i ≤ (nf : Int) - 1 := fun i hi => by have := (hd i (by rw [hFL, hN]; exact hi)).1; rw [hFL] at this; exact this
  have htm : ∀ i, teamAt T i = (getI FL i).toNat := fun i => by unfold teamAt; rw [hFL]
  have hTN : ∀ i, i < N → ((teamAt T i : Nat) : Int) = getI FL i ∧ teamAt T i < nf := fun i hi => by have := hdd i hi; rw [htm]; omega
  have hA := hG.2.2.2.2.2
  refine ⟨w3.heap.size, wr.heap.size, X, { fb := fb, fo := fo, nf := nf, fc := fc, tb := tb, to := to, tc := tc, pb := pb, po := 0, pc := pc, gb := gb, gcap := gcap, cb := cb, ccap := ccap, N := N, G := G, NP := np, r := r, rc := fun _ => np, q := q, qc := fun _ => 6, team := teamAt T, pot := potAt T, cl := fun i => (F (teamAt T i)).club.toNat, most := most }, rfl, ⟨?_, ?_, rfl, rfl, rfl, rfl⟩, ⟨hG.1.box, ⟨hlo, Nat.lt_trans hfb hlo, Nat.lt_trans htb hlo, hpb2⟩, ⟨hfcap, htcap, ?_, hN12, by show G ≤ 4; omega, hnf.2, by show np ≤ 3; omega⟩, fun i hi => ?_, fun i hi => ?_, fun i hi => ?_, hmp, hmc, ?_⟩, ?_, Nat.le_trans hwX (Nat.le_of_lt hlo)⟩
  · show N = T.flatten.length
    rw [hFL, hN]
  · show G = ((G : Int)).toNat
    simp
  · exact hpc
  · obtain ⟨bo, of, e, _, h9⟩ := int_at hT hi
    simp only [Option.some.injEq, Addr.mk.injEq, and_true] at e
    obtain ⟨rfl, rfl⟩ := e
    have h8 := hTN i hi
    refine ⟨?_, h8.2⟩
    show wr.cell? ⟨tb, to + i, none⟩ = some (.int .i64 ((teamAt T i : Nat) : Int))
    rw [h8.1]
    exact key _ _ _ h9
  · refine ⟨?_, ?_⟩
    · show wr.cell? ⟨pb, 0 + i, none⟩ = some (.int .i64 (potAt T i))
      rw [Nat.zero_add, World.cell?_of_block (w := w3) (a := ⟨pb, i, none⟩) (hG.2.1.block pb hpb2 (.inr hpb1)), hP.2.1.cellAt i (by rw [Nat.mul_one]; exact hi), List.getElem?_map, List.getElem?_range hi]
      rfl
    · show potAt T i < np
      rw [← hnp]
      exact potAt_lt T i (by rw [hFL, hN]; exact hi)
  · have h8 := hTN i hi
    have h7 : 0 ≤ (F (teamAt T i)).club ∧ (F (teamAt T i)).club ≤ 5 := (hf.2 _ h8.2).1.2.1
    refine ⟨?_, ?_⟩
    · show wr.cell? ⟨fb, fo + teamAt T i * 3 + 1, none⟩ = some (.int .i64 (((F (teamAt T i)).club.toNat : Nat) : Int))
      rw [Int.toNat_of_nonneg h7.1]
      exact key _ _ _ (hcells _ h8.2).2.1
    · show (F (teamAt T i)).club.toNat < 6
      omega
  · refine ⟨fun e => ?_, fun g hg => ⟨fun e => ?_, fun e => ?_⟩, fun g h hg hh e => ?_⟩
    · exact hA gb (.inl rfl) (.inl (by show some cb = some gb; rw [show gb = cb from e]))
    · exact hA (r g) (.inr ⟨g, hg, rfl⟩) (.inl (by show some cb = some (r g); rw [show r g = cb from e]))
    · exact hA gb (.inl rfl) (.inr ⟨g, hg, e⟩)
    · exact hA (r g) (.inr ⟨g, hg, rfl⟩) (.inr ⟨h, hh, e.symm⟩)
  · exact hB1.trans (hBX.mono hwX)
set_option maxRecDepth 100000 in
set_option maxHeartbeats 4000000 in
theorem l12New_spec : NewC := by
  intro vf nf F vp gr most T w hf h hw hp
  obtain ⟨G, rfl⟩ : ∃ G : Nat, gr = (G : Int) := ⟨gr.toNat, by have := hp.2.1; omega⟩
  have hG4 : 1 ≤ G ∧ G ≤ 4 := by have := hp.2.1; omega
  obtain ⟨pa, pc, rfl, hpn⟩ := pots_form h
  obtain ⟨fa, fc, rfl, hfn, _⟩ := hf.form
  have hfl6 := Nat.le_trans (flat_wt (T := T)) hw
  obtain ⟨U, hU⟩ : ∃ U, w.alloc (.cells #[.slice pa (List.length (α := List Int) T) pc, .int .i64 G, .int .i64 most] 26) = U := ⟨_, rfl⟩
  have bU : Below w.heap.size w U := by rw [← hU]; exact (Below.refl _ _).alloc (Nat.le_refl _) _
  have HS : Hid (PotsAt U w.heap.size pa (List.length (α := List Int) T) pc G most T) := by rw [← hU]; exact PotsAt.made h
  have HB := Lib.hid bU
  have HP := Lib.hid hp
  have HF : Hid (TeamRow U (.slice fa nf fc) nf F) := hf.below bU (Nat.le_refl _)
  have CL : Hid (∀ wa, Below U.heap.size U wa → Calls Try.prog 59 #[.agg #[.slice pa (List.length (α := List Int) T) pc, .int .i64 G, .int .i64 most]] wa (IntsL wa T.flatten)) := fun wa hb => l12Teams_spec _ G most T wa (HS.out.2.below hb) hw
  obtain ⟨i0, hi, hz0, hz1, hz2⟩ := info_parts Try.infoI
  obtain ⟨np, hnp⟩ : ∃ np, List.length (α := List Int) T = np := ⟨_, rfl⟩
  have HNP := Lib.hid hnp
  rw [hnp] at hpn hU HS CL ⊢
  have c0 := HS.out.1.2 0 _ rfl
  have c1 := HS.out.1.2 1 _ rfl
  have c2 := HS.out.1.2 2 _ rfl
  obtain ⟨FL, hFL⟩ : ∃ FL, T.flatten = FL := ⟨_, rfl⟩
  have HFL := Lib.hid hFL
  rw [hFL] at hfl6 CL
  obtain ⟨N, hN⟩ : ∃ N, FL.length = N := ⟨_, rfl⟩
  have HNN := Lib.hid hN
  rw [hN] at hfl6
  clear h hf bU hw hp hnp hFL
  go_enter Try.func65, Try.ntmps65
  go_wp2_with fail
  clear hU
  have HC : Hid (∀ w', Below U.heap.size U w' → w'.cell? ⟨w.heap.size, 0, none⟩ = some (.slice pa np pc) ∧ w'.cell? ⟨w.heap.size, 1, none⟩ = some (.int .i64 G) ∧ w'.cell? ⟨w.heap.size, 2, none⟩ = some (.int .i64 most)) := fun w' hb => ⟨(HS.out.1.below hb).2 0 _ rfl, (HS.out.1.below hb).2 1 _ rfl, (HS.out.1.below hb).2 2 _ rfl⟩
  go_region_held3 (fun w' => w'.cell? ⟨w.heap.size, 0, none⟩ = some (.slice pa np pc) ∧ w'.cell? ⟨w.heap.size, 1, none⟩ = some (.int .i64 G) ∧ w'.cell? ⟨w.heap.size, 2, none⟩ = some (.int .i64 most)) (first | exact HC.out _ (Below.refl _ _).drew | exact HC.out _ hSw | exact HC.out _ (hSw.alloc hSw.size _))
    (first | (go_at_call 59; refine (CL.out _ (Below.refl _ _).drew).mono ?_; rintro e w1 h9; obtain ⟨vt, rfl, htr, hown, b⟩ := IntsL.made h9 (by rw [hN]; omega); obtain ⟨ta, tc, rfl, _, _⟩ := htr.form; rw [hN] at htr hown ⊢; have hSw : Below U.heap.size U w1 := (Below.refl _ _).drew.trans b) | fail)
  have HS1 := Lib.hid (HS.out.below hSw)
  have HTR := Lib.hid htr
  have HF1 := Lib.hid (HF.out.below hSw (Nat.le_refl _))
  have HB1 := Lib.hid (HB.out.trans (hSw.mono HB.out.size))
  have hX0 : w.heap.size < w1.heap.size := HS1.out.1.1
  obtain ⟨xs9, hxs9⟩ := hown
  have HTI : Hid (InW U.heap.size w1.heap.size (.slice ta N tc)) := InW.of_owns hxs9
  clear htr hSw b h9 hxs9 HS HF HB HC CL hN c0 c1 c2
  obtain ⟨V, hV⟩ : ∃ V, w1.alloc (.cells #[.slice fa nf fc, .int .i64 most, .slice ta N tc, .slice none 0 0, .slice none 0 0, .slice none 0 0] 95) = V := ⟨_, rfl⟩
  obtain ⟨X, hX⟩ : ∃ X, w1.heap.size = X := ⟨_, rfl⟩
  have P0 : Hid (PotI w1 X (.slice fa nf fc) most (.slice ta N tc) T 0 (.slice none 0 0) V) := by
    rw [← hV, ← hX]
    exact ⟨BoxF.made (Below.refl _ _) rfl, World.ownsRow_nil _ _ _ _, (Below.refl _ _).alloc (Nat.le_refl _) _⟩
  have HKP : Hid (∀ wa c v, PotI w1 X (.slice fa nf fc) most (.slice ta N tc) T c v wa → PotsAt wa w.heap.size pa np pc G most T) := fun wa c v h => HS1.out.below (by rw [hX]; exact h.2.2)
  have c0 := (HKP.out _ _ _ P0.out).1.2 0 _ rfl
  have c1 := (HKP.out _ _ _ P0.out).1.2 1 _ rfl
  have c2 := (HKP.out _ _ _ P0.out).1.2 2 _ rfl
  have HX := Lib.hid hX
  rw [hV, hX]
  clear hV hX
  go_wp2
  clear c0 c1 c2
  go_loopw [19] (fun iv wr => ∃ (i : Nat) (v : Value), i ≤ np ∧ iv = .int .i64 i ∧ Hid (PotI w1 X (.slice fa nf fc) most (.slice ta N tc) T ((T.take i).flatten).length v wr)) (fun iv _ => np - (RowKit.intOf iv).toNat)
  case atStart => exact ⟨0, _, Nat.zero_le _, rfl, P0⟩
  case round =>
    clear P0
    obtain ⟨i, v, hi9, rfl, HPI⟩ := hrel
    by_cases hlt : i < np
    · obtain ⟨r, hr⟩ : ∃ r : List Int, T[i]? = some r := ⟨_, List.getElem?_eq_getElem (by rw [HNP.out]; exact hlt)⟩
      obtain ⟨b, off, x, xc, rfl, hcap, q0, hrr, hm63⟩ := pot_cells (by rw [HNP.out]; exact (HKP.out _ _ _ HPI.out).2) hr
      rw [HNP.out] at hcap
      have hj1 : (i : Int) < (np : Int) := by omega
      have HLN : Hid (((T.take (i + 1)).flatten).length = ((T.take i).flatten).length + r.length) := by show _ = _; rw [List.take_add_one, hr, List.flatten_append]; simp
      have HPT : Hid (∀ j, j < r.length → potAt T (((T.take i).flatten).length + j) = i) := potAt_in T i r hr
      have hcb : ((T.take i).flatten).length + r.length ≤ 1048576 := by rw [← HLN.out]; refine Nat.le_trans (flat_takeD _) ?_; rw [HFL.out, HNN.out]; exact hfl6
      obtain ⟨m, hm⟩ : ∃ m, r.length = m := ⟨_, rfl⟩
      rw [hm] at q0 hm63 HLN HPT hcb
      generalize ((T.take i).flatten).length = cI at *
      clear hm hrr hr
      go_wp2
      clear q0
      generalize wr = w2 at *
      go_loopw [26] (fun jv wr => ∃ (j : Nat) (v : Value), j ≤ m ∧ jv = .int .i64 j ∧ Hid (PotI w1 X (.slice fa nf fc) most (.slice ta N tc) T (cI + j) v wr)) (fun jv _ => m - (RowKit.intOf jv).toNat)
      case atStart => exact ⟨0, v, Nat.zero_le _, rfl, HPI⟩
      case round =>
        clear HPI
        obtain ⟨j, v, hj9, rfl, HPJ⟩ := hrel
        by_cases hlt2 : j < m
        · have hj2 : (j : Int) < (m : Int) := by omega
          obtain ⟨va, vc, hvf⟩ := owns_form HPJ.out.2.1
          subst hvf
          have c3 := HPJ.out.cell
          have HPJ2 : Hid (i = potAt T (cI + j)) := (HPT.out j hlt2).symm
          have hsz := HPJ.out.size
          go_wp2_with (at_builtin; refine wpList_pushL rfl (.tmp 32) (.tmp 34) 31 rfl (X + 1) 3 Try.underlying31 hi hz0 hz1 hz2 rfl (by decide) [.int .i64 i] rfl (by intro u hu; simp at hu; subst hu; rfl) rfl (by show Value.slice (some ⟨_, 0, none⟩) 1 1 = _; simp) HPJ.out.2.1 (by unfold maxLen; omega) (by omega) hsz ?_; intro gg c9 wc oc gc hat hlt9; have s9 := PotI.put HPJ2.out gc oc HPJ.out; have f9 := s9.2.1; have e9 := s9.2.2; have S9 := Lib.hid s9.1; clear s9 oc gc hat hlt9)
          go_roundw
          case rel => exact ⟨j + 1, _, by omega, by go_num, S9⟩
          case measure => simp [RowKit.intOf]; omega
        obtain rfl : j = m := by omega
        go_wp2
        go_roundw
        case rel => exact ⟨i + 1, v, by omega, by go_num, by rw [HLN.out]; exact HPJ⟩
        case measure => simp [RowKit.intOf]; omega
    obtain rfl : np = i := by omega
    have HPN : Hid (PotI w1 X (.slice fa nf fc) most (.slice ta N tc) T N v wr) := by
      have h9 := HPI.out
      rw [List.take_of_length_le (by have := HNP.out; omega), HFL.out, HNN.out] at h9
      exact h9
    clear HPI
    have hX1 : X < wr.heap.size := HPN.out.1.1
    have G0 : Hid (GrpI wr X (.slice fa nf fc) (.slice ta N tc) v most np 0 0 (.slice none 0 0) (.slice none 0 0) id id wr) :=
      ⟨HPN.out.1, Touch.refl _ _ _, hX1, Fam.nil _ _ _ _ _ _, Fam.nil _ _ _ _ _ _, fun b h => by rcases h with h | ⟨_, h, _⟩ <;> (simp [Value.ownBlock] at h)⟩
    have HPX := Lib.hid (HKP.out _ _ _ HPN.out).1
    have HX0 : Hid (w.heap.size < X) := by show _ < _; rw [← HX.out]; exact hX0
    have mk1 : ∀ w, (Instr.makeSlice 130 (.int .i64 (np : Int)) (.int .i64 (np : Int))).run Try.prog w = .ok (.slice (some ⟨w.heap.size, 0, none⟩) np np) (w.alloc (.cells (madeCells #[.bool false] np) 4)) := fun w => run_make_row' _ _ _ 1 Try.underlying130 Try.infoBool rfl .i64 .i64 np (by have := HP.out.2.2.2.1; rw [HNP.out] at this; omega) hpn w
    have mk2 : ∀ w, (Instr.makeSlice 31 (.int .i64 6) (.int .i64 6)).run Try.prog w = .ok (.slice (some ⟨w.heap.size, 0, none⟩) 6 6) (w.alloc (.cells (madeCells #[.int .i64 0] 6) 3)) := fun w => run_make_row' _ _ _ 8 Try.underlying31 Try.infoI rfl .i64 .i64 6 (by omega) (by omega) w
    obtain ⟨b0, bi, bz0, bz1, bz2⟩ := info_parts Try.infoBoolS
    obtain ⟨s0i, si, iz0, iz1, iz2⟩ := info_parts Try.infoIntSS
    go_wp2
    generalize hwr : wr = w3 at *
    clear hwr
    go_loopw [8] (fun gv wr => ∃ (g : Nat) (pv cv : Value) (r q : Nat → Nat), g ≤ G ∧ gv = .int .i64 g ∧ Hid (GrpI w3 X (.slice fa nf fc) (.slice ta N tc) v most np g g pv cv r q wr)) (fun gv _ => G - (RowKit.intOf gv).toNat)
    case atStart => exact ⟨0, _, _, _, _, Nat.zero_le _, rfl, G0⟩
    case round =>
      clear G0
      obtain ⟨g, pv, cv, r, q, hg9, rfl, HG⟩ := hrel
      have HPr := Lib.hid (HPX.out.touch HG.out.2.1 (.inl HX0.out))
      have c0 := HPr.out.2 0 _ rfl
      have c1 := HPr.out.2 1 _ rfl
      have c2 := HPr.out.2 2 _ rfl
      by_cases hlt : g < G
      · have hj1 : (g : Int) < (G : Int) := by omega
        obtain ⟨oa, oc9, hof⟩ := owns_form HG.out.2.2.2.1.own
        obtain ⟨ea, ec9, hef⟩ := owns_form HG.out.2.2.2.2.1.own
        subst hof hef
        have s0 := HG.out
        have d0 : wr.drew.cell? ⟨w.heap.size, 0, none⟩ = some (.slice pa np pc) := c0
        have k0 : wr.drew.cell? ⟨X, 4, none⟩ = some (.slice oa g oc9) := s0.cell4
        have k1 : ∀ o, (wr.alloc o).drew.cell? ⟨X, 4, none⟩ = some (.slice oa g oc9) := fun o => (s0.alloc o).cell4
        have k2 : ∀ o o2, ((wr.alloc o).alloc o2).drew.cell? ⟨X, 4, none⟩ = some (.slice oa g oc9) := fun o o2 => ((s0.alloc o).alloc o2).cell4
        have ow1 := Lib.hid (((s0.alloc (.cells (madeCells #[.bool false] np) 4)).alloc (.cells #[.slice (some ⟨wr.heap.size, 0, none⟩) np np] 130)).drew)
        have nw1 : Hid (∀ j u, [Value.slice (some ⟨wr.heap.size, 0, none⟩) np np][j]? = some u → (((wr.alloc (.cells (madeCells #[.bool false] np) 4)).alloc (.cells #[.slice (some ⟨wr.heap.size, 0, none⟩) np np] 130)).drew).cell? ((⟨wr.heap.size + 1, 0, none⟩ : Addr).add j) = some u) := by
          have h8 : (wr.alloc (.cells (madeCells #[.bool false] np) 4)).heap.size = wr.heap.size + 1 := by simp
          have h9 := heap_alloc_new (wr.alloc (.cells (madeCells #[.bool false] np) 4)) (.cells #[.slice (some ⟨wr.heap.size, 0, none⟩) np np] 130)
          rw [h8] at h9
          exact World.news_of_block (w := ((wr.alloc (.cells (madeCells #[.bool false] np) 4)).alloc (.cells #[.slice (some ⟨wr.heap.size, 0, none⟩) np np] 130)).drew) (cs := #[.slice (some ⟨wr.heap.size, 0, none⟩) np np]) (t := 130) (fr := (0, 0)) h9
        have sz1 : ((wr.alloc (.cells (madeCells #[.bool false] np) 4)).alloc (.cells #[.slice (some ⟨wr.heap.size, 0, none⟩) np np] 130)).drew.heap.size = wr.heap.size + 2 := by show ((wr.alloc _).alloc _).heap.size = _; simp
        have SZ1 := Lib.hid sz1
        clear HG sz1
        go_wp2
        go_region_law
          (first
            | (refine step_append_lies _ (by rfl) (.tmp 50) (.tmp 55) 93 (by rfl) w3.heap.size 130 b0 (.slice none 0 0) 1 24 Try.underlying93 bi bz0 bz1 bz2 rfl (by decide) (.slice oa g oc9) g ((List.range g).map fun a => Value.slice (some ⟨r a, 0, none⟩) np np) (by rfl) ow1.out.2.2.2.1.own ⟨wr.heap.size + 1, 0, none⟩ 1 1 [.slice (some ⟨wr.heap.size, 0, none⟩) np np] (by rfl) (by rfl) nw1.out (by intro u hu; simp at hu; subst hu; rfl) (by omega) (by unfold maxLen; omega) (by omega) ow1.out.size (wr.heap.size + 2) SZ1.out ?_; intro gg c9 wc oc gc hat hlt9; have s9 := GrpI.pushP (wr := wr) (o := .cells #[.slice (some ⟨wr.heap.size, 0, none⟩) np np] 130) (gv := .slice oa g oc9) (r := r) (n := g) (np := np) ⟨gc.os, gc.tape, gc.output, gc.size, gc.block⟩ oc (fun b hb => by simp only [Value.ownBlock, Option.some.injEq] at hb; subst hb; rcases hat with h | h; exact .inl h; exact .inr (by omega)) s0; have f9 := s9.2.1; have e9 := s9.2.2)
            | fail)
        all_goals (
          obtain ⟨r', s5⟩ := s9.1
          clear s9 f9 e9 gc oc hat s0 d0 k0 k1 k2 ow1 nw1 SZ1 c0 c1 c2 HPr hlt9
          generalize wc.setCell ⟨X, 4, none⟩ (.slice (some ⟨gg, 0, none⟩) (g + 1) c9) = w5 at *
          generalize Value.slice (some ⟨gg, 0, none⟩) (g + 1) c9 = pv at *
          have k0 : w5.drew.cell? ⟨X, 5, none⟩ = some (.slice ea g ec9) := s5.cell5
          have k1 : ∀ o, (w5.alloc o).drew.cell? ⟨X, 5, none⟩ = some (.slice ea g ec9) := fun o => (s5.alloc o).cell5
          have k2 : ∀ o o2, ((w5.alloc o).alloc o2).drew.cell? ⟨X, 5, none⟩ = some (.slice ea g ec9) := fun o o2 => ((s5.alloc o).alloc o2).cell5
          have ow2 := Lib.hid (((s5.alloc (.cells (madeCells #[.int .i64 0] 6) 3)).alloc (.cells #[.slice (some ⟨w5.heap.size, 0, none⟩) 6 6] 31)).drew)
          have nw2 : Hid (∀ j u, [Value.slice (some ⟨w5.heap.size, 0, none⟩) 6 6][j]? = some u → (((w5.alloc (.cells (madeCells #[.int .i64 0] 6) 3)).alloc (.cells #[.slice (some ⟨w5.heap.size, 0, none⟩) 6 6] 31)).drew).cell? ((⟨w5.heap.size + 1, 0, none⟩ : Addr).add j) = some u) := by
            have h8 : (w5.alloc (.cells (madeCells #[.int .i64 0] 6) 3)).heap.size = w5.heap.size + 1 := by simp
            have h9 := heap_alloc_new (w5.alloc (.cells (madeCells #[.int .i64 0] 6) 3)) (.cells #[.slice (some ⟨w5.heap.size, 0, none⟩) 6 6] 31)
            rw [h8] at h9
            exact World.news_of_block (w := ((w5.alloc (.cells (madeCells #[.int .i64 0] 6) 3)).alloc (.cells #[.slice (some ⟨w5.heap.size, 0, none⟩) 6 6] 31)).drew) (cs := #[.slice (some ⟨w5.heap.size, 0, none⟩) 6 6]) (t := 31) (fr := (0, 0)) h9
          have sz2 : ((w5.alloc (.cells (madeCells #[.int .i64 0] 6) 3)).alloc (.cells #[.slice (some ⟨w5.heap.size, 0, none⟩) 6 6] 31)).drew.heap.size = w5.heap.size + 2 := by show ((w5.alloc _).alloc _).heap.size = _; simp
          have SZ2 := Lib.hid sz2
          clear sz2
          go_wp2
          go_region_law
          (first
            | (refine step_append_lies _ (by rfl) (.tmp 63) (.tmp 65) 24 (by rfl) w3.heap.size 31 s0i (.slice none 0 0) 1 24 Try.underlying24 si iz0 iz1 iz2 rfl (by decide) (.slice ea g ec9) g ((List.range g).map fun a => Value.slice (some ⟨q a, 0, none⟩) 6 6) (by rfl) ow2.out.2.2.2.2.1.own ⟨w5.heap.size + 1, 0, none⟩ 1 1 [.slice (some ⟨w5.heap.size, 0, none⟩) 6 6] (by rfl) (by rfl) nw2.out (by intro u hu; simp at hu; subst hu; rfl) (by omega) (by unfold maxLen; omega) (by omega) ow2.out.size (w5.heap.size + 2) SZ2.out ?_; intro gg c9 wd oc gc hat hlt9; have s9 := GrpI.pushC (wr := w5) (o := .cells #[.slice (some ⟨w5.heap.size, 0, none⟩) 6 6] 31) (cv := .slice ea g ec9) (q := q) (n' := g) (np := np) ⟨gc.os, gc.tape, gc.output, gc.size, gc.block⟩ oc (fun b hb => by simp only [Value.ownBlock, Option.some.injEq] at hb; subst hb; rcases hat with h | h; exact .inl h; exact .inr (by omega)) s5; have f9 := s9.2.1; have e9 := s9.2.2)
            | fail))
        all_goals (
          obtain ⟨q', s6⟩ := s9.1
          clear s9 f9 e9 gc oc hat s5 k0 k1 k2 ow2 nw2 SZ2 hlt9
          go_wp2
          exact ⟨⟨g + 1, _, _, r', q', by omega, by go_num, s6⟩, by simp [RowKit.intOf]; omega⟩)
      obtain rfl : g = G := by omega
      go_wp2
      go_ret
      exact NewM.of HB1.out HX.out HF1.out HTR.out HPN.out HG.out HP.out HFL.out HNN.out HNP.out
end Go.Proofs.Ytmhkkdnopcdibaa
