/-
  Packed: ApplyImpl, RecordsImpl, OrderMake.
-/
import Derived.BigRegion
import Derived.WalkSpells
import Derived.Test.YtojkonhhaamodaaQ4
import Derived.Test.YtojkonhhaamodaaQ9
import Derived.Test.YtojkonhhaamodaaQ17
set_option linter.unusedVariables false
namespace Go.Proofs.Ytojkonhhaamodaa
open Go.RowKit Go.Maps

set_option maxRecDepth 100000 in
theorem cloneG_impl (v : Value) (m : Nat) (g : Nat → GameD) (w : World) (hv : GameRow w v m g) (hm : m ≤ 1048576) :
    Calls Try.prog 22 #[v] w fun e w' => ∃ vv xs, e = .returned vv ∧ w'.ownsRow w.heap.size 37 5 vv m xs ∧ RecCells 5 m xs (fun i => (g i).cells) ∧ Below w.heap.size w w' := by
  obtain ⟨i0, hi, hz0, hz1, hz2⟩ := info_parts Try.infoGame
  obtain ⟨aa, cap, rfl, hn, hc⟩ := hv.form
  cases aa with
  | none =>
    have h0 : m = 0 := by
      by_cases h : 0 < m
      · obtain ⟨_, _, h1, _⟩ := hc h; cases h1
      · omega
    subst h0
    have hq1 : (binOp .eql 27 (.slice none 0 cap) (.slice none 0 0)).run Try.prog w = .ok (.bool true) w := Lib.run_eql_slice_nil w 27 37 none 0 cap 0 0 Try.underlying27
    clear hv hc
    go_enter Try.func22, Try.ntmps22
    go_wp2
    go_ret
    exact ⟨_, [], rfl, World.ownsRow_nil _ _ _ _, RecCells.nil, Below.refl _ _⟩
  | some ad =>
    have HV := Lib.hid hv
    have hq1 : (binOp .eql 27 (.slice (some ad) m cap) (.slice none 0 0)).run Try.prog w = .ok (.bool false) w := Lib.run_eql_slice_nil w 27 37 (some ad) m cap 0 0 Try.underlying27
    clear hv hc
    go_enter Try.func22, Try.ntmps22
    go_wp2_with (at_builtin; refine wpList_cloneR rfl (.tmp 5) (.tmp 6) 27 rfl 37 Try.underlying27 hi hz0 hz1 hz2 rfl (by decide) (by simp [go_sem]) rfl HV.out (fun i hi => rfl) (fun i hi => GameD.ones _) (by omega) (by omega) ?_; intro vv w3 o3 b3)
    go_ret
    exact ⟨_, _, rfl, o3, flatR_cells 5 (fun i => (g i).cells) m (fun i hi => rfl), b3⟩
theorem grown_setCell (w : World) (p : Addr) (u : Value) : w.grownBy (w.setCell p u) (some p.block) := by
  have t := Touch.setCell (lo := p.block) (hi := p.block + 1) (Touch.refl _ _ w) p u (Nat.le_refl _) (Nat.lt_succ_self _)
  exact ⟨t.os, t.tape, t.output, t.size, fun k hk hne => t.block k hk (by
    have : k ≠ p.block := fun e => hne (by rw [e])
    omega)⟩
theorem PtrRange.setCell {P : Program} {w : World} {k : TypeId} {b o m r n cnt : Nat} {F : Int → Int} {left : Lit → Bool} (h : PtrRange P w k b o m r n F left cnt) {q : Nat} (hm : q ≠ m) (hr : q ≠ r) (s : Nat) (u : Value) : PtrRange P (w.setCell ⟨q, s, none⟩ u) k b o m r n F left cnt :=
  h.kept (grown_setCell w ⟨q, s, none⟩ u) (fun e => hm (Option.some.inj e).symm) (fun e => hr (Option.some.inj e).symm)
set_option maxRecDepth 100000 in
set_option maxHeartbeats 1000000 in
theorem applyNotes_impl (n : Int) (v : Value) (m : Nat) (g : Nat → GameD) (v' : Value) (k : Nat) (ns : Nat → NoteD) (R : Bool) (w : World) (hf : ∀ i, (ns i).fit) (hR : R = true ↔ notesP n m g k ns) (hv : GameRow w v m g) (hv' : NoteRow w v' k ns) :
    Calls Try.prog 8 #[.int .i64 n, v, v'] w fun e w' => (R = false ∧ e = .returned (.tuple #[.slice none 0 0, .bool false]) ∧ Below w.heap.size w w') ∨
      (R = true ∧ ∃ vv xs, e = .returned (.tuple #[vv, .bool true]) ∧ w'.ownsRow w.heap.size 37 5 vv m xs ∧ RecCells 5 m xs (fun i => (applyN g (canonL ns k) (canonL ns k).length i).cells) ∧ Below w.heap.size w w') := by
  have C := Lib.hid (fun w1 h1 h2 => notesOk_impl n v m g v' k ns R w1 hf hR h1 h2)
  cases R with
  | false =>
    clear hR
    go_enter Try.func8, Try.ntmps8
    go_wp2_with fail
    refine (C.out _ hv hv').mono ?_
    rintro e w2 ⟨rfl, b2⟩
    clear hv hv'
    go_wp2
    go_ret2
    exact .inl ⟨trivial, rfl, b2⟩
  | true =>
  have hP := hR.1 rfl
  have hm60 := hP.1.1
  have hk80 := hP.2.1
  have HP := Lib.hid hP
  have HNP : Hid (∀ i, i < k → noteP n m g (ns i)) := fun i hi => (hP.2.2 i hi).1
  have HV2 := Lib.hid hv'
  have HG := Lib.hid hv
  obtain ⟨aa, cap, B, O, rfl, hn63, hat⟩ := hv'.at
  have HAT := Lib.hid hat
  have CS := Lib.hid (fun w1 h1 => standingNotes_impl aa k cap B O ns w1 hf h1 (by omega))
  have CC := Lib.hid (fun w1 h1 => cloneG_impl v m g w1 h1 (by omega))
  clear hR hv hv' hP hat hf
  go_enter Try.func8, Try.ntmps8
  go_wp2_with fail
  refine (C.out _ HG.out HV2.out).mono ?_
  rintro e w2 ⟨rfl, b2⟩
  have HB2 := Lib.hid b2
  have z2 := b2.size
  have HG2 := Lib.hid (HG.out.below b2 (Nat.le_refl _))
  clear C b2
  go_wp2_with fail
  refine (CC.out _ HG2.out).mono ?_
  rintro e w3 ⟨vv, xs0, rfl, o3, c3, b3⟩
  have HB3 := Lib.hid (HB2.out.trans (b3.mono z2))
  have z3 := HB3.out.size
  have HO3 := Lib.hid (owns_mono o3 z2)
  have HC3 := Lib.hid c3
  have HIN := Lib.hid (InW.of_owns o3)
  have HA3 := Lib.hid (HAT.out.below HB3.out (Nat.le_refl _))
  clear CC b3 o3 c3 HG2 HB2
  go_wp2_with fail
  refine (CS.out _ HA3.out).mono ?_
  rintro e w4 ⟨M, rfl, hM, hm4, b4⟩
  have HB4 := Lib.hid (HB3.out.trans (b4.mono z3))
  have z4 := HB4.out.size
  have z34 := b4.size
  have HO4 := Lib.hid (owns_below HO3.out b4 (Nat.le_refl _))
  clear CS b4 HA3 HO3 HB3
  go_wp2_with (at_range; refine wpList_ptrRange rfl (.tmp 19) 52 rfl 3 55 kInt Try.underlying52 B O M k (standS ns k) rfl hm4 ?_; intro w5 left0 cnt0 hl0 hr0 g5 s5)
  go_frame
  obtain ⟨r, hr⟩ : ∃ r, w4.heap.size = r := ⟨_, rfl⟩
  have HR0 := Lib.hid hr0
  have HB5 := Lib.hid (HB4.out.grown g5 z4 (by simp))
  have HO5 := Lib.hid (HO4.out.kept g5 (by cases hvo : vv.ownBlock with | none => exact .inl rfl | some q => exact .inr (by simp)))
  have HRM : Hid (M < r ∧ w3.heap.size ≤ M) := Lib.hid ⟨by rw [← hr]; exact hm4.lt, hM⟩
  have HLD : Hid (laidIn g ns k (fun s => left0 (.int .i64 s)) g) := Lib.hid ⟨(fun s hs hl => by
    have h1 := (hl0 (.int .i64 s)).2 ⟨s, rfl, hs⟩
    have h2 : left0 (.int .i64 s) = false := hl
    rw [h1] at h2; cases h2), fun i _ => rfl⟩
  rw [hr] at HR0 ⊢
  have hr1 : w.heap.size ≤ r := by omega
  clear hr0 hl0 g5 hm4 HO4 HB4
  go_loopw [10] (fun _ wr => ∃ (left : Lit → Bool) (cnt : Nat) (xs : List Value) (gI : Nat → GameD), Hid (PtrRange Try.prog wr 3 B O M r k (standS ns k) left cnt) ∧ Hid (wr.ownsRow w.heap.size 37 5 vv m xs) ∧ Hid (RecCells 5 m xs fun i => (gI i).cells) ∧ Hid (laidIn g ns k (fun s => left (.int .i64 s)) gI) ∧ Hid (Below w.heap.size w wr)) (fun _ wr => wr.rangeLeft M r)
  case atStart => exact ⟨left0, cnt0, xs0, g, HR0, HO5, HC3, HLD, HB5⟩
  case round =>
    clear HR0 HO5 HC3 HLD HB5
    obtain ⟨left, cnt, xs, gI, hrg, hown, hcl, hld, hb⟩ := hrel
    have hsz := hb.out.size
    go_wp2_with (at_next; refine wpList_ptrNext rfl (.tmp 20) rfl 3 kInt Try.underlying3 B O M r k (standS ns k) left cnt rfl hrg.out ?_ ?_)
    · intro hl0
      have HD := Lib.hid (fun i => hld.out.done HP.out (fun s => hl0 _) i)
      go_wp2
      go_ret2
      exact .inr ⟨trivial, _, xs, rfl, hown.out, RecCells.congr hcl.out (fun i hi => by rw [HD.out i]), hb.out⟩
    · intro s j w6 cnt6 hwf hlk hFs hrg6 hlt6 hg6 hs6 hen
      obtain ⟨j', e1, e2, hjk, hser, _⟩ := standS_spec (g := ns) (n := k) (s := s) (by omega)
      obtain rfl : j = j' := by omega
      have hnp := HNP.out j hjk
      have HSTEP : Hid (∀ gI', (∀ i, gI' i = if i = (ns j).game.toNat then (ns j).res else gI i) → laidIn g ns k (fun t => left (.int .i64 t) && !(Lit.int .i64 t).sameKey (.int .i64 s)) gI') := Lib.hid fun gI' hg => by
        refine hld.out.step HNP.out (s := s) (by omega) hlk (by simp [same_int]) (fun t ht => by simp [same_int, ht]) fun i => ?_
        rw [hFs]; simpa using hg i
      have hb6 := Lib.hid (hb.out.grown hg6 hsz (fun q hq => by cases hq; omega))
      have hsz6 := hb6.out.size
      have hvr : ∀ q, vv.ownBlock = some q → q < r := fun q hq => by have h1 := (HIN.out q hq).2; have := HRM.out; omega
      have HO6 := Lib.hid (hown.out.kept hg6 (by
        cases hvo : vv.ownBlock with
        | none => exact .inl rfl
        | some q => exact .inr (fun e => by have := hvr q hvo; cases e; omega)))
      obtain ⟨rfl, _, hnc⟩ := HAT.out (by omega)
      have hq := (hnc j hjk).belowB hb6.out (hnc j hjk).1
      have hqw := (hnc j hjk).1
      have HRG6 := Lib.hid hrg6
      have HLT := Lib.hid hlt6
      have HCL := Lib.hid hcl.out
      generalize ns j = x at *
      obtain ⟨sr, gm, rs⟩ := x
      obtain ⟨t, rfl⟩ : ∃ t : Nat, gm = (t : Int) := ⟨gm.toNat, by have h := hnp.2.1; simp only at h; omega⟩
      have htm : t < m := by have h := hnp.2.1; simp only at h; omega
      simp only [Int.toNat_natCast] at HSTEP
      obtain ⟨gg, gcap, hvv⟩ : ∃ gg gcap, vv = .slice (some ⟨gg, 0, none⟩) m gcap := by
        obtain ⟨gg, gcap, h, _⟩ := HO6.out.form (by omega)
        exact ⟨gg, gcap, h⟩
      subst hvv
      obtain ⟨c0, c1, c2, c3, c4, c5, c6⟩ := note_cells hq
      have hcl0 := hq.1
      have hgw : w.heap.size ≤ gg := (HO6.out.lt gg rfl).1
      have hgs : gg < w6.heap.size := (HO6.out.lt gg rfl).2
      have hgE : gg < w3.heap.size := (HIN.out gg rfl).2
      have HU := Lib.hid (cells_update (t := t) (cs := rs.cells) HCL.out HO6.out.1 htm rfl (fun _ _ => Nat.le_refl _))
      obtain ⟨u0, e0⟩ := owns_cellR HO6.out (t * 5) (by omega)
      have f0 := HO6.out.frozenAt (t * 5)
      obtain ⟨u1, e1⟩ := owns_cellR HO6.out (t * 5 + 1) (by omega)
      have f1 := HO6.out.frozenAt (t * 5 + 1)
      obtain ⟨u2, e2⟩ := owns_cellR HO6.out (t * 5 + 2) (by omega)
      have f2 := HO6.out.frozenAt (t * 5 + 2)
      obtain ⟨u3, e3⟩ := owns_cellR HO6.out (t * 5 + 3) (by omega)
      have f3 := HO6.out.frozenAt (t * 5 + 3)
      obtain ⟨u4, e4⟩ := owns_cellR HO6.out (t * 5 + 4) (by omega)
      have f4 := HO6.out.frozenAt (t * 5 + 4)
      have hBne : B ≠ gg := by omega
      clear hq hnc hnp hcl hld hrg6 hlt6 hlk hFs hg6 hvr hown hb
      go_wp2
      go_region
      all_goals (try go_wp2)
      all_goals go_roundw
      case rel =>
        have b6 : Below w6.heap.size w6 w6 := Below.refl _ _
        have hx := HSTEP.out (fun i => if i = t then rs else gI i) (fun i => rfl)
        have hcongr : ∀ i, i < m → (if i = t then rs.cells else (gI i).cells) = ((fun i => if i = t then rs else gI i) i).cells := fun i _ => by
          by_cases h : i = t <;> simp [h]
        have h5 := (((((HO6.out.stored (t * 5) (Value.int .i64 rs.home)).1.stored (t * 5 + 1) (Value.int .i64 rs.away)).1.stored (t * 5 + 2) (Value.int .i64 rs.hg)).1.stored (t * 5 + 3) (Value.int .i64 rs.ag)).1.stored (t * 5 + 4) (Value.int .i64 rs.st)).1
        have h7 := (Below.setCell (Below.setCell (Below.setCell (Below.setCell (Below.setCell hb6.out (p := ⟨gg, t * 5, none⟩) hgw (Value.int .i64 rs.home)) (p := ⟨gg, t * 5 + 1, none⟩) hgw (Value.int .i64 rs.away)) (p := ⟨gg, t * 5 + 2, none⟩) hgw (Value.int .i64 rs.hg)) (p := ⟨gg, t * 5 + 3, none⟩) hgw (Value.int .i64 rs.ag)) (p := ⟨gg, t * 5 + 4, none⟩) hgw (Value.int .i64 rs.st))
        have hgM : gg ≠ M := by have := HRM.out; omega
        have hgr : gg ≠ r := by have := HRM.out; omega
        have h8 := ((((HRG6.out.setCell hgM hgr (t * 5) (Value.int .i64 rs.home)).setCell hgM hgr (t * 5 + 1) (Value.int .i64 rs.away)).setCell hgM hgr (t * 5 + 2) (Value.int .i64 rs.hg)).setCell hgM hgr (t * 5 + 3) (Value.int .i64 rs.ag)).setCell hgM hgr (t * 5 + 4) (Value.int .i64 rs.st)
        exact ⟨_, cnt6, setsFrom xs (t * 5) rs.cells, _, Lib.hid (h8.below (Below.refl _ _).drew (Nat.le_refl _)), Lib.hid (owns_below h5 (Below.refl _ _).drew (Nat.le_refl _)), Lib.hid (RecCells.congr HU.out hcongr), Lib.hid hx, Lib.hid h7.drew⟩
      case measure =>
        have hgM : gg ≠ M := by have := HRM.out; omega
        have hgr : gg ≠ r := by have := HRM.out; omega
        have h8 := ((((HRG6.out.setCell hgM hgr (t * 5) (Value.int .i64 rs.home)).setCell hgM hgr (t * 5 + 1) (Value.int .i64 rs.away)).setCell hgM hgr (t * 5 + 2) (Value.int .i64 rs.hg)).setCell hgM hgr (t * 5 + 3) (Value.int .i64 rs.ag)).setCell hgM hgr (t * 5 + 4) (Value.int .i64 rs.st)
        have h9 := h8.below (Below.refl _ _).drew (Nat.le_refl _)
        have := HLT.out
        rw [h9.left_eq, hrg.out.left_eq]; omega
end Go.Proofs.Ytojkonhhaamodaa
set_option linter.unusedVariables false
namespace Go.Proofs.Ytojkonhhaamodaa
end Go.Proofs.Ytojkonhhaamodaa
set_option linter.unusedVariables false
namespace Go.Proofs.Ytojkonhhaamodaa
open Go.RowKit

/-- an order of the numbers below k -/
def permL (k : Nat) (L : List Int) : Prop := L.length = k ∧ (∀ x ∈ L, 0 ≤ x ∧ x < k) ∧ (∀ i : Nat, i < k → (i : Int) ∈ L) ∧ L.Nodup
theorem gapA_mem' {α : Type} {L : List α} {j : Nat} {u y : α} : y ∈ gapA L j u ↔ y = u ∨ y ∈ L := by
  refine ⟨gapA_mem, fun h => ?_⟩
  unfold gapA
  rcases h with rfl | h
  · simp
  · rw [← List.take_append_drop j L] at h
    rcases List.mem_append.1 h with h | h
    · exact List.mem_append_left _ h
    · exact List.mem_append_right _ (List.mem_cons_of_mem _ h)
theorem permL.more {k j : Nat} {L : List Int} (h : permL k L) (hj : j ≤ k) : permL (k + 1) (gapA L j (k : Int)) := by
  obtain ⟨h1, h2, h3, h4⟩ := h
  refine ⟨by rw [gapA_len (by omega), h1], fun x hx => ?_, fun i hi => ?_, ?_⟩
  · rcases gapA_mem'.1 hx with rfl | hx
    · omega
    · have := h2 x hx; omega
  · by_cases e : i = k
    · subst e; exact gapA_mem'.2 (.inl rfl)
    · exact gapA_mem'.2 (.inr (h3 i (by omega)))
  · refine gapA_pairwise h4 (fun y hy e => ?_) fun y hy e => ?_
    · have := h2 y hy; omega
    · have := h2 y hy; omega
def OrdS (B : Nat) (a : Option Addr) (len cap : Nat) (g : Nat → Nat) (w0 : World) (v : Value) (n : Nat) (L : List Int) (w : World) : Prop :=
  Cur B a len cap g w ∧ w.ownsRow w0.heap.size 3 1 v n (L.map (Value.int .i64)) ∧ w0.grownBy w (some B) ∧ B < w0.heap.size
section
variable {B : Nat} {a : Option Addr} {len cap : Nat} {g : Nat → Nat} {w0 w w' : World} {v : Value} {n : Nat} {L : List Int}
theorem OrdS.drawn (h : OrdS B a len cap g w0 v n L w) (hc : Cur B a len cap g w') (hg : w.grownBy w' (some B)) : OrdS B a len cap g w0 v n L w' :=
  ⟨hc, owns_drawn h.2.1 h.2.2.2 hg, grown_trans h.2.2.1 hg, h.2.2.2⟩
theorem OrdS.push {gg cc : Nat} {x : Int} (h : OrdS B a len cap g w0 v n L w) (ho : w'.ownsRow w0.heap.size 3 1 (.slice (some ⟨gg, 0, none⟩) (n + 1) cc) (n + 1) (L.map (Value.int .i64) ++ [.int .i64 x])) (hg : w.grownBy w' v.ownBlock) : OrdS B a len cap g w0 (.slice (some ⟨gg, 0, none⟩) (n + 1) cc) (n + 1) (L ++ [x]) w' := by
  have hb : Below w0.heap.size w w' := (Below.refl _ _).grown hg h.2.2.1.size (fun k hk => (h.2.1.lt k hk).1)
  refine ⟨h.1.belowW hb h.2.2.2, by rw [List.map_append]; exact ho, ?_, h.2.2.2⟩
  exact ⟨hb.os.trans h.2.2.1.os, hb.tape.trans h.2.2.1.tape, hb.output.trans h.2.2.1.output, Nat.le_trans h.2.2.1.size hb.size, fun k hk hne => (hb.block k hk).trans (h.2.2.1.block k hk hne)⟩
theorem OrdS.set {gg cc : Nat} (h : OrdS B a len cap g w0 (.slice (some ⟨gg, 0, none⟩) n cc) n L w) (j : Nat) (x : Int) : OrdS B a len cap g w0 (.slice (some ⟨gg, 0, none⟩) n cc) n (L.set j x) (w.setCell ⟨gg, j, none⟩ (.int .i64 x)) := by
  have hb : Below w0.heap.size w (w.setCell ⟨gg, j, none⟩ (.int .i64 x)) := (Below.refl _ _).setCell (h.2.1.lt gg rfl).1 _
  refine ⟨h.1.belowW hb h.2.2.2, by rw [List.map_set]; exact (h.2.1.stored j _).1, ?_, h.2.2.2⟩
  exact ⟨hb.os.trans h.2.2.1.os, hb.tape.trans h.2.2.1.tape, hb.output.trans h.2.2.1.output, Nat.le_trans h.2.2.1.size hb.size, fun k hk hne => (hb.block k hk).trans (h.2.2.1.block k hk hne)⟩
end
def OrdMade (B : Nat) (a : Option Addr) (len cap : Nat) (g : Nat → Nat) (n : Nat) (w : World) (e : Ending) (w' : World) : Prop :=
  ∃ v L, e = .returned v ∧ permL n L ∧ OrdS B a len cap g w v n L w'
set_option maxHeartbeats 2000000 in
set_option maxRecDepth 100000 in
theorem l02Order_any (B : Nat) (a : Option Addr) (len cap : Nat) (g : Nat → Nat) (n : Nat) (w : World) (hc : Cur B a len cap g w) (hn : n ≤ 200) :
    Calls Try.prog 20 #[.pointer (some ⟨B, 0, none⟩), .int .i64 (n : Int)] w (OrdMade B a len cap g n w) := by
  obtain ⟨i0, hi, hz0, hz1, hz2⟩ := info_parts Try.infoI
  have LB := Lib.hid (fun (m : Nat) w1 hc (h1 : 0 < m) (h2 : m ≤ 256) => l01Below_small B a len cap g m w1 hc h1 h2)
  have al : Below w.heap.size w (w.alloc (.cells #[] 3)) := (Below.refl _ _).alloc (Nat.le_refl _) _
  have HS : Hid (OrdS B a len cap g w (.slice (some ⟨w.heap.size, 0, none⟩) 0 0) 0 [] (w.alloc (.cells #[] 3))) :=
    ⟨hc.belowW al hc.ltW, World.ownsRow_lit (e := 3) (size := 1) w #[] 0 (Nat.le_refl _) (by decide) rfl, World.grownBy_alloc w _ _, hc.ltW⟩
  clear al hc
  go_enter Try.func20, Try.ntmps20
  go_wp2
  go_loopw [5, 6] (fun ov iv wr => ∃ (k : Nat) (L : List Int), k ≤ n ∧ iv = .int .i64 k ∧ Hid (permL k L) ∧ Hid (OrdS B a len cap g w ov k L wr)) (fun _ iv _ => n - (intOf iv).toNat)
  case atStart => exact ⟨0, [], Nat.zero_le _, rfl, ⟨rfl, fun x hx => (by cases hx), fun i hi => absurd hi (by omega), List.Pairwise.nil⟩, HS⟩
  case round =>
    clear HS
    obtain ⟨k, L, hk, rfl, HP, HS⟩ := hrel
    obtain ⟨oa, oc, hof⟩ := owns_form HS.out.2.1
    subst hof
    by_cases hlt : k < n
    · obtain ⟨la, hla⟩ : ∃ la : Nat, ((k : Int) + 1) = la := ⟨k + 1, by omega⟩
      have hla0 : 0 < la := by omega
      have hla2 : la ≤ 256 := by omega
      have HLA : Hid (la = k + 1) := by show la = k + 1; omega
      have hlt' : (k : Int) < n := by omega
      go_wp2_with fail
      clear hla
      refine (LB.out la _ HS.out.1 hla0 hla2).mono ?_
      rintro e w2 ⟨at', hat, rfl, c2, g2⟩
      have HS2 := Lib.hid (HS.out.drawn c2 g2)
      have hak : at' ≤ k := by have := HLA.out; omega
      have hsz : w.heap.size ≤ w2.heap.size := HS2.out.2.2.1.size
      have HPL := Lib.hid HP.out.1
      have HP2 := Lib.hid (HP.out.more hak)
      clear c2 g2 HS HLA hla0 hla2 hat HP
      go_wp2_with (at_builtin; refine wpList_pushL rfl (.tmp 19) (.tmp 20) 24 rfl w.heap.size 3 Try.underlying24 hi hz0 hz1 hz2 rfl (by decide) [.int .i64 0] rfl (by intro u hu; simp at hu; subst hu; rfl) rfl (by first | rfl | (show Value.slice (some ⟨_, 0, none⟩) 1 1 = _; simp)) HS2.out.2.1 (by unfold maxLen; omega) (by omega) hsz ?_; intro gg cc w5 o5 g5 at5 lt5; have HS5 := Lib.hid (HS2.out.push o5 g5); clear o5 g5 at5 lt5 HS2)
      go_loopw [8] (fun kk wr => ∃ (i : Nat) (u : Int), at' ≤ i ∧ i ≤ k ∧ kk = .int .i64 i ∧ Hid (OrdS B a len cap g w (.slice (some ⟨gg, 0, none⟩) (k + 1) cc) (k + 1) (gapA L i u) wr)) (fun kk _ => (intOf kk).toNat)
      case atStart => exact ⟨k, 0, hak, Nat.le_refl _, by go_num, Lib.hid (by have := HS5.out; rw [← HPL.out]; rw [gapA_end, HPL.out]; exact this)⟩
      case round =>
        clear HS5
        obtain ⟨i, u, hai, hik, rfl, HSi⟩ := hrel
        by_cases hij : at' < i
        · obtain ⟨i', rfl⟩ : ∃ i', i = i' + 1 := ⟨i - 1, by omega⟩
          obtain ⟨y, hy⟩ : ∃ y, L[i']? = some y := ⟨_, List.getElem?_eq_getElem (by have := HPL.out; omega)⟩
          have c1 := owns_cell HSi.out.2.1 i' (by omega) (u := .int .i64 y) (Lib.hid (by rw [List.getElem?_map, gapA_get (by omega) (by have := HPL.out; omega), hy]; rfl))
          obtain ⟨s1, hs1⟩ := owns_some HSi.out.2.1 (i' + 1) (by omega)
          have c3 := owns_cell HSi.out.2.1 (i' + 1) (by omega) (Lib.hid hs1)
          have f3 := HSi.out.2.1.frozenAt (i' + 1)
          have HN : Hid (OrdS B a len cap g w (.slice (some ⟨gg, 0, none⟩) (k + 1) cc) (k + 1) (gapA L i' y) (wr.setCell ⟨gg, i' + 1, none⟩ (.int .i64 y))) := by
            have := HSi.out.set (i' + 1) y
            rw [gapA_set (by have := HPL.out; omega), gapA_step hy] at this
            exact this
          clear hy hs1
          go_wp2
          go_roundw
          case rel => exact ⟨i', y, by omega, by omega, by go_num, HN⟩
          case measure => simp [intOf]
        · have hij' : at' = i := by omega
          subst hij'
          obtain ⟨s1, hs1⟩ := owns_some HSi.out.2.1 at' (by omega)
          have c3 := owns_cell HSi.out.2.1 at' (by omega) (Lib.hid hs1)
          have f3 := HSi.out.2.1.frozenAt at'
          have HN : Hid (OrdS B a len cap g w (.slice (some ⟨gg, 0, none⟩) (k + 1) cc) (k + 1) (gapA L at' k) (wr.setCell ⟨gg, at', none⟩ (.int .i64 k))) := by
            have := HSi.out.set at' (k : Int)
            rw [gapA_set (by have := HPL.out; omega)] at this
            exact this
          clear hs1
          go_wp2
          go_roundw
          case rel => exact ⟨k + 1, gapA L at' k, by omega, by go_num, HP2, HN⟩
          case measure => simp [intOf]; omega
    · obtain rfl : n = k := by omega
      go_wp2
      go_ret
      exact ⟨_, L, rfl, HP.out, HS.out⟩
/-- an order of n numbers, in memory of the call's own -/
def OrderMade (n : Nat) (w : World) (e : Ending) (w' : World) : Prop := ∃ v L, e = .returned v ∧ permL n L ∧ w'.ownsRow w.heap.size 3 1 v n (L.map (Value.int .i64)) ∧ Below w.heap.size w w'
set_option maxHeartbeats 1000000 in
set_option maxRecDepth 100000 in
theorem makeOrder_any (a : Option Addr) (len cap : Nat) (g : Nat → Nat) (n : Nat) (w : World) (hr : ByteRow w a len g) (hg : ∀ i, g i ≤ 255) (hl : len ≤ 1048576) (h1 : 1 ≤ n) (h2 : n ≤ 90) :
    Calls Try.prog 7 #[.slice a len cap, .int .i64 (n : Int)] w (OrderMade n w) := by
  have C := Lib.hid (l27New_any a len cap 100 g w hr hg hl (by omega))
  have L2 : Hid (∀ B w1, Cur B a len cap g w1 → ∀ z : Int, z = n → Calls Try.prog 20 #[.pointer (some ⟨B, 0, none⟩), .int .i64 z] w1 (OrdMade B a len cap g n w1)) := fun B w1 hc z hz => by subst hz; exact l02Order_any B a len cap g n w1 hc (by omega)
  clear hr hg hl
  go_enter Try.func7, Try.ntmps7
  go_wp2_with fail
  refine C.out.mono ?_
  rintro e w1 ⟨B, rfl, hB, hc, hb⟩
  have HC := Lib.hid hc
  have HB := Lib.hid hb
  have HBB := Lib.hid hB
  clear C hc hb hB
  go_wp2_with fail
  all_goals
    refine (L2.out B _ HC.out _ (by omega)).mono ?_
    rintro e w2 ⟨v, L, rfl, hp, hs⟩
    have HP := Lib.hid hp
    have HO := Lib.hid (owns_mono (base' := w.heap.size) hs.2.1 HB.out.size)
    have HE := Lib.hid (HB.out.grown hs.2.2.1 HB.out.size (fun k hk => by cases hk; exact HBB.out))
    clear hp hs
    go_wp2
    go_ret
    exact ⟨v, L, rfl, HP.out, HO.out, HE.out⟩
end Go.Proofs.Ytojkonhhaamodaa
