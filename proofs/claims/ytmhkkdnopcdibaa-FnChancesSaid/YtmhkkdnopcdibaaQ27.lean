/-
  Packed: DrwImplE, DrwImplF.
-/
import Derived.BigRegion
import Derived.Deep.DeepCutAuto
import Derived.Deep.RegionHeld3
import Derived.Test.YtmhkkdnopcdibaaQ25
import Derived.Test.YtmhkkdnopcdibaaQ26
set_option linter.unusedVariables false
namespace Go.Proofs.Ytmhkkdnopcdibaa
open Go.RowKit

theorem Try.infoTurn : (Try.prog.info? 108).map (fun i => (i.zero, i.size, i.bytes)) = some (some (.agg #[.int .i64 0, .bool false, .bool false]), 3, 16) := by kernel_rfl
def turnC (d : DrwD) (e : Nat → Bool) (i : Nat) : List Value := [.int .i64 (d.cl i), .bool (epB d i), .bool (e i)]
def TurnsAt (w : World) (v : Value) (d : DrwD) : Prop := RecRow 3 w v d.N (turnC d (ecB d))
def DrwMade (w : World) (D : DrwD) (e : Ending) (w' : World) : Prop :=
  ∃ v, e = .returned (.tuple #[.agg #[v, .int .i64 D.G, .int .i64 D.most], .bool true]) ∧ TurnsAt w' v D ∧ Below w.heap.size w w'
def latL (d : DrwD) (s : Nat) : List Value := [.int .i64 (lastB d 0 s : Nat), .int .i64 (lastB d 1 s : Nat), .int .i64 (lastB d 2 s : Nat), .int .i64 (lastB d 3 s : Nat), .int .i64 (lastB d 4 s : Nat), .int .i64 (lastB d 5 s : Nat)]
theorem latL_at (d : DrwD) (s c : Nat) (hc : c < 6) : (latL d s)[c]? = some (.int .i64 (lastB d c s : Nat)) := by
  have : c = 0 ∨ c = 1 ∨ c = 2 ∨ c = 3 ∨ c = 4 ∨ c = 5 := by omega
  rcases this with rfl | rfl | rfl | rfl | rfl | rfl <;> rfl
theorem latL_next (d : DrwD) (s : Nat) (hc : d.cl s < 6) : latL d (s + 1) = (latL d s).set (d.cl s) (.int .i64 (s : Nat)) := by
  apply List.ext_getElem?
  intro c
  by_cases h6 : c < 6
  · rw [latL_at d _ c h6]
    by_cases e : d.cl s = c
    · rw [e, List.getElem?_set_self (by show c < 6; exact h6)]
      show some (Value.int .i64 ((if d.cl s = c then s else lastB d c s : Nat) : Int)) = _
      rw [if_pos e]
    · rw [List.getElem?_set_ne e, latL_at d s c h6]
      show some (Value.int .i64 ((if d.cl s = c then s else lastB d c s : Nat) : Int)) = _
      rw [if_neg e]
  · rw [List.getElem?_eq_none (by show 6 ≤ c; omega), List.getElem?_eq_none (by rw [List.length_set]; show 6 ≤ c; omega)]
structure TurI (w1 : World) (X : Nat) (d : DrwD) (gr most : Int) (s : Nat) (v : Value) (w : World) : Prop where
  box : BoxF w X [v, .int .i64 gr, .int .i64 most]
  lat : BoxF w (X + 1) (latL d s)
  own : w.ownsRow (X + 2) 108 3 v s (flatR (turnC d fun _ => false) s)
  bel : Below X w1 w
section
variable {w1 : World} {X : Nat} {d : DrwD} {gr most : Int} {s : Nat} {v : Value} {w : World}
theorem TurI.mark (h : TurI w1 X d gr most s v w) (hc : d.cl s < 6) : BoxF (w.setCell ⟨X + 1, d.cl s, none⟩ (.int .i64 (s : Nat))) X [v, .int .i64 gr, .int .i64 most] ∧ BoxF (w.setCell ⟨X + 1, d.cl s, none⟩ (.int .i64 (s : Nat))) (X + 1) (latL d (s + 1)) ∧
    (w.setCell ⟨X + 1, d.cl s, none⟩ (.int .i64 (s : Nat))).ownsRow (X + 2) 108 3 v s (flatR (turnC d fun _ => false) s) ∧ Below X w1 (w.setCell ⟨X + 1, d.cl s, none⟩ (.int .i64 (s : Nat))) := by
  refine ⟨h.box.other _ _ (by omega), ?_, owns_low h.own _ _ (by omega), below_setD h.bel ⟨X + 1, d.cl s, none⟩ _ (by show X ≤ X + 1; omega)⟩
  rw [latL_next d s hc]
  exact h.lat.set _ _ hc
theorem TurI.push {w5 w6 : World} {v' : Value} (hb : BoxF w5 X [v, .int .i64 gr, .int .i64 most]) (hl : BoxF w5 (X + 1) (latL d (s + 1))) (ho : w5.ownsRow (X + 2) 108 3 v s (flatR (turnC d fun _ => false) s)) (hbel : Below X w1 w5)
    (hg : w5.grownBy w6 v.ownBlock) (ho6 : w6.ownsRow (X + 2) 108 3 v' (s + 1) (flatR (turnC d fun _ => false) s ++ turnC d (fun _ => false) s)) :
    TurI w1 X d gr most (s + 1) v' (w6.setCell ⟨X, 0, none⟩ v') ∧ w6.cell? ⟨X, 0, none⟩ = some v ∧ w6.frozen? ⟨X, 0, none⟩ = false := by
  have hX5 : X ≤ w5.heap.size := Nat.le_of_lt hb.1
  have hb6 : BoxF w6 X [v, .int .i64 gr, .int .i64 most] := hb.grown hg fun e => by have := (ho.lt _ e).1; omega
  have hl6 : BoxF w6 (X + 1) (latL d (s + 1)) := hl.grown hg fun e => by have := (ho.lt _ e).1; omega
  refine ⟨⟨hb6.set 0 v' (by simp), hl6.other _ _ (by omega), ?_, below_setD (hbel.grown hg hX5 (fun q hq => by have := (ho.lt _ hq).1; omega)) ⟨X, 0, none⟩ _ (Nat.le_refl _)⟩, hb6.2 0 _ rfl⟩
  have e : flatR (turnC d fun _ => false) (s + 1) = flatR (turnC d fun _ => false) s ++ turnC d (fun _ => false) s := by unfold flatR; rw [List.range_succ, List.flatMap_append]; simp
  rw [e]
  exact owns_low ho6 _ _ (by omega)
end
structure TurE (w1 : World) (X : Nat) (d : DrwD) (gr most : Int) (v : Value) (i : Nat) (xs : List Value) (w : World) : Prop where
  box : BoxF w X [v, .int .i64 gr, .int .i64 most]
  lat : BoxF w (X + 1) (latL d d.N)
  own : w.ownsRow (X + 2) 108 3 v d.N xs
  cels : RecCells 3 d.N xs (turnC d fun j => decide (j < i) && ecB d j)
  bel : Below X w1 w
section
variable {w1 : World} {X : Nat} {d : DrwD} {gr most : Int} {i : Nat} {v : Value} {w : World} {xs : List Value}
theorem TurE.keep {w2 : World} (h : TurE w1 X d gr most v i xs w) (b : Below w.heap.size w w2) : TurE w1 X d gr most v i xs w2 :=
  ⟨h.box.below b, h.lat.below b, owns_below h.own b (Nat.le_refl _), h.cels, h.bel.trans (b.mono (Nat.le_of_lt h.box.1))⟩
theorem TurE.cells {g cap : Nat} (h : TurE w1 X d gr most (.slice (some ⟨g, 0, none⟩) d.N cap) i xs w) (hi : i < d.N) :
    w.cell? ⟨g, i * 3, none⟩ = some (.int .i64 (d.cl i)) ∧ w.cell? ⟨g, i * 3 + 1, none⟩ = some (.bool (epB d i)) ∧ w.cell? ⟨g, i * 3 + 2, none⟩ = some (.bool false) ∧ w.frozen? ⟨g, i * 3 + 2, none⟩ = false := by
  have hl := h.own.1
  have h0 := h.cels i hi 0 _ rfl
  have h1 := h.cels i hi 1 _ rfl
  have h2 := h.cels i hi 2 _ rfl
  refine ⟨?_, ?_, ?_, h.own.frozenAt _⟩
  · rw [h.own.cellAt _ (by omega)]; exact h0
  · rw [h.own.cellAt _ (by omega)]; exact h1
  · rw [h.own.cellAt _ (by omega), h2]
    simp
theorem TurE.put {g cap : Nat} (h : TurE w1 X d gr most (.slice (some ⟨g, 0, none⟩) d.N cap) i xs w) (hi : i < d.N) :
    TurE w1 X d gr most (.slice (some ⟨g, 0, none⟩) d.N cap) (i + 1) (xs.set (i * 3 + 2) (.bool (ecB d i))) (w.setCell ⟨g, i * 3 + 2, none⟩ (.bool (ecB d i))) := by
  have hg := (h.own.lt g rfl).1
  refine ⟨h.box.other _ _ (by omega), h.lat.other _ _ (by omega), (h.own.stored _ _).1, fun j hj k u hu => ?_, below_setD h.bel ⟨g, i * 3 + 2, none⟩ _ (by show X ≤ g; omega)⟩
  have hl := h.own.1
  have hk : k < 3 := (List.getElem?_eq_some_iff.1 hu).1
  by_cases e : j * 3 + k = i * 3 + 2
  · have e1 : j = i := by omega
    have e2 : k = 2 := by omega
    subst e1 e2
    rw [List.getElem?_set_self (by omega)]
    have hu' : some (Value.bool (decide (j < j + 1) && ecB d j)) = some u := hu
    rw [← hu']
    simp
  · rw [List.getElem?_set_ne (by omega)]
    refine h.cels j hj k u ?_
    rw [← hu]
    have hk3 : k = 0 ∨ k = 1 ∨ k = 2 := by omega
    rcases hk3 with rfl | rfl | rfl
    · rfl
    · rfl
    · have hne : j ≠ i := by omega
      show some (Value.bool (decide (j < i) && ecB d j)) = some (Value.bool (decide (j < i + 1) && ecB d j))
      rw [show decide (j < i + 1) = decide (j < i) from decide_eq_decide.2 (by omega)]
end
theorem TurI.done {w1 : World} {X : Nat} {d : DrwD} {gr most : Int} {v : Value} {w : World} (h : TurI w1 X d gr most d.N v w) : TurE w1 X d gr most v 0 (flatR (turnC d fun _ => false) d.N) w :=
  ⟨h.box, h.lat, h.own, flatR_cells 3 _ _ fun _ _ => rfl, h.bel⟩
theorem TurE.done {w1 : World} {X : Nat} {d : DrwD} {gr most : Int} {v : Value} {w : World} {xs : List Value} (h : TurE w1 X d gr most v d.N xs w) (hN : d.N ≤ 8) : TurnsAt w v d :=
  RecRow.of_owns h.own (by omega) (h.cels.congr fun i hi => by unfold turnC; simp [hi]) fun i hi => Nat.le_refl _
theorem RecRow.low {k : Nat} {w : World} {v : Value} {n base : Nat} {g : Nat → List Value} (h : RecRow k w v n g) (hv : ∀ q, v.ownBlock = some q → q ≠ base) (u : Value) (j : Nat) : RecRow k (w.setCell ⟨base, j, none⟩ u) v n g :=
  h.frame (fun _ q hq _ => Below.heap_setCell _ _ _ _ (hv q hq)) (by simp [World.setCell])
theorem team_cellD {w : World} {fa : Option Addr} {nf fc : Nat} {F : Nat → TeamD} (h : TeamRow w (.slice fa nf fc) nf F) {t : Nat} (ht : t < nf) :
    ∃ b off, fa = some ⟨b, off, none⟩ ∧ nf ≤ fc ∧ w.cell? ⟨b, off + t * 3 + 1, none⟩ = some (.int .i64 (F t).club) := by
  rcases h with ⟨_, _, _, h0⟩ | ⟨b, off, cap, h1, _, _, hc, hcap⟩
  · omega
  · simp only [Value.slice.injEq] at h1
    obtain ⟨rfl, _, rfl⟩ := h1
    exact ⟨b, off, rfl, hcap, (hc t ht).2.1⟩
set_option maxRecDepth 100000 in
set_option maxHeartbeats 4000000 in
theorem drawingOf_no (vf : Value) (nf : Nat) (F : Nat → TeamD) (vp : Value) (gr most : Int) (T : List (List Int)) (w : World) (hp : ¬ potsP nf F T gr most) (hf : TeamRow w vf nf F) (hs : ∀ i, (F i).nm.size ≤ maxLen) (h : RdA tIntSS w [vp] T) (hw : tIntSS.wt T ≤ 1048576) :
    Calls Try.prog 43 #[vf, .agg #[vp, .int .i64 gr, .int .i64 most]] w fun e w' => e = .returned (.tuple #[.agg #[.slice none 0 0, .int .i64 0, .int .i64 0], .bool false]) ∧ Below w.heap.size w w' := by
  obtain ⟨pa, pc, rfl, hpn⟩ := pots_form h
  obtain ⟨fa, fc, rfl, hfn, _⟩ := hf.form
  obtain ⟨U, hU⟩ : ∃ U, w.alloc (.cells #[.slice pa (List.length (α := List Int) T) pc, .int .i64 gr, .int .i64 most] 26) = U := ⟨_, rfl⟩
  have bU : Below w.heap.size w U := by rw [← hU]; exact (Below.refl _ _).alloc (Nat.le_refl _) _
  have HS : Hid (PotsAt U w.heap.size pa (List.length (α := List Int) T) pc gr most T) := by rw [← hU]; exact PotsAt.made h
  have hzU : U.heap.size = w.heap.size + 1 := by rw [← hU]; simp
  obtain ⟨V, hV⟩ : ∃ V, U.alloc (.cells #[.slice none 0 0, .int .i64 0, .int .i64 0] 61) = V := ⟨_, rfl⟩
  have bV : Below U.heap.size U V := by rw [← hV]; exact (Below.refl _ _).alloc (Nat.le_refl _) _
  have HX : Hid (BoxF V U.heap.size [.slice none 0 0, .int .i64 0, .int .i64 0]) := by rw [← hV]; exact BoxF.made (Below.refl _ _) rfl
  have HV : Hid (PotsAt V w.heap.size pa (List.length (α := List Int) T) pc gr most T) := HS.out.below bV
  have HB : Hid (Below w.heap.size w V) := bU.trans (bV.mono bU.size)
  have CF := Lib.hid (potsOk_impl (.slice fa nf fc) nf F (.slice pa (List.length (α := List Int) T) pc) gr most T false V ⟨(fun h => by cases h), fun h => absurd h hp⟩ (hf.below HB.out (Nat.le_refl _)) hs HV.out.2 hw)
  generalize List.length (α := List Int) T = np at *
  have c0 := HV.out.1.2 0 _ rfl
  have c1 := HV.out.1.2 1 _ rfl
  have c2 := HV.out.1.2 2 _ rfl
  have HZU := Lib.hid hzU
  clear hzU h hf bU hw hs hp HS bV
  go_enter Try.func43, Try.ntmps43
  go_wp2_with fail
  clear hU hV c0 c1 c2
  refine CF.out.mono ?_
  rintro e w1 ⟨rfl, b⟩
  have HX1 := Lib.hid (HX.out.below b)
  have HB1 := Lib.hid (HB.out.trans (b.mono HB.out.size))
  clear b CF HX HB HV
  have q0 := (HX1.out.2 0 _ rfl).1
  have r0 := (HX1.out.2 0 _ rfl).2
  have q1 := (HX1.out.2 1 _ rfl).1
  have r1 := (HX1.out.2 1 _ rfl).2
  have q2 := (HX1.out.2 2 _ rfl).1
  have r2 := (HX1.out.2 2 _ rfl).2
  have hlt : U.heap.size < w1.heap.size := HX1.out.1
  have hlu : w.heap.size ≤ U.heap.size := by have := HZU.out; omega
  go_wp2
  refine bodyPost_ret (v := .tuple #[.agg #[.slice none 0 0, .int .i64 0, .int .i64 0], .bool false]) (by simp [results, Try.results43, go_sem, q0, q1, q2]) rfl ⟨by first | rfl | trivial, ?_⟩
  iterate 3 (refine Below.setCell ?_ (by simp only; omega) _)
  exact HB1.out
set_option maxRecDepth 100000 in
set_option maxHeartbeats 8000000 in
theorem drawingOf_yes (vf : Value) (nf : Nat) (F : Nat → TeamD) (vp : Value) (gr most : Int) (T : List (List Int)) (w : World) (hp : potsP nf F T gr most) (hf : TeamRow w vf nf F) (hs : ∀ i, (F i).nm.size ≤ maxLen) (h : RdA tIntSS w [vp] T) (hw : tIntSS.wt T ≤ 1048576) :
    Calls Try.prog 43 #[vf, .agg #[vp, .int .i64 gr, .int .i64 most]] w (DrwMade w (drwD F T gr most)) := by
  obtain ⟨i0, hi, hz0, hz1, hz2⟩ := info_parts Try.infoTurn
  obtain ⟨pa, pc, rfl, hpn⟩ := pots_form h
  obtain ⟨fa, fc, rfl, hfn, _⟩ := hf.form
  obtain ⟨U, hU⟩ : ∃ U, w.alloc (.cells #[.slice pa (List.length (α := List Int) T) pc, .int .i64 gr, .int .i64 most] 26) = U := ⟨_, rfl⟩
  have bU : Below w.heap.size w U := by rw [← hU]; exact (Below.refl _ _).alloc (Nat.le_refl _) _
  have HS : Hid (PotsAt U w.heap.size pa (List.length (α := List Int) T) pc gr most T) := by rw [← hU]; exact PotsAt.made h
  have hzU : U.heap.size = w.heap.size + 1 := by rw [← hU]; simp
  obtain ⟨V, hV⟩ : ∃ V, U.alloc (.cells #[.slice none 0 0, .int .i64 0, .int .i64 0] 61) = V := ⟨_, rfl⟩
  have bV : Below U.heap.size U V := by rw [← hV]; exact (Below.refl _ _).alloc (Nat.le_refl _) _
  have HX : Hid (BoxF V U.heap.size [.slice none 0 0, .int .i64 0, .int .i64 0]) := by rw [← hV]; exact BoxF.made (Below.refl _ _) rfl
  have HV : Hid (PotsAt V w.heap.size pa (List.length (α := List Int) T) pc gr most T) := HS.out.below bV
  have HB : Hid (Below w.heap.size w V) := bU.trans (bV.mono bU.size)
  have HF : Hid (TeamRow V (.slice fa nf fc) nf F) := hf.below HB.out (Nat.le_refl _)
  have CF := Lib.hid (potsOk_impl (.slice fa nf fc) nf F (.slice pa (List.length (α := List Int) T) pc) gr most T true V ⟨fun _ => hp, fun _ => rfl⟩ HF.out hs HV.out.2 hw)
  have HP := Lib.hid hp
  have HN8 : Hid (∀ k, ((T.take k).flatten).length ≤ 8) := fun k => Nat.le_trans (flat_takeD k) (pots_small hp)
  obtain ⟨np, hnp⟩ : ∃ np, List.length (α := List Int) T = np := ⟨_, rfl⟩
  have HNP := Lib.hid hnp
  rw [hnp] at hpn HV CF hU
  have c0 := HV.out.1.2 0 _ rfl
  have c1 := HV.out.1.2 1 _ rfl
  have c2 := HV.out.1.2 2 _ rfl
  have HZU := Lib.hid hzU
  clear hzU h hf bU hw hs HS bV hnp
  rw [HNP.out]
  have HCL : Hid (∀ (k i : Nat) (r : List Int), T[k]? = some r → i < r.length → ∃ t : Nat, getI r i = t ∧ t < nf ∧ (F t).club = ((drwD F T gr most).cl (((T.take k).flatten).length + i) : Int) ∧ (drwD F T gr most).cl (((T.take k).flatten).length + i) < 6) := fun k i r h1 h2 => cl_at hp h1 h2
  have HEP : Hid (∀ (k i : Nat) (r : List Int), T[k]? = some r → i < r.length → epB (drwD F T gr most) (((T.take k).flatten).length + i) = decide (i = r.length - 1)) := fun k i r h1 h2 => ep_last (pots_ne hp) h1 h2
  have HDG : Hid (((drwD F T gr most).G : Int) = gr) := by show (gr.toNat : Int) = gr; have := hp.2.1; omega
  have HDM : Hid ((drwD F T gr most).most = most) := rfl
  have HDN : Hid ((drwD F T gr most).N = ((T.take np).flatten).length) := by show T.flatten.length = _; rw [List.take_of_length_le (by rw [HNP.out]; exact Nat.le_refl _)]
  have HCN : Hid (∀ i, i < (drwD F T gr most).N → (drwD F T gr most).cl i < 6) := fun i h9 => cl_lt hp h9
  clear hp
  obtain ⟨d, hd⟩ : ∃ d, drwD F T gr most = d := ⟨_, rfl⟩
  rw [hd] at HCL HEP HDG HDM HDN HCN ⊢
  clear hd
  go_enter Try.func43, Try.ntmps43
  go_wp2_with fail
  clear hU hV c0 c1 c2
  refine CF.out.mono ?_
  rintro e w1 ⟨rfl, b⟩
  have HX1 := Lib.hid (HX.out.below b)
  have HV1 := Lib.hid (HV.out.below b)
  have HF1 := Lib.hid (HF.out.below b (Nat.le_refl _))
  have HB1 := Lib.hid (HB.out.trans (b.mono HB.out.size))
  clear b CF HX HB HV HF
  have c0 := HV1.out.1.2 0 _ rfl
  have c1 := HV1.out.1.2 1 _ rfl
  have c2 := HV1.out.1.2 2 _ rfl
  obtain ⟨X, hX⟩ : ∃ X, w1.heap.size = X := ⟨_, rfl⟩
  obtain ⟨w2, hw2⟩ : ∃ w2, (w1.alloc (.cells #[.slice none 0 0, .int .i64 gr, .int .i64 most] 61)).alloc (.cells #[.int .i64 0, .int .i64 0, .int .i64 0, .int .i64 0, .int .i64 0, .int .i64 0] 106) = w2 := ⟨_, rfl⟩
  have P0 : Hid (TurI w1 X d gr most 0 (.slice none 0 0) w2) := by
    rw [← hX, ← hw2]
    exact ⟨(BoxF.made (Below.refl _ _) rfl).below ((Below.refl _ _).alloc (Nat.le_refl _) _), BoxF.made (Below.refl _ _) (by simp), World.ownsRow_nil _ _ _ _, ((Below.refl w1.heap.size w1).alloc (Nat.le_refl _) _).alloc (by simp) _⟩
  have hXU : U.heap.size < X := by rw [← hX]; exact HX1.out.1
  have hXw : w.heap.size < X := by rw [← hX]; exact HV1.out.1.1
  have HVW : Hid (∀ wa s v, TurI w1 X d gr most s v wa → PotsAt wa w.heap.size pa np pc gr most T ∧ TeamRow wa (.slice fa nf fc) nf F) := fun wa s v h => by
    have hb := h.bel
    rw [← hX] at hb
    refine ⟨?_, HF1.out.below hb (Nat.le_refl _)⟩
    have h9 := HV1.out
    rw [← HNP.out] at h9 ⊢
    exact h9.below hb
  have HXX := Lib.hid hX
  go_upto_region 5 with fail
  clear c0 c1 c2 hw2
  have HBX : Hid (∀ wa s v, TurI w1 X d gr most s v wa → Below w1.heap.size w1 wa) := fun wa s v h => by rw [hX]; exact h.bel
  clear hX
  have c0 := (HVW.out _ _ _ P0.out).1.1.2 0 _ rfl
  go_wp2
  clear c0
  go_loopw [28] (fun iv wr => ∃ (k : Nat) (v : Value), k ≤ np ∧ iv = .int .i64 k ∧ Hid (TurI w1 X d gr most ((T.take k).flatten).length v wr)) (fun iv _ => np - (RowKit.intOf iv).toNat)
  case atStart => exact ⟨0, _, Nat.zero_le _, rfl, P0⟩
  case round =>
    clear P0
    obtain ⟨k, v, hk9, rfl, HPI⟩ := hrel
    by_cases hlt : k < np
    · obtain ⟨r, hr⟩ : ∃ r : List Int, T[k]? = some r := ⟨_, List.getElem?_eq_getElem (by rw [HNP.out]; exact hlt)⟩
      obtain ⟨b, off, x, rc, rfl, hcap, q9, hrr, hr63⟩ := pot_cells (by rw [HNP.out]; exact HV1.out.2) hr
      have q0 := ((HBX.out _ _ _ HPI.out).cell (p := ⟨b, off + k, none⟩) (World.block_lt_of_cell? w1 _ q9)).trans q9
      rw [HNP.out] at hcap
      have hj1 : (k : Int) < (np : Int) := by omega
      have HVN := Lib.hid (lenSum_take hr)
      have hs8 := HN8.out (k + 1)
      rw [HVN.out] at hs8
      have HCR : Hid (∀ i, i < r.length → ∃ t : Nat, getI r i = t ∧ t < nf ∧ (F t).club = (d.cl (((T.take k).flatten).length + i) : Int) ∧ d.cl (((T.take k).flatten).length + i) < 6) := fun i hi => HCL.out k i r hr hi
      have HER : Hid (∀ i, i < r.length → epB d (((T.take k).flatten).length + i) = decide (i = r.length - 1)) := fun i hi => HEP.out k i r hr hi
      have HRR := Lib.hid hrr
      clear hrr hr q9
      obtain ⟨s, hs⟩ : ∃ s, ((T.take k).flatten).length = s := ⟨_, rfl⟩
      rw [hs] at hs8 HVN HCR HER HPI
      clear hs
      obtain ⟨m, hm⟩ : ∃ m, r.length = m := ⟨_, rfl⟩
      rw [hm] at q0 hr63 hs8 HVN HCR HER HRR
      clear hm
      go_wp2
      clear q0
      generalize wr = wo at *
      go_loopw [34] (fun jv wr => ∃ (j : Nat) (v : Value), j ≤ m ∧ jv = .int .i64 j ∧ Hid (TurI w1 X d gr most (s + j) v wr)) (fun jv _ => m - (RowKit.intOf jv).toNat)
      case atStart => exact ⟨0, v, Nat.zero_le _, rfl, HPI⟩
      case round =>
        clear HPI
        obtain ⟨j, v, hj9, rfl, HPJ⟩ := hrel
        by_cases hlt2 : j < m
        · have hj2 : (j : Int) < (m : Int) := by omega
          obtain ⟨b1, off1, rfl, hcap1, q1⟩ := int_at (HRR.out.below (HBX.out _ _ _ HPJ.out) (Nat.le_refl _)) hlt2
          obtain ⟨t, ht, htn, hcl, hc6⟩ := HCR.out j hlt2
          obtain ⟨b2, off2, rfl, hcap2, q2⟩ := team_cellD (HVW.out _ _ _ HPJ.out).2 htn
          have HEj := Lib.hid (HER.out j hlt2)
          rw [ht] at q1
          rw [hcl] at q2
          have htn2 : (t : Int) < (nf : Int) := by omega
          obtain ⟨u, hu⟩ : ∃ u, s + j = u := ⟨_, rfl⟩
          have HU := Lib.hid hu
          rw [hu] at HPJ q2 hc6 HEj
          clear ht hcl hu
          obtain ⟨va, vc, hvf⟩ := owns_form HPJ.out.own
          subst hvf
          have c0 := (HPJ.out.box.2 0 _ rfl).1
          have HMK := Lib.hid (HPJ.out.mark hc6)
          obtain ⟨c3, f3⟩ := HPJ.out.lat.2 (d.cl u) _ (latL_at d u _ hc6)
          have HTC : Hid ([Value.int .i64 (d.cl u), .bool (epB d u), .bool false] = turnC d (fun _ => false) u) := rfl
          obtain ⟨c, hc⟩ : ∃ c, d.cl u = c := ⟨_, rfl⟩
          rw [hc] at q2 hc6 HMK c3 f3 HTC
          have hc6' : (c : Int) < 6 := by omega
          have hzr : X < wr.heap.size := HPJ.out.box.1
          have hzr1 : X + 1 < wr.heap.size := HPJ.out.lat.1
          have hu8 : u < 8 := by have := HU.out; omega
          go_upto_region 13 with fail
          clear c0 c3 f3 q1 q2
          generalize wr.setCell ⟨X + 1, c, none⟩ (.int .i64 (u : Int)) = w5 at *
          have c0 := (HMK.out.1.2 0 _ rfl).1
          have g1 : ((j : Int) == (m : Int) - 1) = epB d u := by rw [HEj.out, Bool.eq_iff_iff]; simp; omega
          clear HEj
          obtain ⟨eb, heb⟩ : ∃ eb, epB d u = eb := ⟨_, rfl⟩
          rw [heb] at g1 HTC
          have hz5 : X + 2 ≤ w5.heap.size := HMK.out.2.1.1
          have hz5' : X < w5.heap.size := by omega
          clear heb
          go_wp2_with (at_builtin; refine wpList_pushL rfl (.tmp 50) (.tmp 58) 59 rfl (X + 2) 108 Try.underlying59 hi hz0 hz1 hz2 rfl (by decide) [.int .i64 c, .bool eb, .bool false] rfl (by intro u hu; simp at hu; rcases hu with rfl | rfl | rfl <;> rfl) rfl (by show Value.slice (some ⟨_, 0, none⟩) 1 1 = _; simp) HMK.out.2.2.1 (by unfold maxLen; omega) (by omega) hz5 ?_; intro gg6 cc6 w6 o6 g6 at6 lt6; rw [HTC.out] at o6; have S9 := TurI.push HMK.out.1 HMK.out.2.1 HMK.out.2.2.1 HMK.out.2.2.2 g6 o6; have S8 := Lib.hid S9.1; have n0 := S9.2.1; have n1 := S9.2.2; clear S9 o6 g6 at6)
          go_roundw
          case rel => exact ⟨j + 1, _, by omega, by go_num, by rw [show s + (j + 1) = u + 1 by have := HU.out; omega]; exact S8⟩
          case measure => simp [RowKit.intOf]; omega
        obtain rfl : j = m := by omega
        go_wp2
        go_roundw
        case rel => exact ⟨k + 1, v, by omega, by go_num, by rw [HVN.out]; exact HPJ⟩
        case measure => simp [RowKit.intOf]; omega
    obtain rfl : k = np := by omega
    have hN8 : d.N ≤ 8 := by rw [HDN.out]; exact HN8.out k
    rw [← HDN.out] at HPI
    have HE0 := Lib.hid HPI.out.done
    clear HPI HCL HEP HN8 HVW HBX HP
    obtain ⟨va, vc, hvf⟩ := owns_form HE0.out.own
    subst hvf
    have c0 := (HE0.out.box.2 0 _ rfl).1
    go_wp2
    clear c0
    generalize wr = wo at *
    go_loopw [66] (fun iv wr => ∃ (i : Nat) (xs : List Value), i ≤ d.N ∧ iv = .int .i64 i ∧ Hid (TurE w1 X d gr most (.slice va d.N vc) i xs wr)) (fun iv _ => d.N - (RowKit.intOf iv).toNat)
    case atStart => exact ⟨0, _, Nat.zero_le _, rfl, HE0⟩
    case round =>
      clear HE0
      obtain ⟨i, xs, hi9, rfl, HE⟩ := hrel
      by_cases hlt3 : i < d.N
      · have hj3 : (i : Int) < (d.N : Int) := by omega
        obtain ⟨g, vcap, hvv⟩ : ∃ g vcap, Value.slice va d.N vc = .slice (some ⟨g, 0, none⟩) d.N vcap ∧ d.N ≤ vcap := by
          rcases HE.out.own.2 with ⟨_, h0⟩ | ⟨g, cap, cur, h1, _, _, hc, _⟩
          · omega
          · exact ⟨g, cap, h1, hc⟩
        simp only [Value.slice.injEq, true_and] at hvv
        obtain ⟨⟨rfl, rfl⟩, hcap⟩ := hvv
        have HEN := Lib.hid (HE.out.put hlt3)
        obtain ⟨k0, k1, k2, k3⟩ := HE.out.cells hlt3
        have hcn := HCN.out i hlt3
        have hzr : X + 1 < wr.heap.size := HE.out.lat.1
        have hgz : g < wr.heap.size := (HE.out.own.lt g rfl).2
        obtain ⟨w4, hw4⟩ : ∃ w4, wr.alloc (.cells #[.int .i64 (d.cl i), .bool (epB d i), .bool false] 108) = w4 := ⟨_, rfl⟩
        have b4 : Below wr.heap.size wr w4 := by rw [← hw4]; exact (Below.refl _ _).alloc (Nat.le_refl _) _
        have HB4 : Hid (BoxF w4 wr.heap.size [.int .i64 (d.cl i), .bool (epB d i), .bool false]) := by rw [← hw4]; exact BoxF.made (Below.refl _ _) rfl
        have HE4 := Lib.hid (HE.out.keep b4)
        have HEN4 := Lib.hid (HE4.out.put hlt3)
        have g3 := ec_last hlt3
        have c3 := (HE4.out.lat.2 (d.cl i) _ (latL_at d d.N _ hcn)).1
        have c0 := (HE.out.box.2 0 _ rfl).1
        have n0 := (HE4.out.box.2 0 _ rfl).1
        have n1 := (HB4.out.2 0 _ rfl).1
        have e0 := (HB4.out.2 0 _ rfl).2
        have e1 := (HB4.out.2 1 _ rfl).2
        have e2 := (HB4.out.2 2 _ rfl).2
        obtain ⟨m0, m1, m2, m3⟩ := HE4.out.cells hlt3
        obtain ⟨c, hc⟩ : ∃ c, d.cl i = c := ⟨_, rfl⟩
        obtain ⟨ep, hep⟩ : ∃ ep, epB d i = ep := ⟨_, rfl⟩
        obtain ⟨ec, hec⟩ : ∃ ec, ecB d i = ec := ⟨_, rfl⟩
        rw [hc] at g3 c3 n1 k0 hcn hw4
        rw [hep] at k1 hw4
        rw [hec] at g3 HEN4
        obtain ⟨lb, hlb⟩ : ∃ lb, lastB d c d.N = lb := ⟨_, rfl⟩
        rw [hlb] at g3 c3
        have hcn2 : (c : Int) < 6 := by omega
        have hz4 : X + 1 < w4.heap.size := HE4.out.lat.1
        have hz4' : X < w4.heap.size := by omega
        have hz4g : g < w4.heap.size := (HE4.out.own.lt g rfl).2
        have hz4d : wr.heap.size < w4.heap.size := HB4.out.1
        have HW4 := Lib.hid hw4
        clear hc hep hec hlb b4 HEN HB4 HE4 m0 m1 hw4
        go_upto_region 19 with fail
        rw [HW4.out]
        clear HW4 c0 k0 k1 k2 k3 e0 e1 e2
        generalize wr.heap.size = D at *
        go_wp2_with fail
        go_region
        go_wp2
        go_roundw
        case rel => exact ⟨i + 1, _, by omega, by go_num, HEN4.out.keep (Below.refl _ _).drew⟩
        case measure => simp [RowKit.intOf]; omega
      obtain rfl : i = d.N := by omega
      have HTA := Lib.hid (HE.out.done hN8)
      have c0 := (HE.out.box.2 0 _ rfl).1
      have c1 := (HE.out.box.2 1 _ rfl).1
      have c2 := (HE.out.box.2 2 _ rfl).1
      have HX9 : Hid (BoxF wr U.heap.size [.slice none 0 0, .int .i64 0, .int .i64 0]) := HX1.out.below (by have h9 := HE.out.bel; rw [← HXX.out] at h9; exact h9)
      have HB9 : Hid (Below w.heap.size w wr) := HB1.out.trans (by have h9 := HE.out.bel; rw [← HXX.out] at h9; exact h9.mono HB1.out.size)
      have HOW : Hid (∀ q, (Value.slice va d.N vc).ownBlock = some q → q ≠ U.heap.size) := fun q hq => by have := (HE.out.own.lt q hq).1; omega
      have q0 := (HX9.out.2 0 _ rfl).1
      have r0 := (HX9.out.2 0 _ rfl).2
      have q1 := (HX9.out.2 1 _ rfl).1
      have r1 := (HX9.out.2 1 _ rfl).2
      have q2 := (HX9.out.2 2 _ rfl).1
      have r2 := (HX9.out.2 2 _ rfl).2
      have hlt9 : U.heap.size < wr.heap.size := HX9.out.1
      have hlu : w.heap.size ≤ U.heap.size := by have := HZU.out; omega
      clear HE HX9 HX1
      go_wp2
      refine bodyPost_ret (v := .tuple #[.agg #[.slice va d.N vc, .int .i64 gr, .int .i64 most], .bool true]) (by simp [results, Try.results43, go_sem, q0, q1, q2]) rfl ⟨.slice va d.N vc, by rw [HDG.out, HDM.out], ?_, ?_⟩
      · exact RecRow.low (RecRow.low (RecRow.low HTA.out HOW.out _ _) HOW.out _ _) HOW.out _ _
      · iterate 3 (refine Below.setCell ?_ (by simp only; omega) _)
        exact HB9.out
end Go.Proofs.Ytmhkkdnopcdibaa
set_option linter.unusedVariables false
namespace Go.Proofs.Ytmhkkdnopcdibaa
open Go.RowKit

theorem Whole.grown {w w' : World} {B : Nat} {cs : Array Value} {t : TypeId} {row : Option Nat} (h : Whole w B cs t) (hg : w.grownBy w' row) (hr : row ≠ some B) : Whole w' B cs t := (hg.block B h.lt fun e => hr e.symm).trans h
theorem grown_setD {w w' : World} {B : Nat} (h : w.grownBy w' (some B)) (j : Nat) (u : Value) : w.grownBy (w'.setCell ⟨B, j, none⟩ u) (some B) :=
  ⟨h.os, h.tape, h.output, by simpa [World.setCell] using h.size, fun k hk hne => (Below.heap_setCell _ _ _ _ (by intro e; exact hne (congrArg some (by first | exact e | exact e.symm)))).trans (h.block k hk hne)⟩
theorem grown_drew {w w' : World} {row : Option Nat} (h : w.grownBy w' row) : w.grownBy w'.drew row := ⟨h.os, h.tape, h.output, h.size, h.block⟩
theorem BoxN.grown {w w' : World} {B : Nat} {cs : List Value} {row : Option Nat} (h : BoxN w B cs) (hg : w.grownBy w' row) (hr : row ≠ some B) : BoxN w' B cs :=
  ⟨Nat.lt_of_lt_of_le h.1 hg.size, fun j v hv => (hg.cell_far ⟨B, j, none⟩ h.1 (fun e => hr e.symm)).trans (h.2 j v hv)⟩
def mixS (c : Nat) (ep ec : Bool) (S : Nat → Nat) (g : Nat) : Nat → Nat := fun j => if j / 7 < g then forgS c ep ec S j else S j
theorem mix_zero (c : Nat) (ep ec : Bool) (S : Nat → Nat) : mixS c ep ec S 0 = S := by funext j; unfold mixS; rw [if_neg (Nat.not_lt_zero _)]
theorem mix_ff {cs : Array Value} {c g : Nat} {S : Nat → Nat} (hg : g < 4) (hc : c < 6) (h : SeatA cs (mixS c false false S g)) : SeatA cs (mixS c false false S (g + 1)) := h.congr fun j hj => by
  unfold mixS forgS
  simp
theorem mix_tf {cs : Array Value} {c g : Nat} {S : Nat → Nat} (hg : g < 4) (hc : c < 6) (h : SeatA cs (mixS c true false S g)) : SeatA (cs.setIfInBounds (g * 7) (.int .i8 (0 : Int))) (mixS c true false S (g + 1)) := (h.set (g * 7) 0 (by omega)).congr fun j hj => by
  unfold mixS forgS
  by_cases e : j = g * 7
  · subst e
    rw [if_pos rfl, if_pos (by omega), if_pos ⟨rfl, by omega⟩]
  · rw [if_neg e]
    by_cases h1 : j / 7 < g
    · rw [if_pos h1, if_pos (show j / 7 < g + 1 by omega)]
    · rw [if_neg h1]
      by_cases h2 : j / 7 < g + 1
      · rw [if_pos h2, if_neg (fun h9 => by have := h9.2; omega), if_neg (fun h9 => by have := h9.1; cases this)]
      · rw [if_neg h2]
theorem mix_ft {cs : Array Value} {c g : Nat} {S : Nat → Nat} (hg : g < 4) (hc : c < 6) (h : SeatA cs (mixS c false true S g)) : SeatA (cs.setIfInBounds (g * 7 + 1 + c) (.int .i8 (0 : Int))) (mixS c false true S (g + 1)) := (h.set (g * 7 + 1 + c) 0 (by omega)).congr fun j hj => by
  unfold mixS forgS
  by_cases e : j = g * 7 + 1 + c
  · subst e
    rw [if_pos rfl, if_pos (by omega), if_neg (fun h9 => by have := h9.1; cases this), if_pos ⟨rfl, by omega⟩]
  · rw [if_neg e]
    by_cases h1 : j / 7 < g
    · rw [if_pos h1, if_pos (show j / 7 < g + 1 by omega)]
    · rw [if_neg h1]
      by_cases h2 : j / 7 < g + 1
      · rw [if_pos h2, if_neg (fun h9 => by have := h9.1; cases this), if_neg (fun h9 => by have := h9.2; omega)]
      · rw [if_neg h2]
theorem mix_tt {cs : Array Value} {c g : Nat} {S : Nat → Nat} (hg : g < 4) (hc : c < 6) (h : SeatA cs (mixS c true true S g)) : SeatA ((cs.setIfInBounds (g * 7) (.int .i8 (0 : Int))).setIfInBounds (g * 7 + 1 + c) (.int .i8 (0 : Int))) (mixS c true true S (g + 1)) := ((h.set (g * 7) 0 (by omega)).set (g * 7 + 1 + c) 0 (by omega)).congr fun j hj => by
  unfold mixS forgS
  by_cases e : j = g * 7 + 1 + c
  · subst e
    rw [if_pos rfl, if_pos (by omega), if_neg (fun h9 => by have := h9.2; omega), if_pos ⟨rfl, by omega⟩]
  · rw [if_neg e]
    by_cases e2 : j = g * 7
    · subst e2
      rw [if_pos rfl, if_pos (by omega), if_pos ⟨rfl, by omega⟩]
    · rw [if_neg e2]
      by_cases h1 : j / 7 < g
      · rw [if_pos h1, if_pos (show j / 7 < g + 1 by omega)]
      · rw [if_neg h1]
        by_cases h2 : j / 7 < g + 1
        · rw [if_pos h2, if_neg (fun h9 => by have := h9.2; omega), if_neg (fun h9 => by have := h9.2; omega)]
        · rw [if_neg h2]
structure FgI (w : World) (B D : Nat) (c : Nat) (ep ec : Bool) (S : Nat → Nat) (g : Nat) (cs : Array Value) (wr : World) : Prop where
  seat : SeatA cs (mixS c ep ec S g)
  whole : Whole wr B cs 114
  box : BoxN wr D [.int .i64 c, .bool ep, .bool ec]
  gr : w.grownBy wr (some B)
  ne : B ≠ D
theorem FgI.cells {w wr : World} {B D c g : Nat} {ep ec : Bool} {S : Nat → Nat} {cs : Array Value} (h : FgI w B D c ep ec S g cs wr) {j : Nat} (hj : j < 28) : ∃ u, wr.cell? ⟨B, j, none⟩ = some u := ⟨_, h.whole.cell (h.seat.2 j hj)⟩
theorem FgI.put {w wr : World} {B D c g : Nat} {ep ec : Bool} {S : Nat → Nat} {cs : Array Value} (h : FgI w B D c ep ec S g cs wr) (j : Nat) (u : Value) : Whole (wr.setCell ⟨B, j, none⟩ u) B (cs.setIfInBounds j u) 114 ∧ BoxN (wr.setCell ⟨B, j, none⟩ u) D [.int .i64 c, .bool ep, .bool ec] ∧ w.grownBy (wr.setCell ⟨B, j, none⟩ u) (some B) :=
  ⟨h.whole.set j u, h.box.elsewhere j u (Ne.symm h.ne), grown_setD h.gr j u⟩
set_option maxRecDepth 100000 in
set_option maxHeartbeats 4000000 in
theorem forget_impl (B : Nat) (cs : Array Value) (S : Nat → Nat) (c : Nat) (ep ec : Bool) (w : World) (hS : SeatA cs S) (hW : Whole w B cs 114) (hc : c < 6) :
    Calls Try.prog 99 #[.pointer (some ⟨B, 0, none⟩), .agg #[.int .i64 c, .bool ep, .bool ec]] w fun e w' => e = .returned (.tuple #[]) ∧ (∃ cs', SeatA cs' (forgS c ep ec S) ∧ Whole w' B cs' 114) ∧ w.grownBy w' (some B) := by
  have hBw : B < w.heap.size := hW.lt
  obtain ⟨U, hU⟩ : ∃ U, w.alloc (.cells #[.int .i64 c, .bool ep, .bool ec] 108) = U := ⟨_, rfl⟩
  have I0 : Hid (FgI w B w.heap.size c ep ec S 0 cs U) := by
    rw [← hU]
    exact ⟨by rw [mix_zero]; exact hS, hW.below ((Below.refl _ _).alloc (Nat.le_refl _) _), BoxN.made (Below.refl _ _) rfl, World.grownBy_alloc w _ _, by omega⟩
  have hc6 : (c : Int) < 6 := by omega
  clear hS hW
  go_enter Try.func99, Try.ntmps99
  go_wp2
  clear hU
  go_loopw [5] (fun iv wr => ∃ (g : Nat) (cs : Array Value), g ≤ 4 ∧ iv = .int .i64 g ∧ Hid (FgI w B w.heap.size c ep ec S g cs wr)) (fun iv _ => 4 - (RowKit.intOf iv).toNat)
  case atStart => exact ⟨0, cs, Nat.zero_le _, rfl, I0⟩
  case round =>
    clear I0
    obtain ⟨g, cs, hg9, rfl, HI⟩ := hrel
    by_cases hlt : g < 4
    · have hj1 : (g : Int) < 4 := by omega
      have d0 := HI.out.box.2 0 _ rfl
      have d1 := HI.out.box.2 1 _ rfl
      have d2 := HI.out.box.2 2 _ rfl
      obtain ⟨u0, k0⟩ := HI.out.cells (show g * 7 < 28 by omega)
      obtain ⟨u1, k1⟩ := HI.out.cells (show g * 7 + 1 + c < 28 by omega)
      have f0 := HI.out.whole.free (g * 7)
      have f1 := HI.out.whole.free (g * 7 + 1 + c)
      have hBr : B < wr.heap.size := HI.out.whole.lt
      have hDr : w.heap.size < wr.heap.size := HI.out.box.1
      cases ep with
      | false =>
        cases ec with
        | false =>
          have HN := Lib.hid (FgI.mk (mix_ff hlt hc HI.out.seat) HI.out.whole HI.out.box HI.out.gr HI.out.ne)
          go_wp2
          go_roundw
          case rel => exact ⟨g + 1, _, by omega, by go_num, HN⟩
          case measure => simp [RowKit.intOf]; omega
        | true =>
          obtain ⟨p1, p2, p3⟩ := HI.out.put (g * 7 + 1 + c) (.int .i8 0)
          have HN : Hid (FgI w B w.heap.size c false true S (g + 1) _ (wr.setCell ⟨B, g * 7 + 1 + c, none⟩ (.int .i8 0)).drew) := FgI.mk (mix_ft hlt hc HI.out.seat) p1 (p2.below (Below.refl _ _).drew) (grown_drew p3) HI.out.ne
          clear p1 p2 p3
          go_wp2_with fail
          go_region
          go_wp2
          go_roundw
          case rel => exact ⟨g + 1, _, by omega, by go_num, HN⟩
          case measure => simp [RowKit.intOf]; omega
      | true =>
        cases ec with
        | false =>
          obtain ⟨p1, p2, p3⟩ := HI.out.put (g * 7) (.int .i8 0)
          have HN := Lib.hid (FgI.mk (mix_tf hlt hc HI.out.seat) p1 p2 p3 HI.out.ne)
          clear p1 p2 p3
          have dx := HN.out.box.2 2 _ rfl
          go_wp2
          go_roundw
          case rel => exact ⟨g + 1, _, by omega, by go_num, HN⟩
          case measure => simp [RowKit.intOf]; omega
        | true =>
          obtain ⟨p1, p2, p3⟩ := HI.out.put (g * 7) (.int .i8 0)
          have HQ : Hid (SeatA (cs.setIfInBounds (g * 7) (.int .i8 (0 : Int))) (fun j => if j = g * 7 then 0 else mixS c true true S g j)) := HI.out.seat.set (g * 7) 0 (by omega)
          have HM1 : Hid (Whole (wr.setCell ⟨B, g * 7, none⟩ (.int .i8 0)) B (cs.setIfInBounds (g * 7) (.int .i8 (0 : Int))) 114) := p1
          have HM2 := Lib.hid p2
          have HM3 := Lib.hid p3
          have dx := p2.2 2 _ rfl
          have dy := p2.2 0 _ rfl
          have dz := p1.cell (HQ.out.2 (g * 7 + 1 + c) (by omega))
          have dw := p1.free (g * 7 + 1 + c)
          clear p1 p2 p3
          have HN : Hid (FgI w B w.heap.size c true true S (g + 1) _ ((wr.setCell ⟨B, g * 7, none⟩ (.int .i8 0)).setCell ⟨B, g * 7 + 1 + c, none⟩ (.int .i8 0)).drew) := FgI.mk (mix_tt hlt hc HI.out.seat) ((HM1.out.set (g * 7 + 1 + c) (.int .i8 0)).below (Below.refl _ _).drew) ((HM2.out.elsewhere _ _ (Ne.symm HI.out.ne)).below (Below.refl _ _).drew) (grown_drew (grown_setD HM3.out _ _)) HI.out.ne
          go_upto_region 7 with fail
          generalize wr.setCell ⟨B, g * 7, none⟩ (.int .i8 0) = wx at *
          clear d0 d1 d2 k0 k1 f0 f1
          have hBx : B < wx.heap.size := HM1.out.lt
          have hDx : w.heap.size < wx.heap.size := HM2.out.1
          go_wp2_with fail
          go_region
          go_wp2
          go_roundw
          case rel => exact ⟨g + 1, _, by omega, by go_num, HN⟩
          case measure => simp [RowKit.intOf]; omega
    obtain rfl : g = 4 := by omega
    have HE : Hid (SeatA cs (forgS c ep ec S)) := HI.out.seat.congr fun j hj => by unfold mixS; rw [if_pos (by omega)]
    go_wp2
    refine bodyPost_end (results_none rfl _ _ _) rfl ?_
    exact ⟨rfl, ⟨cs, HE.out, HI.out.whole⟩, HI.out.gr⟩
end Go.Proofs.Ytmhkkdnopcdibaa
