/-
  Packed: Find, Reason, RsnTold, Judge, JudgeVal.
-/
import Derived.Test.YteciobkjfmddcaaGreatDoorQ2
import Derived.Test.YteciobkjfmddcaaGreatDoorQ3
import Derived.Test.YteciobkjfmddcaaGreatDoorQ4
import Derived.Test.YteciobkjfmddcaaGreatDoorQ7
import Derived.Test.YteciobkjfmddcaaGreatDoorQ11
import Derived.Test.YteciobkjfmddcaaGreatDoorQ12
set_option linter.unusedVariables false
namespace Go.Proofs.YteciobkjfmddcaaGreatDoor
open Go.RowKit

def RsnD.vals (r : RsnD) (v : Value) : Array Value := #[.int .i64 r.key, v, .int .i64 r.first, .int .i64 r.other]
def ReasonL (w : World) (r : Option RsnD) (e : Ending) (w' : World) : Prop :=
  ∃ v, e = .returned (.tuple #[.agg ((r.getD rsn0).vals v), .bool r.isSome]) ∧ w'.ownsRow w.heap.size 3 1 v (r.getD rsn0).grp.length ((r.getD rsn0).grp.map (Value.int .i64)) ∧ Below w.heap.size w w'
theorem put_cell {B : Nat} {p : Addr} {v : Value} (hp : p.block ≠ B) : ∀ (vs : List Value) (o : Nat) (w : World), w.cell? p = some v → (putCs w B o vs).cell? p = some v
  | [], _, _, h => h
  | u :: vs, o, w, h => put_cell hp vs (o + 1) _ ((World.cell?_of_block (w := w) (w' := w.setCell ⟨B, o, none⟩ u) (a := p) (Below.heap_setCell w ⟨B, o, none⟩ u p.block hp)).trans h)
theorem BkAt.put {w0 : World} {B C : Nat} {fa : Option Addr} {fc : Nat} {la : Option Addr} {lc : Nat} {ga : Option Addr} {gc : Nat} {qa : Option Addr} {qc : Nat} {ta : Option Addr} {tc : Nat} {b : BookD} (hC : B ≠ C) (h0 : w0.heap.size ≤ C) :
    ∀ (vs : List Value) (o : Nat) (w : World), BkAt w0 w B fa fc la lc ga gc qa qc ta tc b → BkAt w0 (putCs w C o vs) B fa fc la lc ga gc qa qc ta tc b
  | [], _, _, h => h
  | u :: vs, o, w, h => BkAt.put hC h0 vs (o + 1) _ (h.store (p := ⟨C, o, none⟩) hC h0 u)
theorem owns_puts {w : World} {base B : Nat} {e : TypeId} {size n : Nat} {v : Value} {xs : List Value} (hB : B < base) : ∀ (vs : List Value) (o : Nat) (w : World), w.ownsRow base e size v n xs → (putCs w B o vs).ownsRow base e size v n xs
  | [], _, _, h => h
  | u :: vs, o, w, h => owns_puts (w := w) hB vs (o + 1) _ (owns_low h o u hB)
theorem valsL_get {V : Nat → Int} {k n : Nat} (h : k < n) : getI (valsL V n) k = V k := by unfold valsL getI; simp [h]
theorem valsL_len {V : Nat → Int} {n : Nat} : (valsL V n).length = n := by unfold valsL; simp
theorem l02Has_mem (v : Value) (p : List Int) (x : Int) (R : Bool) (w : World) (hR : R = true ↔ x ∈ p) (h : IntRow w v p.length (getI p)) :
    Calls Tryz.prog 60 #[v, .int .i64 x] w fun e w' => e = .returned (.bool R) ∧ w = w' := by
  cases R with
  | true => exact l02Has_yes v _ _ x w h ((hasP_mem p x).2 (hR.1 rfl))
  | false => exact l02Has_no v _ _ x w h (fun hh => by have := hR.2 ((hasP_mem p x).1 hh); cases this)
end Go.Proofs.YteciobkjfmddcaaGreatDoor
set_option linter.unusedVariables false
namespace Go.Proofs.YteciobkjfmddcaaGreatDoor
open Go.RowKit

def pairP (b : BookD) (x y : Int) : Prop := bookP b ∧ (0 ≤ x ∧ x ≤ (b.nf : Int) - 1) ∧ (0 ≤ y ∧ y ≤ (b.nf : Int) - 1) ∧ x ≠ y
def aboveB : Option RsnD → Bool
  | none => false
  | some r => decide (r.other < r.first)
end Go.Proofs.YteciobkjfmddcaaGreatDoor
set_option linter.unusedVariables false
namespace Go.Proofs.YteciobkjfmddcaaGreatDoor
open Go.RowKit

theorem wrap_int (z : Int) : isInt (wrap64 z) := by unfold isInt wrap64; omega
def RowFit (r : RowD) : Prop := isInt r.wins ∧ isInt r.scored ∧ isInt r.points
theorem addW_fit (a b : RowD) : RowFit (addW a b) := ⟨wrap_int _, wrap_int _, wrap_int _⟩
theorem putR_fit {r : Nat → RowD} {k : Nat} {x : RowD} (h : ∀ i, RowFit (r i)) (hx : RowFit x) (i : Nat) : RowFit (putR r k x i) := by
  unfold putR
  split
  · exact hx
  · exact h i
theorem zeroR_fit : RowFit zeroR := ⟨⟨by decide, by decide⟩, ⟨by decide, by decide⟩, ⟨by decide, by decide⟩⟩
theorem tab_fit (win draw loss : Int) (sel : GameD → Bool) (g : Nat → GameD) : ∀ k i, RowFit (tabR win draw loss sel g k i) := by
  intro k
  induction k with
  | zero => exact fun _ => zeroR_fit
  | succ k ih =>
    intro i
    show RowFit ((if sel (g k) = true then addG win draw loss (tabR win draw loss sel g k) (g k) else tabR win draw loss sel g k) i)
    split
    · unfold addG
      split
      · exact putR_fit (fun j => putR_fit ih (addW_fit _ _) j) (addW_fit _ _) i
      · exact ih i
    · exact ih i
theorem val_int (b : BookD) (key : Int) (gg : Nat → Int) (ng i : Nat) : isInt (bookV b key gg ng i) := by
  have h : RowFit (bookT b key gg ng i) := tab_fit _ _ _ _ _ _ _
  unfold bookV valD
  repeat' split
  · exact wrap_int _
  · exact h.2.2
  · exact wrap_int _
  · exact h.2.1
  · exact h.1
  · exact wrap_int _
  · exact wrap_int _
  · exact ⟨by decide, by decide⟩
theorem rsnT_ne (b : BookD) (k f o : Int) (n : Nat) (g : Nat → Int) : rsnT b k f o n g ≠ ⟨#[]⟩ := by
  intro h
  have h1 := congrArg ByteArray.size h
  have h32 : (⟨#[32]⟩ : ByteArray).size = 1 := rfl
  have h0 : (⟨#[]⟩ : ByteArray).size = 0 := rfl
  unfold rsnT at h1
  split at h1
  · simp only [ByteArray.size_append] at h1; omega
  · simp only [ByteArray.size_append] at h1; omega
theorem mem_has {L : List Int} {x : Int} (h : x ∈ L) : hasP (getI L) x L.length := by
  obtain ⟨i, hi, rfl⟩ := List.getElem_of_mem h
  exact ⟨i, hi, by unfold getI; simp [hi]⟩
def ToldR (d : BookD) (u v : Int) (r : RsnD) : Prop :=
  findP d u v (allL d.nf) 0 = some r ∧ findP d v u (allL d.nf) 0 = some ⟨r.key, r.grp, r.other, r.first⟩ ∧ r.other < r.first ∧ hasP d.l r.key d.nl ∧ hasP (getI r.grp) u r.grp.length ∧ hasP (getI r.grp) v r.grp.length ∧
    bookV d r.key (getI r.grp) r.grp.length u.toNat = r.first ∧ bookV d r.key (getI r.grp) r.grp.length v.toNat = r.other ∧ textP d r.key r.grp.length (getI r.grp) ∧ r.grp.length ≤ 5 ∧ isInt r.first ∧ isInt r.other ∧
    pairP d u v ∧ pairP d v u
theorem Made.told {d : BookD} (h : Made d) {i k : Nat} {u v : Int} (hik : i < k) (hu : (ordB d)[i]? = some u) (hv : (ordB d)[k]? = some v) : ∃ r, ToldR d u v r := by
  obtain ⟨r, h1, h2, h3, ⟨j, hj, hk⟩, h5, h6, h7, h8, h9, h10⟩ := h.reason hik hu hv
  have hn := h.nf
  have hui := ord_in (List.mem_of_getElem? hu)
  have hvi := ord_in (List.mem_of_getElem? hv)
  have huv : u ≠ v := fun e => by subst e; omega
  have hb := h.book
  have hky := (hb.2.1.2.2.2.2 j hj).1
  rw [allL_len] at h10
  refine ⟨r, h1, h2, h3, ⟨j, hj, hk.symm⟩, mem_has h5, mem_has h6, h7.symm, h8.symm, ⟨hb, by rw [hk]; exact hky, fun i hi => ?_⟩, by omega, by rw [h7]; exact val_int _ _ _ _ _, by rw [h8]; exact val_int _ _ _ _ _, ⟨hb, ⟨by omega, by omega⟩, ⟨by omega, by omega⟩, huv⟩, ⟨hb, ⟨by omega, by omega⟩, ⟨by omega, by omega⟩, fun e => huv e.symm⟩⟩
  have hm : getI r.grp i ∈ r.grp := by
    have e : getI r.grp i = r.grp[i] := by unfold getI; simp [hi]
    rw [e]; exact List.getElem_mem _
  have := allL_mem.1 (h9 _ hm)
  exact ⟨this.1, by omega⟩
end Go.Proofs.YteciobkjfmddcaaGreatDoor
set_option linter.unusedVariables false
namespace Go.Proofs.YteciobkjfmddcaaGreatDoor
open Go.RowKit

def tabAll (b : BookD) : Nat → RowD := tabR b.win b.draw b.loss (selG true (fun _ => 0) 0) b.g b.m
def tabSome (b : BookD) (gg : Nat → Int) (ng : Nat) : Nat → RowD := tabR b.win b.draw b.loss (selG false gg ng) b.g b.m
theorem bookT_plain {b : BookD} {key : Int} {gg : Nat → Int} {ng : Nat} (h : mutualB key = false) : bookT b key gg ng = tabAll b := by
  unfold bookT tabAll; rw [h]; rfl
theorem bookT_mutual {b : BookD} {key : Int} {gg : Nat → Int} {ng : Nat} (h : mutualB key = true) : bookT b key gg ng = tabSome b gg ng := by
  unfold bookT tabSome; rw [h]; rfl
theorem BkAt.drew {w0 w : World} {B : Nat} {fa : Option Addr} {fc : Nat} {la : Option Addr} {lc : Nat} {ga : Option Addr} {gc : Nat} {qa : Option Addr} {qc : Nat} {ta : Option Addr} {tc : Nat} {b : BookD} (h : BkAt w0 w B fa fc la lc ga gc qa qc ta tc b) : BkAt w0 w.drew B fa fc la lc ga gc qa qc ta tc b := h.next (Below.refl _ _).drew
theorem ResAt.drew {w : World} {B k : Nat} (h : ResAt w B k) : ResAt w.drew B k := h.below (Below.refl _ _).drew
theorem book_tab {b : BookD} (hp : bookP b) : tabP b.win b.draw b.loss b.nl b.l b.nf b.m b.g := ⟨hp.2.1, by have := hp.1.1; omega, hp.2.2.1⟩
theorem book_n {b : BookD} : (if true = true then ((b.nf : Int)).toNat else 0) = b.nf := by simp
structure JgAt (w0 w : World) (B : Nat) (fa : Option Addr) (fc : Nat) (la : Option Addr) (lc : Nat) (ga : Option Addr) (gc : Nat) (qa : Option Addr) (qc : Nat) (ta : Option Addr) (tc : Nat) (b : BookD) (ra : Option Addr) (rc : Nat) (T : Nat → RowD) : Prop where
  box : BoxN w B [.slice fa b.nf fc, .int .i64 b.win, .int .i64 b.draw, .int .i64 b.loss, .slice la b.nl lc, .bool b.again, .slice ga b.m gc, .slice qa b.nfa qc, .slice ta b.nta tc, .slice ra b.nf rc]
  row0 : BookRow w0 (.slice fa b.nf fc) (.slice la b.nl lc) (.slice ga b.m gc) (.slice qa b.nfa qc) (.slice ta b.nta tc) b
  tab0 : RowRow w0 (.slice ra b.nf rc) b.nf T
  bel : Below w0.heap.size w0 w
section
variable {w0 w w' : World} {B : Nat} {fa : Option Addr} {fc : Nat} {la : Option Addr} {lc : Nat} {ga : Option Addr} {gc : Nat} {qa : Option Addr} {qc : Nat} {ta : Option Addr} {tc : Nat} {b : BookD} {ra : Option Addr} {rc : Nat} {T : Nat → RowD}
theorem JgAt.row (h : JgAt w0 w B fa fc la lc ga gc qa qc ta tc b ra rc T) : BookRow w (.slice fa b.nf fc) (.slice la b.nl lc) (.slice ga b.m gc) (.slice qa b.nfa qc) (.slice ta b.nta tc) b := h.row0.below h.bel (Nat.le_refl _)
theorem JgAt.tab (h : JgAt w0 w B fa fc la lc ga gc qa qc ta tc b ra rc T) : RowRow w (.slice ra b.nf rc) b.nf T := h.tab0.below h.bel (Nat.le_refl _)
theorem JgAt.next (h : JgAt w0 w B fa fc la lc ga gc qa qc ta tc b ra rc T) (hb : Below w.heap.size w w') : JgAt w0 w' B fa fc la lc ga gc qa qc ta tc b ra rc T :=
  ⟨BoxN.below h.box hb, h.row0, h.tab0, h.bel.trans (hb.mono h.bel.size)⟩
theorem JgAt.drew (h : JgAt w0 w B fa fc la lc ga gc qa qc ta tc b ra rc T) : JgAt w0 w.drew B fa fc la lc ga gc qa qc ta tc b ra rc T := h.next (Below.refl _ _).drew
theorem JgAt.alloc (h : JgAt w0 w B fa fc la lc ga gc qa qc ta tc b ra rc T) (o : Obj) : JgAt w0 (w.alloc o) B fa fc la lc ga gc qa qc ta tc b ra rc T := h.next ((Below.refl _ _).alloc (Nat.le_refl _) _)
theorem JgAt.made (h : BookRow w (.slice fa b.nf fc) (.slice la b.nl lc) (.slice ga b.m gc) (.slice qa b.nfa qc) (.slice ta b.nta tc) b) (ht : RowRow w (.slice ra b.nf rc) b.nf T) (t : TypeId) : JgAt w (w.alloc (.cells #[.slice fa b.nf fc, .int .i64 b.win, .int .i64 b.draw, .int .i64 b.loss, .slice la b.nl lc, .bool b.again, .slice ga b.m gc, .slice qa b.nfa qc, .slice ta b.nta tc, .slice ra b.nf rc] t)) w.heap.size fa fc la lc ga gc qa qc ta tc b ra rc T :=
  ⟨BoxN.made (Below.refl _ _) rfl, h, ht, (Below.refl _ _).alloc (Nat.le_refl _) _⟩
theorem JgAt.cells (h : JgAt w0 w B fa fc la lc ga gc qa qc ta tc b ra rc T) :
    w.cell? ⟨B, 0, none⟩ = some (.slice fa b.nf fc) ∧ w.cell? ⟨B, 1, none⟩ = some (.int .i64 b.win) ∧ w.cell? ⟨B, 2, none⟩ = some (.int .i64 b.draw) ∧ w.cell? ⟨B, 3, none⟩ = some (.int .i64 b.loss) ∧ w.cell? ⟨B, 4, none⟩ = some (.slice la b.nl lc) ∧ w.cell? ⟨B, 5, none⟩ = some (.bool b.again) ∧ w.cell? ⟨B, 6, none⟩ = some (.slice ga b.m gc) ∧ w.cell? ⟨B, 7, none⟩ = some (.slice qa b.nfa qc) ∧ w.cell? ⟨B, 8, none⟩ = some (.slice ta b.nta tc) ∧ w.cell? ⟨B, 9, none⟩ = some (.slice ra b.nf rc) :=
  ⟨h.box.2 0 _ rfl, h.box.2 1 _ rfl, h.box.2 2 _ rfl, h.box.2 3 _ rfl, h.box.2 4 _ rfl, h.box.2 5 _ rfl, h.box.2 6 _ rfl, h.box.2 7 _ rfl, h.box.2 8 _ rfl, h.box.2 9 _ rfl⟩
theorem JgAt.lt (h : JgAt w0 w B fa fc la lc ga gc qa qc ta tc b ra rc T) : B < w.heap.size := h.box.1
end
theorem jg_put {w : World} {B C : Nat} {cs : List Value} (hC : B ≠ C) : ∀ (vs : List Value) (o : Nat) (w : World), BoxN w B cs → BoxN (putCs w C o vs) B cs
  | [], _, _, h => h
  | v :: vs, o, w, h => jg_put (w := w) hC vs (o + 1) _ (box_store h (p := ⟨C, o, none⟩) hC v)

set_option maxRecDepth 100000 in
set_option maxHeartbeats 2000000 in
theorem judgeOf_in (vf vl vg vfa vta : Value) (b : BookD) (w : World) (hp : bookP b) (h : BookRow w vf vl vg vfa vta b) :
    Calls Tryz.prog 18 #[.agg #[vf, .int .i64 b.win, .int .i64 b.draw, .int .i64 b.loss, vl, .bool b.again, vg, vfa, vta]] w fun e w' => ∃ ra rc, e = .returned (.agg #[vf, .int .i64 b.win, .int .i64 b.draw, .int .i64 b.loss, vl, .bool b.again, vg, vfa, vta, .slice ra b.nf rc]) ∧ RowRow w' (.slice ra b.nf rc) b.nf (tabAll b) ∧ Below w.heap.size w w' ∧ (∀ q, (Value.slice ra b.nf rc).ownBlock = some q → w.heap.size ≤ q) := by
  obtain ⟨fa, fc, la, lc, ga, gc, qa, qc, ta, tc, rfl, rfl, rfl, rfl, rfl⟩ := h.form
  have C := Lib.hid (fun wa h1 h2 => tableOf_impl b.win b.draw b.loss (.slice la b.nl lc) b.nl b.l b.again b.nf (.slice ga b.m gc) b.m b.g true wa ⟨fun _ => book_tab hp, fun _ => rfl⟩ h1 h2)
  rw [book_n] at C
  have hsix := h.sixty
  have HR := Lib.hid h
  clear h
  unfold tabAll
  generalize tabR b.win b.draw b.loss (selG true (fun _ => 0) 0) b.g b.m = T at *
  go_enter Tryz.func18, Tryz.ntmps18
  obtain ⟨S, HSd⟩ : ∃ S : World → Prop, S = fun w' => (fun x => BkAt w x w.heap.size fa fc la lc ga gc qa qc ta tc b ∧ ResAt x (w.heap.size + 1) 10) w' := ⟨_, rfl⟩
  have KS : Hid (∀ wa wb, S wa → Below wa.heap.size wa wb → S wb) := by subst HSd; exact fun wa wb h b => ⟨h.1.next b, h.2.below b⟩
  have OS : Hid (∀ wa, S wa → (fun x => BkAt w x w.heap.size fa fc la lc ga gc qa qc ta tc b ∧ ResAt x (w.heap.size + 1) 10) wa) := by subst HSd; exact fun wa h => h
  have IS : Hid (∀ wa, (fun x => BkAt w x w.heap.size fa fc la lc ga gc qa qc ta tc b ∧ ResAt x (w.heap.size + 1) 10) wa → S wa) := by subst HSd; exact fun wa h => h
  clear HSd
  go_wp2_with fail
  refine wp_region_held_drew (S := S) (by kernel_rfl) ?_ (fun hHeld => ?_)
  · exact IS.out _ (⟨((BkAt.made HR.out 29).alloc _).drew, (ResAt.made' (by simp) rfl).drew⟩)
  refine wpAnyH_take (i := 0) (v := ?_) rfl (by kernel_rfl) (by kernel_rfl) (by kernel_rfl) (fun _ _ _ h => h) (Or.inl ⟨by rfl, ?_⟩) hHeld ?_
  rotate_left
  · (intro wa hSw; have K := OS.out _ hSw; obtain ⟨d0, d1, d2, d3, d4, d5, d6, d7, d8⟩ := K.1.cells; go_simp; try with_reducible rfl)
  simp only [Act.put, List.getElem_toArray, List.getElem_cons_zero, List.setIfInBounds_toArray, List.set_cons_zero, List.set_cons_succ]
  refine wpAnyH_take (i := 1) (v := ?_) rfl (by kernel_rfl) (by kernel_rfl) (by kernel_rfl) (fun _ _ _ h => h) (Or.inl ⟨by rfl, ?_⟩) hHeld ?_
  rotate_left
  · (intro wa hSw; go_simp; try with_reducible rfl)
  simp only [Act.put, List.getElem_toArray, List.getElem_cons_zero, List.getElem_cons_succ, List.setIfInBounds_toArray, List.set_cons_zero, List.set_cons_succ]
  refine wpAnyH_take (i := 2) (v := ?_) rfl (by kernel_rfl) (by kernel_rfl) (by kernel_rfl) (fun _ _ _ h => h) (Or.inl ⟨by rfl, ?_⟩) hHeld ?_
  rotate_left
  · (intro wa hSw; have K := OS.out _ hSw; obtain ⟨d0, d1, d2, d3, d4, d5, d6, d7, d8⟩ := K.1.cells; go_simp; try with_reducible rfl)
  simp only [Act.put, List.getElem_toArray, List.getElem_cons_zero, List.getElem_cons_succ, List.setIfInBounds_toArray, List.set_cons_zero, List.set_cons_succ]
  refine wpAnyH_take (i := 3) (v := ?_) rfl (by kernel_rfl) (by kernel_rfl) (by kernel_rfl) (fun _ _ _ h => h) (Or.inl ⟨by rfl, ?_⟩) hHeld ?_
  rotate_left
  · (intro wa hSw; go_simp; try with_reducible rfl)
  simp only [Act.put, List.getElem_toArray, List.getElem_cons_zero, List.getElem_cons_succ, List.setIfInBounds_toArray, List.set_cons_zero, List.set_cons_succ]
  refine wpAnyH_take (i := 4) (v := ?_) rfl (by kernel_rfl) (by kernel_rfl) (by kernel_rfl) (fun _ _ _ h => h) (Or.inl ⟨by rfl, ?_⟩) hHeld ?_
  rotate_left
  · (intro wa hSw; have K := OS.out _ hSw; obtain ⟨d0, d1, d2, d3, d4, d5, d6, d7, d8⟩ := K.1.cells; go_simp; try with_reducible rfl)
  simp only [Act.put, List.getElem_toArray, List.getElem_cons_zero, List.getElem_cons_succ, List.setIfInBounds_toArray, List.set_cons_zero, List.set_cons_succ]
  refine wpAnyH_take (i := 5) (v := ?_) rfl (by kernel_rfl) (by kernel_rfl) (by kernel_rfl) (fun _ _ _ h => h) (Or.inl ⟨by rfl, ?_⟩) hHeld ?_
  rotate_left
  · (intro wa hSw; go_simp; try with_reducible rfl)
  simp only [Act.put, List.getElem_toArray, List.getElem_cons_zero, List.getElem_cons_succ, List.setIfInBounds_toArray, List.set_cons_zero, List.set_cons_succ]
  refine wpAnyH_take (i := 6) (v := ?_) rfl (by kernel_rfl) (by kernel_rfl) (by kernel_rfl) (fun _ _ _ h => h) (Or.inl ⟨by rfl, ?_⟩) hHeld ?_
  rotate_left
  · (intro wa hSw; go_simp; try with_reducible rfl)
  simp only [Act.put, List.getElem_toArray, List.getElem_cons_zero, List.getElem_cons_succ, List.setIfInBounds_toArray, List.set_cons_zero, List.set_cons_succ]
  refine wpAnyH_take (i := 7) (v := ?_) rfl (by kernel_rfl) (by kernel_rfl) (by kernel_rfl) (fun _ _ _ h => h) (Or.inl ⟨by rfl, ?_⟩) hHeld ?_
  rotate_left
  · (intro wa hSw; have K := OS.out _ hSw; obtain ⟨d0, d1, d2, d3, d4, d5, d6, d7, d8⟩ := K.1.cells; go_simp; try with_reducible rfl)
  simp only [Act.put, List.getElem_toArray, List.getElem_cons_zero, List.getElem_cons_succ, List.setIfInBounds_toArray, List.set_cons_zero, List.set_cons_succ]
  refine wpAnyH_ready (rs := [8]) (by kernel_rfl) (by simp) ?_
  refine AllReadyH.cons (o := _) rfl (fun K hK => ?_) AllReadyH.nil
  go_simp
  have KK := OS.out _ hHeld
  refine (C.out _ KK.1.row.2.1 KK.1.row.2.2.1).mono ?_
  rintro e w101 ⟨vr, rfl, hTR, ⟨xs, hOX⟩, b101⟩
  clear KK
  obtain ⟨ra, rc, rfl, _, _⟩ := RowRow.form hTR
  have hTR := Lib.hid hTR
  have hIW := Lib.hid ((InW.of_owns hOX).mono (lo' := w.heap.size + 2) (by simp) (Nat.le_refl _))
  have HQ := Lib.hid (OS.out _ hHeld)
  have hBK := Lib.hid (HQ.out.1.bel.trans (b101.mono HQ.out.1.bel.size))
  have HRA := Lib.hid (HQ.out.2.below b101)
  (try go_wp2_with fail)
  refine hK.out _ _ ?_ (fun hHeld101 => ?_)
  · exact KS.out _ _ hHeld b101
  clear hK K
  refine wpAnyH_take (i := 9) (v := ?_) rfl (by kernel_rfl) (by kernel_rfl) (by kernel_rfl) (fun _ _ _ h => h) (Or.inl ⟨by rfl, ?_⟩) hHeld101 ?_
  rotate_left
  · (intro wa hSw; go_simp; try with_reducible rfl)
  simp only [Act.put, List.getElem_toArray, List.getElem_cons_zero, List.getElem_cons_succ, List.setIfInBounds_toArray, List.set_cons_zero, List.set_cons_succ]
  refine wpAnyH_ready (rs := [10]) (by kernel_rfl) (by simp) ?_
  refine AllReadyH.cons (o := _) rfl (fun K hK => ?_) AllReadyH.nil
  have KK := OS.out _ hHeld101
  obtain ⟨⟨x0, q0⟩, z0⟩ := KK.2.at 0 (by omega)
  obtain ⟨⟨x1, q1⟩, z1⟩ := KK.2.at 1 (by omega)
  obtain ⟨⟨x2, q2⟩, z2⟩ := KK.2.at 2 (by omega)
  obtain ⟨⟨x3, q3⟩, z3⟩ := KK.2.at 3 (by omega)
  obtain ⟨⟨x4, q4⟩, z4⟩ := KK.2.at 4 (by omega)
  obtain ⟨⟨x5, q5⟩, z5⟩ := KK.2.at 5 (by omega)
  obtain ⟨⟨x6, q6⟩, z6⟩ := KK.2.at 6 (by omega)
  obtain ⟨⟨x7, q7⟩, z7⟩ := KK.2.at 7 (by omega)
  obtain ⟨⟨x8, q8⟩, z8⟩ := KK.2.at 8 (by omega)
  obtain ⟨⟨x9, q9⟩, z9⟩ := KK.2.at 9 (by omega)
  go_simp
  refine hK.out _ _ ?_ (fun hHeld102 => ?_)
  · exact IS.out _ ((fun K => ⟨⟨jg_put (w := w) (by omega) [.slice fa b.nf fc, .int .i64 b.win, .int .i64 b.draw, .int .i64 b.loss, .slice la b.nl lc, .bool b.again, .slice ga b.m gc, .slice qa b.nfa qc, .slice ta b.nta tc, .slice ra b.nf rc] 0 _ K.1.box, K.1.row0, Below.putCs (by omega) [.slice fa b.nf fc, .int .i64 b.win, .int .i64 b.draw, .int .i64 b.loss, .slice la b.nl lc, .bool b.again, .slice ga b.m gc, .slice qa b.nfa qc, .slice ta b.nta tc, .slice ra b.nf rc] 0 _ _ K.1.bel⟩, by exact (K.2.put (vs := [.slice fa b.nf fc, .int .i64 b.win, .int .i64 b.draw, .int .i64 b.loss, .slice la b.nl lc, .bool b.again, .slice ga b.m gc, .slice qa b.nfa qc, .slice ta b.nta tc, .slice ra b.nf rc]) rfl).of_put⟩) (OS.out _ hHeld101))
  clear hK K
  clear hHeld101
  refine wpAnyH_done (by kernel_rfl) ?_ _
  have KE := Lib.hid (OS.out _ hHeld102)
  clear KS OS IS hHeld hHeld102
  refine post_named fun w9 hw9 => ?_
  have e9 : w9 = putCs w101 (w.heap.size + 1) 0 [.slice fa b.nf fc, .int .i64 b.win, .int .i64 b.draw, .int .i64 b.loss, .slice la b.nl lc, .bool b.again, .slice ga b.m gc, .slice qa b.nfa qc, .slice ta b.nta tc, .slice ra b.nf rc] := hw9.out
  have HT9 := Lib.hid (hTR.out.touch (hi := w.heap.size + 1 + 1) (lo := w.heap.size + 1) (Touch.putCs (Nat.le_refl _) (by omega) [.slice fa b.nf fc, .int .i64 b.win, .int .i64 b.draw, .int .i64 b.loss, .slice la b.nl lc, .bool b.again, .slice ga b.m gc, .slice qa b.nfa qc, .slice ta b.nta tc, .slice ra b.nf rc] 0 _ _ (Touch.refl _ _ _)) (fun _ => hIW.out) (.inr (by have := HRA.out.lt; omega)))
  have HB9 := Lib.hid (Below.putCs (C := w.heap.size) (B := w.heap.size + 1) (by omega) [.slice fa b.nf fc, .int .i64 b.win, .int .i64 b.draw, .int .i64 b.loss, .slice la b.nl lc, .bool b.again, .slice ga b.m gc, .slice qa b.nfa qc, .slice ta b.nta tc, .slice ra b.nf rc] 0 _ _ hBK.out)
  have HX9 := Lib.hid (HRA.out.put (vs := [.slice fa b.nf fc, .int .i64 b.win, .int .i64 b.draw, .int .i64 b.loss, .slice la b.nl lc, .bool b.again, .slice ga b.m gc, .slice qa b.nfa qc, .slice ta b.nta tc, .slice ra b.nf rc]) rfl)
  rw [← e9] at HT9 HB9 HX9
  have HLO : Hid (∀ q, (Value.slice ra b.nf rc).ownBlock = some q → w.heap.size ≤ q) := fun q hq => by have := (hIW.out q hq).1; omega
  clear hw9 e9 hTR hIW hBK HRA KE
  have y0 := (HX9.out.2 0 _ rfl).1
  have y1 := (HX9.out.2 1 _ rfl).1
  have y2 := (HX9.out.2 2 _ rfl).1
  have y3 := (HX9.out.2 3 _ rfl).1
  have y4 := (HX9.out.2 4 _ rfl).1
  have y5 := (HX9.out.2 5 _ rfl).1
  have y6 := (HX9.out.2 6 _ rfl).1
  have y7 := (HX9.out.2 7 _ rfl).1
  have y8 := (HX9.out.2 8 _ rfl).1
  have y9 := (HX9.out.2 9 _ rfl).1
  have y_lt := HX9.out.1
  clear HX9
  go_wp2
  (try simp only [Exit.inBlock, Exit.then])
  refine bodyPost_ret (v := .agg #[.slice fa b.nf fc, .int .i64 b.win, .int .i64 b.draw, .int .i64 b.loss, .slice la b.nl lc, .bool b.again, .slice ga b.m gc, .slice qa b.nfa qc, .slice ta b.nta tc, .slice ra b.nf rc]) ?_ rfl ⟨_, _, rfl, HT9.out, HB9.out, HLO.out⟩
  rw [results_cell rfl]
  go_simp

theorem judgeOf_impl (vf vl vg vfa vta : Value) (b : BookD) (w : World) (hp : bookP b) (h : BookRow w vf vl vg vfa vta b) :
    Calls Tryz.prog 18 #[.agg #[vf, .int .i64 b.win, .int .i64 b.draw, .int .i64 b.loss, vl, .bool b.again, vg, vfa, vta]] w fun e w' => ∃ ra rc, e = .returned (.agg #[vf, .int .i64 b.win, .int .i64 b.draw, .int .i64 b.loss, vl, .bool b.again, vg, vfa, vta, .slice ra b.nf rc]) ∧ RowRow w' (.slice ra b.nf rc) b.nf (tabAll b) ∧ Below w.heap.size w w' :=
  (judgeOf_in vf vl vg vfa vta b w hp h).mono fun _ _ ⟨ra, rc, h1, h2, h3, _⟩ => ⟨ra, rc, h1, h2, h3⟩

set_option maxRecDepth 100000 in
set_option maxHeartbeats 2000000 in
theorem among_impl (fa : Option Addr) (fc : Nat) (la : Option Addr) (lc : Nat) (ga : Option Addr) (gc : Nat) (qa : Option Addr) (qc : Nat) (ta : Option Addr) (tc : Nat) (b : BookD) (ra : Option Addr) (rc : Nat) (T : Nat → RowD) (gv : Value) (ng : Nat) (gg : Nat → Int) (w : World) (hp : bookP b) (h : BookRow w (.slice fa b.nf fc) (.slice la b.nl lc) (.slice ga b.m gc) (.slice qa b.nfa qc) (.slice ta b.nta tc) b) (ht : RowRow w (.slice ra b.nf rc) b.nf T) (hgv : IntRow w gv ng gg) :
    Calls Tryz.prog 49 #[.agg #[.slice fa b.nf fc, .int .i64 b.win, .int .i64 b.draw, .int .i64 b.loss, .slice la b.nl lc, .bool b.again, .slice ga b.m gc, .slice qa b.nfa qc, .slice ta b.nta tc, .slice ra b.nf rc], gv] w fun e w' => ∃ ra2 rc2, e = .returned (.agg #[.slice fa b.nf fc, .int .i64 b.win, .int .i64 b.draw, .int .i64 b.loss, .slice la b.nl lc, .bool b.again, .slice ga b.m gc, .slice qa b.nfa qc, .slice ta b.nta tc, .slice ra2 b.nf rc2]) ∧ RowRow w' (.slice ra2 b.nf rc2) b.nf (tabSome b gg ng) ∧ Below w.heap.size w w' := by
  have C := Lib.hid (fun wa h1 h2 h3 => tableAmong_impl b.win b.draw b.loss (.slice la b.nl lc) b.nl b.l b.again b.nf (.slice ga b.m gc) b.m b.g gv ng gg true wa ⟨fun _ => book_tab hp, fun _ => rfl⟩ h1 h2 h3)
  rw [book_n] at C
  have hsix := h.sixty
  have HR := Lib.hid h
  have HTT := Lib.hid ht
  have HG := Lib.hid hgv
  obtain ⟨xa, xc, rfl, _, _⟩ := hgv.form
  clear h ht hgv
  unfold tabSome
  generalize tabR b.win b.draw b.loss (selG false gg ng) b.g b.m = T2 at *
  go_enter Tryz.func49, Tryz.ntmps49
  obtain ⟨S, HSd⟩ : ∃ S : World → Prop, S = fun w' => (fun x => JgAt w x w.heap.size fa fc la lc ga gc qa qc ta tc b ra rc T ∧ ResAt x (w.heap.size + 1) 10) w' := ⟨_, rfl⟩
  have KS : Hid (∀ wa wb, S wa → Below wa.heap.size wa wb → S wb) := by subst HSd; exact fun wa wb h b => ⟨h.1.next b, h.2.below b⟩
  have OS : Hid (∀ wa, S wa → (fun x => JgAt w x w.heap.size fa fc la lc ga gc qa qc ta tc b ra rc T ∧ ResAt x (w.heap.size + 1) 10) wa) := by subst HSd; exact fun wa h => h
  have IS : Hid (∀ wa, (fun x => JgAt w x w.heap.size fa fc la lc ga gc qa qc ta tc b ra rc T ∧ ResAt x (w.heap.size + 1) 10) wa → S wa) := by subst HSd; exact fun wa h => h
  clear HSd
  go_wp2_with fail
  refine wp_region_held_drew (S := S) (by kernel_rfl) ?_ (fun hHeld => ?_)
  · exact IS.out _ (⟨((JgAt.made HR.out HTT.out 52).alloc _).drew, (ResAt.made' (by simp) rfl).drew⟩)
  refine wpAnyH_take (i := 0) (v := ?_) rfl (by kernel_rfl) (by kernel_rfl) (by kernel_rfl) (fun _ _ _ h => h) (Or.inl ⟨by rfl, ?_⟩) hHeld ?_
  rotate_left
  · (intro wa hSw; go_simp; try with_reducible rfl)
  simp only [Act.put, List.getElem_toArray, List.getElem_cons_zero, List.setIfInBounds_toArray, List.set_cons_zero, List.set_cons_succ]
  refine wpAnyH_take (i := 1) (v := ?_) rfl (by kernel_rfl) (by kernel_rfl) (by kernel_rfl) (fun _ _ _ h => h) (Or.inl ⟨by rfl, ?_⟩) hHeld ?_
  rotate_left
  · (intro wa hSw; have K := OS.out _ hSw; obtain ⟨d0, d1, d2, d3, d4, d5, d6, d7, d8, d9⟩ := K.1.cells; go_simp; try with_reducible rfl)
  simp only [Act.put, List.getElem_toArray, List.getElem_cons_zero, List.getElem_cons_succ, List.setIfInBounds_toArray, List.set_cons_zero, List.set_cons_succ]
  refine wpAnyH_take (i := 2) (v := ?_) rfl (by kernel_rfl) (by kernel_rfl) (by kernel_rfl) (fun _ _ _ h => h) (Or.inl ⟨by rfl, ?_⟩) hHeld ?_
  rotate_left
  · (intro wa hSw; go_simp; try with_reducible rfl)
  simp only [Act.put, List.getElem_toArray, List.getElem_cons_zero, List.getElem_cons_succ, List.setIfInBounds_toArray, List.set_cons_zero, List.set_cons_succ]
  refine wpAnyH_take (i := 3) (v := ?_) rfl (by kernel_rfl) (by kernel_rfl) (by kernel_rfl) (fun _ _ _ h => h) (Or.inl ⟨by rfl, ?_⟩) hHeld ?_
  rotate_left
  · (intro wa hSw; go_simp; try with_reducible rfl)
  simp only [Act.put, List.getElem_toArray, List.getElem_cons_zero, List.getElem_cons_succ, List.setIfInBounds_toArray, List.set_cons_zero, List.set_cons_succ]
  refine wpAnyH_take (i := 4) (v := ?_) rfl (by kernel_rfl) (by kernel_rfl) (by kernel_rfl) (fun _ _ _ h => h) (Or.inl ⟨by rfl, ?_⟩) hHeld ?_
  rotate_left
  · (intro wa hSw; have K := OS.out _ hSw; obtain ⟨d0, d1, d2, d3, d4, d5, d6, d7, d8, d9⟩ := K.1.cells; go_simp; try with_reducible rfl)
  simp only [Act.put, List.getElem_toArray, List.getElem_cons_zero, List.getElem_cons_succ, List.setIfInBounds_toArray, List.set_cons_zero, List.set_cons_succ]
  refine wpAnyH_take (i := 5) (v := ?_) rfl (by kernel_rfl) (by kernel_rfl) (by kernel_rfl) (fun _ _ _ h => h) (Or.inl ⟨by rfl, ?_⟩) hHeld ?_
  rotate_left
  · (intro wa hSw; go_simp; try with_reducible rfl)
  simp only [Act.put, List.getElem_toArray, List.getElem_cons_zero, List.getElem_cons_succ, List.setIfInBounds_toArray, List.set_cons_zero, List.set_cons_succ]
  refine wpAnyH_take (i := 6) (v := ?_) rfl (by kernel_rfl) (by kernel_rfl) (by kernel_rfl) (fun _ _ _ h => h) (Or.inl ⟨by rfl, ?_⟩) hHeld ?_
  rotate_left
  · (intro wa hSw; go_simp; try with_reducible rfl)
  simp only [Act.put, List.getElem_toArray, List.getElem_cons_zero, List.getElem_cons_succ, List.setIfInBounds_toArray, List.set_cons_zero, List.set_cons_succ]
  refine wpAnyH_take (i := 7) (v := ?_) rfl (by kernel_rfl) (by kernel_rfl) (by kernel_rfl) (fun _ _ _ h => h) (Or.inl ⟨by rfl, ?_⟩) hHeld ?_
  rotate_left
  · (intro wa hSw; have K := OS.out _ hSw; obtain ⟨d0, d1, d2, d3, d4, d5, d6, d7, d8, d9⟩ := K.1.cells; go_simp; try with_reducible rfl)
  simp only [Act.put, List.getElem_toArray, List.getElem_cons_zero, List.getElem_cons_succ, List.setIfInBounds_toArray, List.set_cons_zero, List.set_cons_succ]
  refine wpAnyH_take (i := 8) (v := ?_) rfl (by kernel_rfl) (by kernel_rfl) (by kernel_rfl) (fun _ _ _ h => h) (Or.inl ⟨by rfl, ?_⟩) hHeld ?_
  rotate_left
  · (intro wa hSw; go_simp; try with_reducible rfl)
  simp only [Act.put, List.getElem_toArray, List.getElem_cons_zero, List.getElem_cons_succ, List.setIfInBounds_toArray, List.set_cons_zero, List.set_cons_succ]
  refine wpAnyH_take (i := 9) (v := ?_) rfl (by kernel_rfl) (by kernel_rfl) (by kernel_rfl) (fun _ _ _ h => h) (Or.inl ⟨by rfl, ?_⟩) hHeld ?_
  rotate_left
  · (intro wa hSw; go_simp; try with_reducible rfl)
  simp only [Act.put, List.getElem_toArray, List.getElem_cons_zero, List.getElem_cons_succ, List.setIfInBounds_toArray, List.set_cons_zero, List.set_cons_succ]
  refine wpAnyH_take (i := 10) (v := ?_) rfl (by kernel_rfl) (by kernel_rfl) (by kernel_rfl) (fun _ _ _ h => h) (Or.inl ⟨by rfl, ?_⟩) hHeld ?_
  rotate_left
  · (intro wa hSw; go_simp; try with_reducible rfl)
  simp only [Act.put, List.getElem_toArray, List.getElem_cons_zero, List.getElem_cons_succ, List.setIfInBounds_toArray, List.set_cons_zero, List.set_cons_succ]
  refine wpAnyH_take (i := 11) (v := ?_) rfl (by kernel_rfl) (by kernel_rfl) (by kernel_rfl) (fun _ _ _ h => h) (Or.inl ⟨by rfl, ?_⟩) hHeld ?_
  rotate_left
  · (intro wa hSw; have K := OS.out _ hSw; obtain ⟨d0, d1, d2, d3, d4, d5, d6, d7, d8, d9⟩ := K.1.cells; go_simp; try with_reducible rfl)
  simp only [Act.put, List.getElem_toArray, List.getElem_cons_zero, List.getElem_cons_succ, List.setIfInBounds_toArray, List.set_cons_zero, List.set_cons_succ]
  refine wpAnyH_take (i := 12) (v := ?_) rfl (by kernel_rfl) (by kernel_rfl) (by kernel_rfl) (fun _ _ _ h => h) (Or.inl ⟨by rfl, ?_⟩) hHeld ?_
  rotate_left
  · (intro wa hSw; go_simp; try with_reducible rfl)
  simp only [Act.put, List.getElem_toArray, List.getElem_cons_zero, List.getElem_cons_succ, List.setIfInBounds_toArray, List.set_cons_zero, List.set_cons_succ]
  refine wpAnyH_ready (rs := [13]) (by kernel_rfl) (by simp) ?_
  refine AllReadyH.cons (o := _) rfl (fun K hK => ?_) AllReadyH.nil
  go_simp
  have KK := OS.out _ hHeld
  refine (C.out _ KK.1.row.2.1 KK.1.row.2.2.1 (HG.out.below KK.1.bel (Nat.le_refl _))).mono ?_
  rintro e w101 ⟨vr, rfl, hTR, ⟨xs, hOX⟩, b101⟩
  clear KK
  obtain ⟨ra2, rc2, rfl, _, _⟩ := RowRow.form hTR
  have hTR := Lib.hid hTR
  have hIW := Lib.hid ((InW.of_owns hOX).mono (lo' := w.heap.size + 2) (by simp) (Nat.le_refl _))
  have HQ := Lib.hid (OS.out _ hHeld)
  have hBK := Lib.hid (HQ.out.1.bel.trans (b101.mono HQ.out.1.bel.size))
  have HRA := Lib.hid (HQ.out.2.below b101)
  (try go_wp2_with fail)
  refine hK.out _ _ ?_ (fun hHeld101 => ?_)
  · exact KS.out _ _ hHeld b101
  clear hK K
  refine wpAnyH_take (i := 14) (v := ?_) rfl (by kernel_rfl) (by kernel_rfl) (by kernel_rfl) (fun _ _ _ h => h) (Or.inl ⟨by rfl, ?_⟩) hHeld101 ?_
  rotate_left
  · (intro wa hSw; go_simp; try with_reducible rfl)
  simp only [Act.put, List.getElem_toArray, List.getElem_cons_zero, List.getElem_cons_succ, List.setIfInBounds_toArray, List.set_cons_zero, List.set_cons_succ]
  refine wpAnyH_ready (rs := [15]) (by kernel_rfl) (by simp) ?_
  refine AllReadyH.cons (o := _) rfl (fun K hK => ?_) AllReadyH.nil
  have KK := OS.out _ hHeld101
  obtain ⟨⟨x0, q0⟩, z0⟩ := KK.2.at 0 (by omega)
  obtain ⟨⟨x1, q1⟩, z1⟩ := KK.2.at 1 (by omega)
  obtain ⟨⟨x2, q2⟩, z2⟩ := KK.2.at 2 (by omega)
  obtain ⟨⟨x3, q3⟩, z3⟩ := KK.2.at 3 (by omega)
  obtain ⟨⟨x4, q4⟩, z4⟩ := KK.2.at 4 (by omega)
  obtain ⟨⟨x5, q5⟩, z5⟩ := KK.2.at 5 (by omega)
  obtain ⟨⟨x6, q6⟩, z6⟩ := KK.2.at 6 (by omega)
  obtain ⟨⟨x7, q7⟩, z7⟩ := KK.2.at 7 (by omega)
  obtain ⟨⟨x8, q8⟩, z8⟩ := KK.2.at 8 (by omega)
  obtain ⟨⟨x9, q9⟩, z9⟩ := KK.2.at 9 (by omega)
  go_simp
  refine hK.out _ _ ?_ (fun hHeld102 => ?_)
  · exact IS.out _ ((fun K => ⟨⟨jg_put (w := w) (by omega) [.slice fa b.nf fc, .int .i64 b.win, .int .i64 b.draw, .int .i64 b.loss, .slice la b.nl lc, .bool b.again, .slice ga b.m gc, .slice qa b.nfa qc, .slice ta b.nta tc, .slice ra2 b.nf rc2] 0 _ K.1.box, K.1.row0, K.1.tab0, Below.putCs (by omega) [.slice fa b.nf fc, .int .i64 b.win, .int .i64 b.draw, .int .i64 b.loss, .slice la b.nl lc, .bool b.again, .slice ga b.m gc, .slice qa b.nfa qc, .slice ta b.nta tc, .slice ra2 b.nf rc2] 0 _ _ K.1.bel⟩, by exact (K.2.put (vs := [.slice fa b.nf fc, .int .i64 b.win, .int .i64 b.draw, .int .i64 b.loss, .slice la b.nl lc, .bool b.again, .slice ga b.m gc, .slice qa b.nfa qc, .slice ta b.nta tc, .slice ra2 b.nf rc2]) rfl).of_put⟩) (OS.out _ hHeld101))
  clear hK K
  clear hHeld101
  refine wpAnyH_done (by kernel_rfl) ?_ _
  have KE := Lib.hid (OS.out _ hHeld102)
  clear KS OS IS hHeld hHeld102
  refine post_named fun w9 hw9 => ?_
  have e9 : w9 = putCs w101 (w.heap.size + 1) 0 [.slice fa b.nf fc, .int .i64 b.win, .int .i64 b.draw, .int .i64 b.loss, .slice la b.nl lc, .bool b.again, .slice ga b.m gc, .slice qa b.nfa qc, .slice ta b.nta tc, .slice ra2 b.nf rc2] := hw9.out
  have HT9 := Lib.hid (hTR.out.touch (hi := w.heap.size + 1 + 1) (lo := w.heap.size + 1) (Touch.putCs (Nat.le_refl _) (by omega) [.slice fa b.nf fc, .int .i64 b.win, .int .i64 b.draw, .int .i64 b.loss, .slice la b.nl lc, .bool b.again, .slice ga b.m gc, .slice qa b.nfa qc, .slice ta b.nta tc, .slice ra2 b.nf rc2] 0 _ _ (Touch.refl _ _ _)) (fun _ => hIW.out) (.inr (by have := HRA.out.lt; omega)))
  have HB9 := Lib.hid (Below.putCs (C := w.heap.size) (B := w.heap.size + 1) (by omega) [.slice fa b.nf fc, .int .i64 b.win, .int .i64 b.draw, .int .i64 b.loss, .slice la b.nl lc, .bool b.again, .slice ga b.m gc, .slice qa b.nfa qc, .slice ta b.nta tc, .slice ra2 b.nf rc2] 0 _ _ hBK.out)
  have HX9 := Lib.hid (HRA.out.put (vs := [.slice fa b.nf fc, .int .i64 b.win, .int .i64 b.draw, .int .i64 b.loss, .slice la b.nl lc, .bool b.again, .slice ga b.m gc, .slice qa b.nfa qc, .slice ta b.nta tc, .slice ra2 b.nf rc2]) rfl)
  rw [← e9] at HT9 HB9 HX9
  clear hw9 e9 hTR hIW hBK HRA KE
  have y0 := (HX9.out.2 0 _ rfl).1
  have y1 := (HX9.out.2 1 _ rfl).1
  have y2 := (HX9.out.2 2 _ rfl).1
  have y3 := (HX9.out.2 3 _ rfl).1
  have y4 := (HX9.out.2 4 _ rfl).1
  have y5 := (HX9.out.2 5 _ rfl).1
  have y6 := (HX9.out.2 6 _ rfl).1
  have y7 := (HX9.out.2 7 _ rfl).1
  have y8 := (HX9.out.2 8 _ rfl).1
  have y9 := (HX9.out.2 9 _ rfl).1
  have y_lt := HX9.out.1
  clear HX9
  go_wp2
  (try simp only [Exit.inBlock, Exit.then])
  refine bodyPost_ret (v := .agg #[.slice fa b.nf fc, .int .i64 b.win, .int .i64 b.draw, .int .i64 b.loss, .slice la b.nl lc, .bool b.again, .slice ga b.m gc, .slice qa b.nfa qc, .slice ta b.nta tc, .slice ra2 b.nf rc2]) ?_ rfl ⟨_, _, rfl, HT9.out, HB9.out⟩
  rw [results_cell rfl]
  go_simp

theorem team_of {w : World} {a : Option Addr} {c n j : Nat} {g : Nat → TeamD} (h : TeamRow w (.slice a n c) n g) (hj : j < n) : ∃ bo off, a = some ⟨bo, off, none⟩ ∧ n ≤ c ∧ (w.cell? ⟨bo, off + j * 3, none⟩ = some (.string (g j).nm) ∧ w.cell? ⟨bo, off + j * 3 + 1, none⟩ = some (.int .i64 (g j).club) ∧ w.cell? ⟨bo, off + j * 3 + 2, none⟩ = some (.int .i64 (g j).seed)) := by
  obtain ⟨aa, cap, he, _, hc⟩ := h.form'
  simp only [Value.slice.injEq, true_and] at he
  obtain ⟨bo, off, h1, h2, h3⟩ := hc (by omega)
  obtain ⟨rfl, rfl⟩ := he
  exact ⟨bo, off, h1, h2, h3 j hj⟩
theorem wrapEqJ (x : Int) : IntKind.i64.wrap x = wrap64 x := by rw [IntKind.wrap_i64]; unfold wrap64; omega

set_option maxRecDepth 100000 in
set_option maxHeartbeats 2000000 in
theorem j_points (fa : Option Addr) (fc : Nat) (la : Option Addr) (lc : Nat) (ga : Option Addr) (gc : Nat) (qa : Option Addr) (qc : Nat) (ta : Option Addr) (tc : Nat) (b : BookD) (ra : Option Addr) (rc : Nat) (T : Nat → RowD) (t : Nat) (w : World) (hp : bookP b) (h : BookRow w (.slice fa b.nf fc) (.slice la b.nl lc) (.slice ga b.m gc) (.slice qa b.nfa qc) (.slice ta b.nta tc) b) (ht : RowRow w (.slice ra b.nf rc) b.nf T) (hlt : t < b.nf) :
    Calls Tryz.prog 50 #[.agg #[.slice fa b.nf fc, .int .i64 b.win, .int .i64 b.draw, .int .i64 b.loss, .slice la b.nl lc, .bool b.again, .slice ga b.m gc, .slice qa b.nfa qc, .slice ta b.nta tc, .slice ra b.nf rc], .int .i64 t] w fun e w' => e = .returned (.int .i64 (T t).points) ∧ Below w.heap.size w w' := by
  have K0 := Lib.hid (JgAt.made h ht 52)
  have hsix := h.sixty
  clear h ht
  obtain ⟨bo, off, rfl, hcap, hc⟩ := row_of K0.out.tab hlt
  obtain ⟨c0, c1, c2, c3, c4, c5, c6⟩ := row_cells hc
  clear hc
  generalize T t = x at *
  obtain ⟨d0, d1, d2, d3, d4, d5, d6, d7, d8, d9⟩ := K0.out.cells
  have HB := Lib.hid K0.out.bel
  clear K0
  go_enter Tryz.func50, Tryz.ntmps50
  go_wp2
  go_ret
  exact ⟨rfl, HB.out⟩

set_option maxRecDepth 100000 in
set_option maxHeartbeats 2000000 in
theorem j_scored (fa : Option Addr) (fc : Nat) (la : Option Addr) (lc : Nat) (ga : Option Addr) (gc : Nat) (qa : Option Addr) (qc : Nat) (ta : Option Addr) (tc : Nat) (b : BookD) (ra : Option Addr) (rc : Nat) (T : Nat → RowD) (t : Nat) (w : World) (hp : bookP b) (h : BookRow w (.slice fa b.nf fc) (.slice la b.nl lc) (.slice ga b.m gc) (.slice qa b.nfa qc) (.slice ta b.nta tc) b) (ht : RowRow w (.slice ra b.nf rc) b.nf T) (hlt : t < b.nf) :
    Calls Tryz.prog 47 #[.agg #[.slice fa b.nf fc, .int .i64 b.win, .int .i64 b.draw, .int .i64 b.loss, .slice la b.nl lc, .bool b.again, .slice ga b.m gc, .slice qa b.nfa qc, .slice ta b.nta tc, .slice ra b.nf rc], .int .i64 t] w fun e w' => e = .returned (.int .i64 (T t).scored) ∧ Below w.heap.size w w' := by
  have K0 := Lib.hid (JgAt.made h ht 52)
  have hsix := h.sixty
  clear h ht
  obtain ⟨bo, off, rfl, hcap, hc⟩ := row_of K0.out.tab hlt
  obtain ⟨c0, c1, c2, c3, c4, c5, c6⟩ := row_cells hc
  clear hc
  generalize T t = x at *
  obtain ⟨d0, d1, d2, d3, d4, d5, d6, d7, d8, d9⟩ := K0.out.cells
  have HB := Lib.hid K0.out.bel
  clear K0
  go_enter Tryz.func47, Tryz.ntmps47
  go_wp2
  go_ret
  exact ⟨rfl, HB.out⟩

set_option maxRecDepth 100000 in
set_option maxHeartbeats 2000000 in
theorem j_wins (fa : Option Addr) (fc : Nat) (la : Option Addr) (lc : Nat) (ga : Option Addr) (gc : Nat) (qa : Option Addr) (qc : Nat) (ta : Option Addr) (tc : Nat) (b : BookD) (ra : Option Addr) (rc : Nat) (T : Nat → RowD) (t : Nat) (w : World) (hp : bookP b) (h : BookRow w (.slice fa b.nf fc) (.slice la b.nl lc) (.slice ga b.m gc) (.slice qa b.nfa qc) (.slice ta b.nta tc) b) (ht : RowRow w (.slice ra b.nf rc) b.nf T) (hlt : t < b.nf) :
    Calls Tryz.prog 48 #[.agg #[.slice fa b.nf fc, .int .i64 b.win, .int .i64 b.draw, .int .i64 b.loss, .slice la b.nl lc, .bool b.again, .slice ga b.m gc, .slice qa b.nfa qc, .slice ta b.nta tc, .slice ra b.nf rc], .int .i64 t] w fun e w' => e = .returned (.int .i64 (T t).wins) ∧ Below w.heap.size w w' := by
  have K0 := Lib.hid (JgAt.made h ht 52)
  have hsix := h.sixty
  clear h ht
  obtain ⟨bo, off, rfl, hcap, hc⟩ := row_of K0.out.tab hlt
  obtain ⟨c0, c1, c2, c3, c4, c5, c6⟩ := row_cells hc
  clear hc
  generalize T t = x at *
  obtain ⟨d0, d1, d2, d3, d4, d5, d6, d7, d8, d9⟩ := K0.out.cells
  have HB := Lib.hid K0.out.bel
  clear K0
  go_enter Tryz.func48, Tryz.ntmps48
  go_wp2
  go_ret
  exact ⟨rfl, HB.out⟩

set_option maxRecDepth 100000 in
set_option maxHeartbeats 2000000 in
theorem j_difference (fa : Option Addr) (fc : Nat) (la : Option Addr) (lc : Nat) (ga : Option Addr) (gc : Nat) (qa : Option Addr) (qc : Nat) (ta : Option Addr) (tc : Nat) (b : BookD) (ra : Option Addr) (rc : Nat) (T : Nat → RowD) (t : Nat) (w : World) (hp : bookP b) (h : BookRow w (.slice fa b.nf fc) (.slice la b.nl lc) (.slice ga b.m gc) (.slice qa b.nfa qc) (.slice ta b.nta tc) b) (ht : RowRow w (.slice ra b.nf rc) b.nf T) (hlt : t < b.nf) :
    Calls Tryz.prog 46 #[.agg #[.slice fa b.nf fc, .int .i64 b.win, .int .i64 b.draw, .int .i64 b.loss, .slice la b.nl lc, .bool b.again, .slice ga b.m gc, .slice qa b.nfa qc, .slice ta b.nta tc, .slice ra b.nf rc], .int .i64 t] w fun e w' => e = .returned (.int .i64 (wrap64 ((T t).scored - (T t).against))) ∧ Below w.heap.size w w' := by
  have K0 := Lib.hid (JgAt.made h ht 52)
  have hsix := h.sixty
  clear h ht
  obtain ⟨bo, off, rfl, hcap, hc⟩ := row_of K0.out.tab hlt
  obtain ⟨c0, c1, c2, c3, c4, c5, c6⟩ := row_cells hc
  clear hc
  generalize T t = x at *
  have C := Lib.hid (fun wa => differenceOf_impl x wa)
  obtain ⟨d0, d1, d2, d3, d4, d5, d6, d7, d8, d9⟩ := K0.out.cells
  have HB := Lib.hid K0.out.bel
  clear K0
  go_enter Tryz.func46, Tryz.ntmps46
  go_wp2_with fail
  refine (C.out _).mono ?_
  rintro e w1 ⟨rfl, b1⟩
  have HB1 := Lib.hid (HB.out.trans (b1.mono HB.out.size))
  clear b1 HB C d0 d1 d2 d3 d4 d5 d6 d7 d8 d9 c0 c1 c2 c3 c4 c5 c6
  have HB := HB1
  go_wp2
  go_ret
  exact ⟨rfl, HB.out⟩

set_option maxRecDepth 100000 in
set_option maxHeartbeats 2000000 in
theorem j_fairness (fa : Option Addr) (fc : Nat) (la : Option Addr) (lc : Nat) (ga : Option Addr) (gc : Nat) (qa : Option Addr) (qc : Nat) (ta : Option Addr) (tc : Nat) (b : BookD) (ra : Option Addr) (rc : Nat) (T : Nat → RowD) (t : Nat) (w : World) (hp : bookP b) (h : BookRow w (.slice fa b.nf fc) (.slice la b.nl lc) (.slice ga b.m gc) (.slice qa b.nfa qc) (.slice ta b.nta tc) b) (ht : RowRow w (.slice ra b.nf rc) b.nf T) (hlt : t < b.nf) :
    Calls Tryz.prog 51 #[.agg #[.slice fa b.nf fc, .int .i64 b.win, .int .i64 b.draw, .int .i64 b.loss, .slice la b.nl lc, .bool b.again, .slice ga b.m gc, .slice qa b.nfa qc, .slice ta b.nta tc, .slice ra b.nf rc], .int .i64 t] w fun e w' => e = .returned (.int .i64 (wrap64 (-(b.fa t)))) ∧ Below w.heap.size w w' := by
  have K0 := Lib.hid (JgAt.made h ht 52)
  have hsix := h.sixty
  clear h ht
  have hlt2 : t < b.nfa := by have hfa : b.nfa = b.nf := hp.2.2.2.1; omega
  obtain ⟨bo, off, rfl, hcap, c0⟩ := int_at K0.out.row.2.2.2.1 hlt2
  generalize b.fa t = x at *
  obtain ⟨d0, d1, d2, d3, d4, d5, d6, d7, d8, d9⟩ := K0.out.cells
  have HB := Lib.hid K0.out.bel
  clear K0
  go_enter Tryz.func51, Tryz.ntmps51
  go_wp2
  go_ret
  exact ⟨rfl, HB.out⟩

set_option maxRecDepth 100000 in
set_option maxHeartbeats 2000000 in
theorem j_seeding (fa : Option Addr) (fc : Nat) (la : Option Addr) (lc : Nat) (ga : Option Addr) (gc : Nat) (qa : Option Addr) (qc : Nat) (ta : Option Addr) (tc : Nat) (b : BookD) (ra : Option Addr) (rc : Nat) (T : Nat → RowD) (t : Nat) (w : World) (hp : bookP b) (h : BookRow w (.slice fa b.nf fc) (.slice la b.nl lc) (.slice ga b.m gc) (.slice qa b.nfa qc) (.slice ta b.nta tc) b) (ht : RowRow w (.slice ra b.nf rc) b.nf T) (hlt : t < b.nf) :
    Calls Tryz.prog 52 #[.agg #[.slice fa b.nf fc, .int .i64 b.win, .int .i64 b.draw, .int .i64 b.loss, .slice la b.nl lc, .bool b.again, .slice ga b.m gc, .slice qa b.nfa qc, .slice ta b.nta tc, .slice ra b.nf rc], .int .i64 t] w fun e w' => e = .returned (.int .i64 (wrap64 (-(b.f t).seed))) ∧ Below w.heap.size w w' := by
  have K0 := Lib.hid (JgAt.made h ht 52)
  have hsix := h.sixty
  clear h ht
  obtain ⟨bo, off, rfl, hcap, cc⟩ := team_of K0.out.row.1 hlt
  obtain ⟨c0, c1, c2⟩ := cc
  generalize b.f t = x at *
  obtain ⟨d0, d1, d2, d3, d4, d5, d6, d7, d8, d9⟩ := K0.out.cells
  have HB := Lib.hid K0.out.bel
  clear K0
  go_enter Tryz.func52, Tryz.ntmps52
  go_wp2
  go_ret
  exact ⟨rfl, HB.out⟩

set_option maxRecDepth 100000 in
set_option maxHeartbeats 2000000 in
theorem j_left (fa : Option Addr) (fc : Nat) (la : Option Addr) (lc : Nat) (ga : Option Addr) (gc : Nat) (qa : Option Addr) (qc : Nat) (ta : Option Addr) (tc : Nat) (b : BookD) (ra : Option Addr) (rc : Nat) (T : Nat → RowD) (t : Nat) (w : World) (hp : bookP b) (h : BookRow w (.slice fa b.nf fc) (.slice la b.nl lc) (.slice ga b.m gc) (.slice qa b.nfa qc) (.slice ta b.nta tc) b) (ht : RowRow w (.slice ra b.nf rc) b.nf T) (hlt : t < b.nf) :
    Calls Tryz.prog 45 #[.agg #[.slice fa b.nf fc, .int .i64 b.win, .int .i64 b.draw, .int .i64 b.loss, .slice la b.nl lc, .bool b.again, .slice ga b.m gc, .slice qa b.nfa qc, .slice ta b.nta tc, .slice ra b.nf rc], .int .i64 t] w fun e w' => e = .returned (.int .i64 (wrap64 ((T t).points - b.ta t))) ∧ Below w.heap.size w w' := by
  have hsix := h.sixty
  have hlt2 : t < b.nta := by have hta : b.nta = b.nf := hp.2.2.2.2.1; omega
  have hw := fun (x y : Int) => wrapEqJ (x - y)
  have C := Lib.hid (fun wa h1 h2 => j_points fa fc la lc ga gc qa qc ta tc b ra rc T t wa hp h1 h2 hlt)
  have HR := Lib.hid h
  have HTT := Lib.hid ht
  obtain ⟨qo, qf, rfl, hcap, _⟩ := int_at h.2.2.2.2 hlt2
  have HT1 : Hid (∀ wa, Below w.heap.size w wa → wa.cell? ⟨qo, qf + t, none⟩ = some (.int .i64 (b.ta t))) := fun wa hb => by
    obtain ⟨q1, q2, hq, _, hc⟩ := int_at (HR.out.2.2.2.2.below hb (Nat.le_refl _)) hlt2
    simp only [Option.some.injEq, Addr.mk.injEq, and_true] at hq
    obtain ⟨rfl, rfl⟩ := hq
    exact hc
  clear h ht
  generalize T t = x at *
  generalize b.ta t = y at *
  go_enter Tryz.func45, Tryz.ntmps45
  obtain ⟨S, HSd⟩ : ∃ S : World → Prop, S = fun w' => (fun z => JgAt w z w.heap.size fa fc la lc ga gc qa qc (some ⟨qo, qf, none⟩) tc b ra rc T) w' := ⟨_, rfl⟩
  have KS : Hid (∀ wa wb, S wa → Below wa.heap.size wa wb → S wb) := by subst HSd; exact fun wa wb h b => h.next b
  have OS : Hid (∀ wa, S wa → (fun z => JgAt w z w.heap.size fa fc la lc ga gc qa qc (some ⟨qo, qf, none⟩) tc b ra rc T) wa) := by subst HSd; exact fun wa h => h
  have IS : Hid (∀ wa, (fun z => JgAt w z w.heap.size fa fc la lc ga gc qa qc (some ⟨qo, qf, none⟩) tc b ra rc T) wa → S wa) := by subst HSd; exact fun wa h => h
  clear HSd
  go_wp2_with fail
  refine wp_region_held_drew (S := S) (by kernel_rfl) ?_ (fun hHeld => ?_)
  · exact IS.out _ ((JgAt.made HR.out HTT.out 52).drew)
  refine wpAnyH_take (i := 0) (v := ?_) rfl (by kernel_rfl) (by kernel_rfl) (by kernel_rfl) (fun _ _ _ h => h) (Or.inl ⟨by rfl, ?_⟩) hHeld ?_
  rotate_left
  · (intro wa hSw; have K := OS.out _ hSw; obtain ⟨d0, d1, d2, d3, d4, d5, d6, d7, d8, d9⟩ := K.cells; have z0 := HT1.out _ K.bel; go_simp; try with_reducible rfl)
  simp only [Act.put, List.getElem_toArray, List.getElem_cons_zero, List.setIfInBounds_toArray, List.set_cons_zero, List.set_cons_succ]
  refine wpAnyH_take (i := 1) (v := ?_) rfl (by kernel_rfl) (by kernel_rfl) (by kernel_rfl) (fun _ _ _ h => h) (Or.inl ⟨by rfl, ?_⟩) hHeld ?_
  rotate_left
  · (intro wa hSw; go_simp; try with_reducible rfl)
  simp only [Act.put, List.getElem_toArray, List.getElem_cons_zero, List.getElem_cons_succ, List.setIfInBounds_toArray, List.set_cons_zero, List.set_cons_succ]
  refine wpAnyH_take (i := 3) (v := ?_) rfl (by kernel_rfl) (by kernel_rfl) (by kernel_rfl) (fun _ _ _ h => h) (Or.inl ⟨by rfl, ?_⟩) hHeld ?_
  rotate_left
  · (intro wa hSw; go_simp; try with_reducible rfl)
  simp only [Act.put, List.getElem_toArray, List.getElem_cons_zero, List.getElem_cons_succ, List.setIfInBounds_toArray, List.set_cons_zero, List.set_cons_succ]
  refine wpAnyH_take (i := 4) (v := ?_) rfl (by kernel_rfl) (by kernel_rfl) (by kernel_rfl) (fun _ _ _ h => h) (Or.inl ⟨by rfl, ?_⟩) hHeld ?_
  rotate_left
  · (intro wa hSw; go_simp; try with_reducible rfl)
  simp only [Act.put, List.getElem_toArray, List.getElem_cons_zero, List.getElem_cons_succ, List.setIfInBounds_toArray, List.set_cons_zero, List.set_cons_succ]
  refine wpAnyH_take (i := 5) (v := ?_) rfl (by kernel_rfl) (by kernel_rfl) (by kernel_rfl) (fun _ _ _ h => h) (Or.inl ⟨by rfl, ?_⟩) hHeld ?_
  rotate_left
  · (intro wa hSw; have K := OS.out _ hSw; obtain ⟨d0, d1, d2, d3, d4, d5, d6, d7, d8, d9⟩ := K.cells; have z0 := HT1.out _ K.bel; go_simp; try with_reducible rfl)
  simp only [Act.put, List.getElem_toArray, List.getElem_cons_zero, List.getElem_cons_succ, List.setIfInBounds_toArray, List.set_cons_zero, List.set_cons_succ]
  refine wpAnyH_take (i := 6) (v := ?_) rfl (by kernel_rfl) (by kernel_rfl) (by kernel_rfl) (fun _ _ _ h => h) (Or.inl ⟨by rfl, ?_⟩) hHeld ?_
  rotate_left
  · (intro wa hSw; go_simp; try with_reducible rfl)
  simp only [Act.put, List.getElem_toArray, List.getElem_cons_zero, List.getElem_cons_succ, List.setIfInBounds_toArray, List.set_cons_zero, List.set_cons_succ]
  refine wpAnyH_take (i := 7) (v := ?_) rfl (by kernel_rfl) (by kernel_rfl) (by kernel_rfl) (fun _ _ _ h => h) (Or.inl ⟨by rfl, ?_⟩) hHeld ?_
  rotate_left
  · (intro wa hSw; go_simp; try with_reducible rfl)
  simp only [Act.put, List.getElem_toArray, List.getElem_cons_zero, List.getElem_cons_succ, List.setIfInBounds_toArray, List.set_cons_zero, List.set_cons_succ]
  refine wpAnyH_take (i := 8) (v := ?_) rfl (by kernel_rfl) (by kernel_rfl) (by kernel_rfl) (fun _ _ _ h => h) (Or.inl ⟨by rfl, ?_⟩) hHeld ?_
  rotate_left
  · (intro wa hSw; have K := OS.out _ hSw; obtain ⟨d0, d1, d2, d3, d4, d5, d6, d7, d8, d9⟩ := K.cells; have z0 := HT1.out _ K.bel; go_simp; try with_reducible rfl)
  simp only [Act.put, List.getElem_toArray, List.getElem_cons_zero, List.getElem_cons_succ, List.setIfInBounds_toArray, List.set_cons_zero, List.set_cons_succ]
  refine wpAnyH_ready (rs := [2]) (by kernel_rfl) (by simp) ?_
  refine AllReadyH.cons (o := _) rfl (fun K hK => ?_) AllReadyH.nil
  go_simp
  have KK := OS.out _ hHeld
  refine (C.out _ KK.row KK.tab).mono ?_
  rintro e w101 ⟨rfl, b101⟩
  clear KK
  (try go_wp2_with fail)
  refine hK.out _ _ ?_ (fun hHeld101 => ?_)
  · exact KS.out _ _ hHeld b101
  clear hK K
  refine wpAnyH_take (i := 9) (v := ?_) rfl (by kernel_rfl) (by kernel_rfl) (by kernel_rfl) (fun _ _ _ h => h) (Or.inl ⟨by rfl, ?_⟩) hHeld101 ?_
  rotate_left
  · (intro wa hSw; go_simp; try with_reducible rfl)
  simp only [Act.put, List.getElem_toArray, List.getElem_cons_zero, List.getElem_cons_succ, List.setIfInBounds_toArray, List.set_cons_zero, List.set_cons_succ]
  refine wpAnyH_take (i := 10) (v := ?_) rfl (by kernel_rfl) (by kernel_rfl) (by kernel_rfl) (fun _ _ _ h => h) (Or.inl ⟨by rfl, ?_⟩) hHeld101 ?_
  rotate_left
  · (intro wa hSw; go_simp; try with_reducible rfl)
  simp only [Act.put, List.getElem_toArray, List.getElem_cons_zero, List.getElem_cons_succ, List.setIfInBounds_toArray, List.set_cons_zero, List.set_cons_succ]
  refine wpAnyH_done (by kernel_rfl) ?_ _
  have KE := Lib.hid (OS.out _ hHeld101)
  clear KS OS IS hHeld hHeld101
  have HB := Lib.hid KE.out.bel
  clear KE
  go_wp2
  go_ret
  exact ⟨rfl, HB.out⟩

end Go.Proofs.YteciobkjfmddcaaGreatDoor
set_option linter.unusedVariables false
namespace Go.Proofs.YteciobkjfmddcaaGreatDoor
open Go.RowKit

def ValFn (w : World) (fv : Value) (n : Nat) (V : Nat → Int) : Prop :=
  ∃ (f : Nat) (bd : Array Value), (bd = #[] ∨ ∃ J, bd = #[J]) ∧ fv = .func (.func f) bd #[] ∧ Entered f ∧ ∀ (t : Nat) w', t < n → Below w.heap.size w w' → Calls Tryz.prog f (bd.push (.int .i64 t)) w' fun e w'' => e = .returned (.int .i64 (V t)) ∧ Below w'.heap.size w' w''
theorem ValFn.below {w w' : World} {fv : Value} {n : Nat} {V : Nat → Int} (h : ValFn w fv n V) (hb : Below w.heap.size w w') : ValFn w' fv n V := by
  obtain ⟨f, bd, h1, h2, h3, h4⟩ := h
  exact ⟨f, bd, h1, h2, h3, fun t w2 ht h => h4 t w2 ht (hb.trans (h.mono hb.size))⟩

set_option maxRecDepth 100000 in
set_option maxHeartbeats 2000000 in
theorem val0_impl (x : Int) (w : World) :
    Calls Tryz.prog 53 #[.int .i64 x] w fun e w' => e = .returned (.int .i64 0) ∧ Below w.heap.size w w' := by
  go_enter Tryz.func53, Tryz.ntmps53
  go_wp2
  go_ret
  exact ⟨rfl, Below.refl _ _⟩

set_option maxRecDepth 100000 in
set_option maxHeartbeats 2000000 in
theorem valueBy_impl (fa : Option Addr) (fc : Nat) (la : Option Addr) (lc : Nat) (ga : Option Addr) (gc : Nat) (qa : Option Addr) (qc : Nat) (ta : Option Addr) (tc : Nat) (b : BookD) (ra : Option Addr) (rc : Nat) (key : Int) (gv : Value) (ng : Nat) (gg : Nat → Int) (w : World) (hp : bookP b) (h : BookRow w (.slice fa b.nf fc) (.slice la b.nl lc) (.slice ga b.m gc) (.slice qa b.nfa qc) (.slice ta b.nta tc) b) (ht : RowRow w (.slice ra b.nf rc) b.nf (tabAll b)) (hgv : IntRow w gv ng gg) :
    Calls Tryz.prog 21 #[.agg #[.slice fa b.nf fc, .int .i64 b.win, .int .i64 b.draw, .int .i64 b.loss, .slice la b.nl lc, .bool b.again, .slice ga b.m gc, .slice qa b.nfa qc, .slice ta b.nta tc, .slice ra b.nf rc], .int .i64 key, gv] w fun e w' => ∃ fv, e = .returned fv ∧ ValFn w' fv b.nf (bookV b key gg ng) ∧ Below w.heap.size w w' := by
  have K0 := Lib.hid (JgAt.made h ht 52)
  have HR0 := Lib.hid h
  have HT0 := Lib.hid ht
  have HG := Lib.hid hgv
  have CA := Lib.hid (fun wa h1 h2 h3 => among_impl fa fc la lc ga gc qa qc ta tc b ra rc (tabAll b) gv ng gg wa hp h1 h2 h3)
  obtain ⟨xa, xc, rfl, _, _⟩ := hgv.form
  clear h ht hgv
  by_cases k1 : key = 1
  case pos =>
    subst k1
    go_enter Tryz.func21, Tryz.ntmps21
    have HV : Hid (∀ t, bookV b 1 gg ng t = wrap64 (((tabAll b) t).points - b.ta t)) := fun t => by unfold bookV; rw [bookT_plain (by decide)]; rfl
    obtain ⟨d0, d1, d2, d3, d4, d5, d6, d7, d8, d9⟩ := K0.out.cells
    go_wp2
    go_ret
    exact ⟨_, rfl, ⟨45, #[.agg #[.slice fa b.nf fc, .int .i64 b.win, .int .i64 b.draw, .int .i64 b.loss, .slice la b.nl lc, .bool b.again, .slice ga b.m gc, .slice qa b.nfa qc, .slice ta b.nta tc, .slice ra b.nf rc]], .inr ⟨_, rfl⟩, rfl, (fun _ _ => rfl), fun t w' ht hb => by have h1 := j_left fa fc la lc ga gc qa qc ta tc b ra rc (tabAll b) t w' hp (HR0.out.below (K0.out.bel.trans (hb.mono K0.out.bel.size)) (Nat.le_refl _)) (HT0.out.below (K0.out.bel.trans (hb.mono K0.out.bel.size)) (Nat.le_refl _)) ht; rw [HV.out t]; exact h1⟩, K0.out.bel⟩
  have g1 : (key == 1) = false := beq_eq_false_iff_ne.2 k1
  by_cases k2 : key = 2
  case pos =>
    subst k2
    clear k1 g1
    go_enter Tryz.func21, Tryz.ntmps21
    have HV : Hid (∀ t, bookV b 2 gg ng t = wrap64 (((tabAll b) t).scored - ((tabAll b) t).against)) := fun t => by unfold bookV; rw [bookT_plain (by decide)]; rfl
    obtain ⟨d0, d1, d2, d3, d4, d5, d6, d7, d8, d9⟩ := K0.out.cells
    go_wp2
    go_ret
    exact ⟨_, rfl, ⟨46, #[.agg #[.slice fa b.nf fc, .int .i64 b.win, .int .i64 b.draw, .int .i64 b.loss, .slice la b.nl lc, .bool b.again, .slice ga b.m gc, .slice qa b.nfa qc, .slice ta b.nta tc, .slice ra b.nf rc]], .inr ⟨_, rfl⟩, rfl, (fun _ _ => rfl), fun t w' ht hb => by have h1 := j_difference fa fc la lc ga gc qa qc ta tc b ra rc (tabAll b) t w' hp (HR0.out.below (K0.out.bel.trans (hb.mono K0.out.bel.size)) (Nat.le_refl _)) (HT0.out.below (K0.out.bel.trans (hb.mono K0.out.bel.size)) (Nat.le_refl _)) ht; rw [HV.out t]; exact h1⟩, K0.out.bel⟩
  have g2 : (key == 2) = false := beq_eq_false_iff_ne.2 k2
  by_cases k3 : key = 3
  case pos =>
    subst k3
    clear k1 g1 k2 g2
    go_enter Tryz.func21, Tryz.ntmps21
    have HV : Hid (∀ t, bookV b 3 gg ng t = ((tabAll b) t).scored) := fun t => by unfold bookV; rw [bookT_plain (by decide)]; rfl
    obtain ⟨d0, d1, d2, d3, d4, d5, d6, d7, d8, d9⟩ := K0.out.cells
    go_wp2
    go_ret
    exact ⟨_, rfl, ⟨47, #[.agg #[.slice fa b.nf fc, .int .i64 b.win, .int .i64 b.draw, .int .i64 b.loss, .slice la b.nl lc, .bool b.again, .slice ga b.m gc, .slice qa b.nfa qc, .slice ta b.nta tc, .slice ra b.nf rc]], .inr ⟨_, rfl⟩, rfl, (fun _ _ => rfl), fun t w' ht hb => by have h1 := j_scored fa fc la lc ga gc qa qc ta tc b ra rc (tabAll b) t w' hp (HR0.out.below (K0.out.bel.trans (hb.mono K0.out.bel.size)) (Nat.le_refl _)) (HT0.out.below (K0.out.bel.trans (hb.mono K0.out.bel.size)) (Nat.le_refl _)) ht; rw [HV.out t]; exact h1⟩, K0.out.bel⟩
  have g3 : (key == 3) = false := beq_eq_false_iff_ne.2 k3
  by_cases k4 : key = 4
  case pos =>
    subst k4
    clear k1 g1 k2 g2 k3 g3
    go_enter Tryz.func21, Tryz.ntmps21
    have HV : Hid (∀ t, bookV b 4 gg ng t = ((tabAll b) t).wins) := fun t => by unfold bookV; rw [bookT_plain (by decide)]; rfl
    obtain ⟨d0, d1, d2, d3, d4, d5, d6, d7, d8, d9⟩ := K0.out.cells
    go_wp2
    go_ret
    exact ⟨_, rfl, ⟨48, #[.agg #[.slice fa b.nf fc, .int .i64 b.win, .int .i64 b.draw, .int .i64 b.loss, .slice la b.nl lc, .bool b.again, .slice ga b.m gc, .slice qa b.nfa qc, .slice ta b.nta tc, .slice ra b.nf rc]], .inr ⟨_, rfl⟩, rfl, (fun _ _ => rfl), fun t w' ht hb => by have h1 := j_wins fa fc la lc ga gc qa qc ta tc b ra rc (tabAll b) t w' hp (HR0.out.below (K0.out.bel.trans (hb.mono K0.out.bel.size)) (Nat.le_refl _)) (HT0.out.below (K0.out.bel.trans (hb.mono K0.out.bel.size)) (Nat.le_refl _)) ht; rw [HV.out t]; exact h1⟩, K0.out.bel⟩
  have g4 : (key == 4) = false := beq_eq_false_iff_ne.2 k4
  by_cases k5 : key = 5
  case pos =>
    subst k5
    clear k1 g1 k2 g2 k3 g3 k4 g4
    go_enter Tryz.func21, Tryz.ntmps21
    have HV : Hid (∀ t, bookV b 5 gg ng t = ((tabSome b gg ng) t).points) := fun t => by unfold bookV; rw [bookT_mutual (by decide)]; rfl
    obtain ⟨d0, d1, d2, d3, d4, d5, d6, d7, d8, d9⟩ := K0.out.cells
    go_wp2_with fail
    refine (CA.out _ K0.out.row K0.out.tab (HG.out.below K0.out.bel (Nat.le_refl _))).mono ?_
    rintro e w4 ⟨ra2, rc2, rfl, hTR, b4⟩
    have HR4 := Lib.hid (K0.out.row.below b4 (Nat.le_refl _))
    have HT4 := Lib.hid hTR
    have HB4 := Lib.hid (K0.out.bel.trans (b4.mono K0.out.bel.size))
    clear hTR b4 K0 CA HR0 HT0 d0 d1 d2 d3 d4 d5 d6 d7 d8 d9
    go_wp2
    go_ret
    exact ⟨_, rfl, ⟨50, #[.agg #[.slice fa b.nf fc, .int .i64 b.win, .int .i64 b.draw, .int .i64 b.loss, .slice la b.nl lc, .bool b.again, .slice ga b.m gc, .slice qa b.nfa qc, .slice ta b.nta tc, .slice ra2 b.nf rc2]], .inr ⟨_, rfl⟩, rfl, (fun _ _ => rfl), fun t w' ht hb => by have h1 := j_points fa fc la lc ga gc qa qc ta tc b ra2 rc2 (tabSome b gg ng) t w' hp (HR4.out.below hb (Nat.le_refl _)) (HT4.out.below hb (Nat.le_refl _)) ht; rw [HV.out t]; exact h1⟩, HB4.out⟩
  have g5 : (key == 5) = false := beq_eq_false_iff_ne.2 k5
  by_cases k6 : key = 6
  case pos =>
    subst k6
    clear k1 g1 k2 g2 k3 g3 k4 g4 k5 g5
    go_enter Tryz.func21, Tryz.ntmps21
    have HV : Hid (∀ t, bookV b 6 gg ng t = wrap64 (((tabSome b gg ng) t).scored - ((tabSome b gg ng) t).against)) := fun t => by unfold bookV; rw [bookT_mutual (by decide)]; rfl
    obtain ⟨d0, d1, d2, d3, d4, d5, d6, d7, d8, d9⟩ := K0.out.cells
    go_wp2_with fail
    refine (CA.out _ K0.out.row K0.out.tab (HG.out.below K0.out.bel (Nat.le_refl _))).mono ?_
    rintro e w4 ⟨ra2, rc2, rfl, hTR, b4⟩
    have HR4 := Lib.hid (K0.out.row.below b4 (Nat.le_refl _))
    have HT4 := Lib.hid hTR
    have HB4 := Lib.hid (K0.out.bel.trans (b4.mono K0.out.bel.size))
    clear hTR b4 K0 CA HR0 HT0 d0 d1 d2 d3 d4 d5 d6 d7 d8 d9
    go_wp2
    go_ret
    exact ⟨_, rfl, ⟨46, #[.agg #[.slice fa b.nf fc, .int .i64 b.win, .int .i64 b.draw, .int .i64 b.loss, .slice la b.nl lc, .bool b.again, .slice ga b.m gc, .slice qa b.nfa qc, .slice ta b.nta tc, .slice ra2 b.nf rc2]], .inr ⟨_, rfl⟩, rfl, (fun _ _ => rfl), fun t w' ht hb => by have h1 := j_difference fa fc la lc ga gc qa qc ta tc b ra2 rc2 (tabSome b gg ng) t w' hp (HR4.out.below hb (Nat.le_refl _)) (HT4.out.below hb (Nat.le_refl _)) ht; rw [HV.out t]; exact h1⟩, HB4.out⟩
  have g6 : (key == 6) = false := beq_eq_false_iff_ne.2 k6
  by_cases k7 : key = 7
  case pos =>
    subst k7
    clear k1 g1 k2 g2 k3 g3 k4 g4 k5 g5 k6 g6
    go_enter Tryz.func21, Tryz.ntmps21
    have HV : Hid (∀ t, bookV b 7 gg ng t = wrap64 (-(b.fa t))) := fun t => by unfold bookV; rw [bookT_plain (by decide)]; rfl
    obtain ⟨d0, d1, d2, d3, d4, d5, d6, d7, d8, d9⟩ := K0.out.cells
    go_wp2
    go_ret
    exact ⟨_, rfl, ⟨51, #[.agg #[.slice fa b.nf fc, .int .i64 b.win, .int .i64 b.draw, .int .i64 b.loss, .slice la b.nl lc, .bool b.again, .slice ga b.m gc, .slice qa b.nfa qc, .slice ta b.nta tc, .slice ra b.nf rc]], .inr ⟨_, rfl⟩, rfl, (fun _ _ => rfl), fun t w' ht hb => by have h1 := j_fairness fa fc la lc ga gc qa qc ta tc b ra rc (tabAll b) t w' hp (HR0.out.below (K0.out.bel.trans (hb.mono K0.out.bel.size)) (Nat.le_refl _)) (HT0.out.below (K0.out.bel.trans (hb.mono K0.out.bel.size)) (Nat.le_refl _)) ht; rw [HV.out t]; exact h1⟩, K0.out.bel⟩
  have g7 : (key == 7) = false := beq_eq_false_iff_ne.2 k7
  by_cases k8 : key = 8
  case pos =>
    subst k8
    clear k1 g1 k2 g2 k3 g3 k4 g4 k5 g5 k6 g6 k7 g7
    go_enter Tryz.func21, Tryz.ntmps21
    have HV : Hid (∀ t, bookV b 8 gg ng t = wrap64 (-(b.f t).seed)) := fun t => by unfold bookV; rw [bookT_plain (by decide)]; rfl
    obtain ⟨d0, d1, d2, d3, d4, d5, d6, d7, d8, d9⟩ := K0.out.cells
    go_wp2
    go_ret
    exact ⟨_, rfl, ⟨52, #[.agg #[.slice fa b.nf fc, .int .i64 b.win, .int .i64 b.draw, .int .i64 b.loss, .slice la b.nl lc, .bool b.again, .slice ga b.m gc, .slice qa b.nfa qc, .slice ta b.nta tc, .slice ra b.nf rc]], .inr ⟨_, rfl⟩, rfl, (fun _ _ => rfl), fun t w' ht hb => by have h1 := j_seeding fa fc la lc ga gc qa qc ta tc b ra rc (tabAll b) t w' hp (HR0.out.below (K0.out.bel.trans (hb.mono K0.out.bel.size)) (Nat.le_refl _)) (HT0.out.below (K0.out.bel.trans (hb.mono K0.out.bel.size)) (Nat.le_refl _)) ht; rw [HV.out t]; exact h1⟩, K0.out.bel⟩
  have g8 : (key == 8) = false := beq_eq_false_iff_ne.2 k8
  have HV : Hid (∀ t, bookV b key gg ng t = 0) := fun t => by unfold bookV valD; simp [k1, k2, k3, k4, k5, k6, k7, k8]
  clear k1 k2 k3 k4 k5 k6 k7 k8
  obtain ⟨d0, d1, d2, d3, d4, d5, d6, d7, d8, d9⟩ := K0.out.cells
  go_enter Tryz.func21, Tryz.ntmps21
  go_wp2
  go_ret
  exact ⟨_, rfl, ⟨53, #[], .inl rfl, rfl, (fun _ _ => rfl), fun t w' ht hb => by have h1 := val0_impl t w'; rw [HV.out t]; exact h1⟩, K0.out.bel⟩

end Go.Proofs.YteciobkjfmddcaaGreatDoor
