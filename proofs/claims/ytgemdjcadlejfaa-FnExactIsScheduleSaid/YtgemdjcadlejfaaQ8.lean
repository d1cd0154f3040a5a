/-
  Packed: FieldMake, BookAt, Find, Rounds2, Rounds4, RndImplC, GamesFuns.
-/
import Derived.Deep.RegionHeld3
import Derived.Deep.AppendLies
import Derived.Test.YtgemdjcadlejfaaQ1
import Derived.Test.YtgemdjcadlejfaaQ2
import Derived.Test.YtgemdjcadlejfaaQ3
import Derived.Test.YtgemdjcadlejfaaQ4
import Derived.Test.YtgemdjcadlejfaaQ5
import Derived.Test.YtgemdjcadlejfaaQ6
import Derived.Test.YtgemdjcadlejfaaQ7
set_option linter.unusedVariables false
namespace Go.Proofs.Ytgemdjcadlejfaa
open Go.RowKit

theorem Cur.below {B : Nat} {a : Option Addr} {len cap : Nat} {g : Nat → Nat} {w w' : World} (h : Cur B a len cap g w) (hb : Below w.heap.size w w') : Cur B a len cap g w' := by
  obtain ⟨i, x, hh, hi⟩ := h.blk
  have hlt : B < w.heap.size := (Array.getElem?_eq_some_iff.1 hh).1
  refine ⟨⟨i, x, (hb.block B hlt).trans hh, hi⟩, h.row.below hb (Nat.le_refl _), h.low, h.small, h.fits⟩
theorem Cur.lt {B : Nat} {a : Option Addr} {len cap : Nat} {g : Nat → Nat} {w : World} (h : Cur B a len cap g w) : B < w.heap.size := by
  obtain ⟨i, x, hh, hi⟩ := h.blk
  exact (Array.getElem?_eq_some_iff.1 hh).1
theorem Cur.belowB {B base : Nat} {a : Option Addr} {len cap : Nat} {g : Nat → Nat} {w w' : World} (h : Cur B a len cap g w) (hb : Below base w w') (hB : B < base) : Cur B a len cap g w' := by
  obtain ⟨i, x, hh, hi⟩ := h.blk
  refine ⟨⟨i, x, (hb.block B hB).trans hh, hi⟩, fun h0 => ?_, h.low, h.small, h.fits⟩
  obtain ⟨b, off, h1, h2⟩ := h.row h0
  have := h.low h0 b off h1
  exact ⟨b, off, h1, fun i hi => (hb.cell (p := ⟨b, off + i, none⟩) (show b < base by omega)).trans (h2 i hi)⟩
def madeNm (i : Nat) : ByteArray := ⟨#[116]⟩ ++ ⟨(Lib.itoa (i : Int)).toArray⟩
def MadeF (n turn : Nat) (G : Nat → TeamD) (k : Nat) : Prop := ∀ i, i < k → (G i).nm = madeNm i ∧ (0 ≤ (G i).club ∧ (G i).club ≤ 3) ∧ (G i).seed = (((i + turn) % n : Nat) : Int) + 1
section
variable {B : Nat} {a : Option Addr} {len cap : Nat} {g : Nat → Nat} {w0 : World} {u : Value} {j : Nat} {xs : List Value} {w w' : World}
end
def FieldIs (w : World) (n : Nat) (G : Nat → TeamD) (e : Ending) (w' : World) : Prop :=
  ∃ v, e = .returned v ∧ TeamRow w' v n G ∧ Below w.heap.size w w'
def FieldGood (n : Nat) (G : Nat → TeamD) : Prop := (2 ≤ n ∧ n ≤ 6) ∧ (∃ turn, turn < n ∧ MadeF n turn G n) ∧ ∀ i, n ≤ i → G i = ⟨ByteArray.empty, 0, 0⟩
end Go.Proofs.Ytgemdjcadlejfaa
set_option linter.unusedVariables false
namespace Go.Proofs.Ytgemdjcadlejfaa
open Go.RowKit

theorem owns_low {w : World} {base : Nat} {e : TypeId} {size n : Nat} {v : Value} {xs : List Value} (h : w.ownsRow base e size v n xs) {B : Nat} (j : Nat) (u : Value) (hB : B < base) : (w.setCell ⟨B, j, none⟩ u).ownsRow base e size v n xs :=
  ownsRow_setCell_other h (fun e => by have := (h.lt B e).1; omega) u
def bookS (b : BookD) : Prop := b.nf ≤ 1048576 ∧ b.nl ≤ 1048576 ∧ b.m ≤ 1048576 ∧ b.nfa ≤ 1048576 ∧ b.nta ≤ 1048576
theorem row_flat {k : Nat} {w : World} {base : Nat} {e : TypeId} {v : Value} {n : Nat} {g : Nat → List Value} (h : w.ownsRow base e k v n (flatR g n)) (hn : n ≤ 1048576) (hg : ∀ i, (g i).length = k) : RecRow k w v n g :=
  RecRow.of_owns h (by omega) (flatR_cells k g n fun i _ => hg i) (fun i _ => by rw [hg i]; exact Nat.le_refl _)
end Go.Proofs.Ytgemdjcadlejfaa
set_option linter.unusedVariables false
namespace Go.Proofs.Ytgemdjcadlejfaa
open Go.RowKit

def RsnD.vals (r : RsnD) (v : Value) : Array Value := #[.int .i64 r.key, v, .int .i64 r.first, .int .i64 r.other]
def ReasonL (w : World) (r : Option RsnD) (e : Ending) (w' : World) : Prop :=
  ∃ v, e = .returned (.tuple #[.agg ((r.getD rsn0).vals v), .bool r.isSome]) ∧ w'.ownsRow w.heap.size 3 1 v (r.getD rsn0).grp.length ((r.getD rsn0).grp.map (Value.int .i64)) ∧ Below w.heap.size w w'
theorem put_cell {B : Nat} {p : Addr} {v : Value} (hp : p.block ≠ B) : ∀ (vs : List Value) (o : Nat) (w : World), w.cell? p = some v → (putCs w B o vs).cell? p = some v
  | [], _, _, h => h
  | u :: vs, o, w, h => put_cell hp vs (o + 1) _ ((World.cell?_of_block (w := w) (w' := w.setCell ⟨B, o, none⟩ u) (a := p) (Below.heap_setCell w ⟨B, o, none⟩ u p.block hp)).trans h)
theorem BkAt.put {w0 : World} {B C : Nat} {fa : Option Addr} {fc : Nat} {la : Option Addr} {lc : Nat} {ga : Option Addr} {gc : Nat} {qa : Option Addr} {qc : Nat} {ta : Option Addr} {tc : Nat} {b : BookD} (hC : B ≠ C) (h0 : w0.heap.size ≤ C) :
    ∀ (vs : List Value) (o : Nat) (w : World), BkAt w0 w B fa fc la lc ga gc qa qc ta tc b → BkAt w0 (putCs w C o vs) B fa fc la lc ga gc qa qc ta tc b
  | [], _, _, h => h
  | u :: vs, o, w, h => BkAt.put hC h0 vs (o + 1) _ (h.store (p := ⟨C, o, none⟩) hC h0 u)
theorem owns_puts {w : World} {base B : Nat} {e : TypeId} {size n : Nat} {v : Value} {xs : List Value} (hB : B < base) : ∀ (vs : List Value) (o : Nat) (w : World), w.ownsRow base e size v n xs → (putCs w B o vs).ownsRow base e size v n xs
  | [], _, _, h => h
  | u :: vs, o, w, h => owns_puts (w := w) hB vs (o + 1) _ (owns_low h o u hB)
theorem valsL_get {V : Nat → Int} {k n : Nat} (h : k < n) : getI (valsL V n) k = V k := by unfold valsL getI; simp [h]
theorem valsL_len {V : Nat → Int} {n : Nat} : (valsL V n).length = n := by unfold valsL; simp
theorem l02Has_mem (v : Value) (p : List Int) (x : Int) (R : Bool) (w : World) (hR : R = true ↔ x ∈ p) (h : IntRow w v p.length (getI p)) :
    Calls Try.prog 62 #[v, .int .i64 x] w fun e w' => e = .returned (.bool R) ∧ w = w' := by
  cases R with
  | true => exact l02Has_yes v _ _ x w h ((hasP_mem p x).2 (hR.1 rfl))
  | false => exact l02Has_no v _ _ x w h (fun hh => by have := hR.2 ((hasP_mem p x).1 hh); cases this)
end Go.Proofs.Ytgemdjcadlejfaa
set_option linter.unusedVariables false
namespace Go.Proofs.Ytgemdjcadlejfaa
open Go.RowKit

def teamsR : PairL → List Int
  | [] => []
  | p :: r => hm p :: aw p :: teamsR r
theorem teamsR_cons (p : tPair.D) (r : PairL) : teamsR (p :: r) = [hm p, aw p] ++ teamsR r := rfl
def onceP (n : Int) (L : List Int) : Prop := (∀ t ∈ L, 0 ≤ t ∧ t ≤ n - 1) ∧ L.Nodup
theorem onceP_pre {n : Int} {A B : List Int} (h : onceP n (A ++ B)) : onceP n A := ⟨fun t ht => h.1 t (List.mem_append_left _ ht), (List.nodup_append.1 h.2).1⟩
theorem onceP_push {n t : Int} {A : List Int} (h : onceP n A) (h1 : 0 ≤ t ∧ t ≤ n - 1) (h2 : t ∉ A) : onceP n (A ++ [t]) := by
  refine ⟨fun u hu => ?_, List.nodup_append.2 ⟨h.2, by simp, fun x hx y hy => ?_⟩⟩
  · rcases List.mem_append.1 hu with hu | hu
    · exact h.1 u hu
    · rw [List.mem_singleton.1 hu]; exact h1
  · rw [List.mem_singleton.1 hy]; intro e; subst e; exact h2 hx
theorem not_once_out {n t : Int} {A B : List Int} (h : ¬ (0 ≤ t ∧ t ≤ n - 1)) : ¬ onceP n (A ++ t :: B) := fun e => h (e.1 t (List.mem_append_right _ (List.mem_cons_self ..)))
theorem not_once_dup {n t : Int} {A B : List Int} (h : t ∈ A) : ¬ onceP n (A ++ t :: B) := fun e => (List.nodup_append.1 e.2).2.2 t h t (List.mem_cons_self ..) rfl
theorem take_get {L : List Int} {i : Nat} (hi : i < L.length) : L = L.take i ++ getI L i :: L.drop (i + 1) := by
  have h1 : L[i]? = some (getI L i) := by rw [List.getElem?_eq_getElem hi]; simp [getI, hi]
  rw [← drop_at h1, List.take_append_drop]
theorem take_next {L : List Int} {i : Nat} (hi : i < L.length) : L.take (i + 1) = L.take i ++ [getI L i] := by
  have h1 : L[i]? = some (getI L i) := by rw [List.getElem?_eq_getElem hi]; simp [getI, hi]
  simp [List.take_add_one, h1]
theorem teamsR_len : ∀ r : PairL, (teamsR r).length = 2 * List.length (α := tPair.D) r
  | [] => rfl
  | p :: r => by
    have h := teamsR_len r
    have key : ∀ A B : Nat, A = 2 * B → A + 1 + 1 = 2 * (B + 1) := by omega
    exact key _ _ h
def schedP (n : Int) (d : List PairL) : Prop := (2 ≤ n ∧ n ≤ 8) ∧ List.length (α := PairL) d ≤ 14 ∧ ∀ r ∈ d, onceP n (teamsR r)
theorem teamsR_app : ∀ A B : PairL, teamsR (A ++ B) = teamsR A ++ teamsR B
  | [], _ => rfl
  | p :: A, B => by show hm p :: aw p :: teamsR (A ++ B) = _; rw [teamsR_app A B]; rfl
theorem lit_kept {w w' : World} {base n LB c : Nat} {e : TypeId} {xs : List Value} {v : Value} (h : w.ownsRow base e 1 (.slice (some ⟨LB, 0, none⟩) n c) n xs) (g : w.grownBy w' v.ownBlock) (ha : ∀ q, v.ownBlock = some q → q ≠ LB) : w'.ownsRow base e 1 (.slice (some ⟨LB, 0, none⟩) n c) n xs :=
  h.kept g (.inr fun e => ha LB e.symm rfl)
theorem lit_apart {w : World} {gg n c LB : Nat} {v : Value} (h : v.ownBlock = some gg ∨ w.heap.size ≤ gg) (hl : LB < w.heap.size) (ha : ∀ q, v.ownBlock = some q → q ≠ LB) : ∀ q, (Value.slice (some ⟨gg, 0, none⟩) n c).ownBlock = some q → q ≠ LB := fun q hq => by
  have hq' : gg = q := by simpa [Value.ownBlock] using hq
  subst hq'
  rcases h with h | h
  · exact ha _ h
  · omega
set_option maxRecDepth 100000 in
set_option maxHeartbeats 4000000 in
theorem isSchedule_spec (v : Value) (d : List PairL) (N : Int) (R : Bool) (w : World) (hR : R = true ↔ schedP N d) (h : RdA tPairSS w [v] d) (hw : tPairSS.wt d ≤ 1048576) :
    Calls Try.prog 30 #[.int .i64 N, v] w fun e w' => e = .returned (.bool R) ∧ Below w.heap.size w w' := by
  obtain ⟨i0, hi, hz0, hz1, hz2⟩ := info_parts Try.infoI
  have hdl : List.length (α := PairL) d ≤ 1048576 := by have e : tPairSS.wt d = List.length (α := PairL) d + (d.map tPairS.wt).sum := rfl; omega
  obtain ⟨a, c, rfl, hn⟩ := schedule_form h
  have HR := Lib.hid h
  clear h
  obtain ⟨n, hd⟩ : ∃ n, List.length (α := PairL) d = n := ⟨_, rfl⟩
  have HD := Lib.hid hd
  rw [hd] at hn ⊢
  clear hd
  have HN := Lib.hid (boolF hR)
  have HY := Lib.hid (boolT hR)
  clear hR
  have HF : Hid (∀ r ∈ d, ¬ onceP N (teamsR r) → R = false) := fun r hr h => HN.out (fun e => h (e.2.2 r hr))
  have hn6 : n ≤ 1048576 := by rw [HD.out] at hdl; exact hdl
  clear hdl
  have HWT : Hid (∀ r ∈ d, List.length (α := tPair.D) r ≤ 1048576) := fun r hr => by
    have h1 : ∀ L : List PairL, r ∈ L → List.length (α := tPair.D) r ≤ tPairSS.wt L := by
      intro L
      induction L with
      | nil => intro h; cases h
      | cons y L ih =>
        intro h
        have h9 := wt_PairSS_cons y L
        have h8 : List.length (α := tPair.D) r ≤ List.length (α := tPair.D) y + 1 + tPairSS.wt L := by
          rcases List.mem_cons.1 h with e | e
          · subst e; omega
          · have := ih e; omega
        exact Nat.le_trans h8 (Nat.le_of_eq h9.symm)
    exact Nat.le_trans (h1 d hr) hw
  go_enter Try.func30, Try.ntmps30
  by_cases hN : 2 ≤ N ∧ N ≤ 8
  case neg =>
    obtain rfl := HN.out (fun e => hN e.1)
    go_wp2_with fail
    refine (l01In_no _ _ _ _ hN).mono ?_
    rintro e wx ⟨rfl, rfl⟩
    go_wp2
    go_ret
    exact ⟨rfl, Below.refl _ _⟩
  go_wp2_with fail
  refine (l01In_yes _ _ _ _ hN).mono ?_
  rintro e wx ⟨rfl, rfl⟩
  by_cases hl : n ≤ 14
  case neg =>
    have g1 : decide ((14 : Int) < (n : Int)) = true := decide_eq_true (by omega)
    have g2 : decide (14 < n) = true := decide_eq_true (by omega)
    obtain rfl := HN.out (fun e => hl (by have := e.2.1; rw [HD.out] at this; exact this))
    go_wp2
    go_ret
    exact ⟨rfl, Below.refl _ _⟩
  have g1 : decide ((14 : Int) < (n : Int)) = false := decide_eq_false (by omega)
  have g2 : decide (14 < n) = false := decide_eq_false (by omega)
  go_wp2
  clear g1 g2
  go_loopw [22] (fun iv wr => ∃ k : Nat, k ≤ n ∧ iv = .int .i64 k ∧ Hid (∀ r ∈ d.take k, onceP N (teamsR r)) ∧ Hid (Below w.heap.size w wr)) (fun iv _ => n - (RowKit.intOf iv).toNat)
  case atStart => exact ⟨0, Nat.zero_le _, rfl, fun r hr => (by simp at hr), Below.refl _ _⟩
  case round =>
    obtain ⟨k, hk9, rfl, HV, HB⟩ := hrel
    by_cases hlt : k < n
    · obtain ⟨r, hr⟩ : ∃ r : PairL, d[k]? = some r := ⟨_, List.getElem?_eq_getElem (by rw [HD.out]; exact hlt)⟩
      have HRr := HR.out.below HB.out
      obtain ⟨b, off, x, xc, rfl, hcap, q0, hrr, hm63⟩ := round_cells HRr hr
      rw [HD.out] at hcap
      have hj1 : (k : Int) < (n : Int) := by omega
      have HRW := Lib.hid hrr
      obtain ⟨m, hm⟩ : ∃ m, List.length (α := tPair.D) r = m := ⟨_, rfl⟩
      have HM := Lib.hid hm
      rw [hm] at q0 hm63
      clear hm hrr HRr
      have hrm := Lib.hid (List.mem_of_getElem? hr)
      have HDT : Hid (d.take (k + 1) = d.take k ++ [r]) := by show _ = _; rw [List.take_add_one, hr]; rfl
      have hm6 : m ≤ 1048576 := by have h9 := HWT.out r hrm.out; rw [HM.out] at h9; exact h9
      have HBo := HB
      clear hr HB
      generalize wr = w1 at *
      have ON : Hid ((w1.alloc (.cells #[] 3)).ownsRow w1.heap.size 3 1 (.slice (some ⟨w1.heap.size, 0, none⟩) 0 0) 0 []) := World.ownsRow_lit (e := 3) (size := 1) w1 #[] 0 (Nat.le_refl _) (by decide) rfl
      have HB1 : Hid (Below w1.heap.size w1 (w1.alloc (.cells #[] 3))) := (Below.refl _ _).alloc (Nat.le_refl _) _
      go_wp2
      go_loopw [7, 29] (fun ov jv wi => ∃ (j : Nat) (SL : List Int), j ≤ m ∧ jv = .int .i64 j ∧ Hid (SL = teamsR (r.take j)) ∧ Hid (onceP N SL) ∧ Hid (wi.ownsRow w1.heap.size 3 1 ov SL.length (SL.map (Value.int .i64))) ∧ Hid (Below w1.heap.size w1 wi)) (fun _ jv _ => m - (RowKit.intOf jv).toNat)
      case atStart => exact ⟨0, [], Nat.zero_le _, rfl, rfl, ⟨fun t ht => (by cases ht), List.nodup_nil⟩, ON, HB1⟩
      case round =>
        clear ON HB1
        obtain ⟨j, SL, hj9, rfl, HSL, HOK, HO, HB2⟩ := hrel
        obtain ⟨oa, oc, hof⟩ := owns_form HO.out
        subst hof
        by_cases hlt2 : j < m
        · obtain ⟨p, hp⟩ : ∃ p : tPair.D, r[j]? = some p := ⟨_, List.getElem?_eq_getElem (by rw [HM.out]; exact hlt2)⟩
          have HRr := HRW.out.below HB2.out
          obtain ⟨bp, op, rfl, hcap2, e0, e1⟩ := pair_cells HRr hp
          rw [HM.out] at hcap2
          have hj2 : (j : Int) < (m : Int) := by omega
          have HT : Hid (teamsR r = SL ++ ([hm p, aw p] ++ teamsR (r.drop (j + 1)))) := by show _ = _; rw [HSL.out, ← teamsR_cons, ← teamsR_app, ← drop_at hp, List.take_append_drop]
          have HTK : Hid (teamsR (r.take (j + 1)) = teamsR (r.take j) ++ [hm p, aw p]) := by show _ = _; rw [List.take_add_one, hp, teamsR_app]; rfl
          clear hp HRr
          generalize hm p = ph at *
          generalize aw p = pa at *
          have HLT0 : Hid ((((wr.alloc (.cells #[.int .i64 ph, .int .i64 pa] 38)).alloc (.cells #[.int .i64 ph, .int .i64 pa] 3))).ownsRow (wr.heap.size + 1) 3 1 (.slice (some ⟨wr.heap.size + 1, 0, none⟩) 2 2) 2 [.int .i64 ph, .int .i64 pa]) := by
            refine Lib.hid ?_
            have h9 := World.ownsRow_lit (e := 3) (size := 1) (wr.alloc (.cells #[.int .i64 ph, .int .i64 pa] 38)) #[.int .i64 ph, .int .i64 pa] 2 (Nat.le_refl _) (by decide) rfl
            simpa using h9
          have hs2 := HB2.out.size
          have HOX : Hid ((((wr.alloc (.cells #[.int .i64 ph, .int .i64 pa] 38)).alloc (.cells #[.int .i64 ph, .int .i64 pa] 3))).ownsRow w1.heap.size 3 1 (.slice oa SL.length oc) SL.length (SL.map (Value.int .i64))) := (HO.out.alloc _).alloc _
          have HBX : Hid (Below w1.heap.size w1 ((wr.alloc (.cells #[.int .i64 ph, .int .i64 pa] 38)).alloc (.cells #[.int .i64 ph, .int .i64 pa] 3))) := (HB2.out.alloc hs2 _).alloc (by simp; omega) _
          have HAX : Hid (∀ q, (Value.slice oa SL.length oc).ownBlock = some q → q ≠ wr.heap.size + 1) := fun q hq => by have := (HO.out.lt q hq).2; omega
          clear HO HB2
          go_wp2
          obtain ⟨LB, hLB⟩ : ∃ LB, wr.heap.size + 1 = LB := ⟨_, rfl⟩
          rw [hLB] at HLT0 HAX
          (try rw [hLB])
          clear hLB
          go_loopw [7, 39] (fun ov iv wi => ∃ (i : Nat) (SQ : List Int), i ≤ 2 ∧ iv = .int .i64 i ∧ Hid (SQ = SL ++ ([ph, pa] : List Int).take i) ∧ Hid (onceP N SQ) ∧ Hid (wi.ownsRow w1.heap.size 3 1 ov SQ.length (SQ.map (Value.int .i64))) ∧ Hid (wi.ownsRow LB 3 1 (.slice (some ⟨LB, 0, none⟩) 2 2) 2 [.int .i64 ph, .int .i64 pa]) ∧ Hid (∀ q, ov.ownBlock = some q → q ≠ LB) ∧ Hid (Below w1.heap.size w1 wi)) (fun _ iv _ => 2 - (RowKit.intOf iv).toNat)
          case atStart => exact ⟨0, SL, Nat.zero_le _, rfl, (by show _ = _; simp), HOK, HOX, HLT0, HAX, HBX⟩
          case round =>
            clear HLT0 HOX HBX HAX HOK
            obtain ⟨i, SQ, hi9, rfl, HSQ, HOK, HO, HLIT, HAP, HB3⟩ := hrel
            obtain ⟨oa, oc, hof⟩ := owns_form HO.out
            subst hof
            by_cases hlt3 : i < 2
            · have HLR := IntRow.of_list (L := [ph, pa]) (v := (.slice (some ⟨LB, 0, none⟩) 2 2)) HLIT.out (by simp)
              obtain ⟨lb, lo, he, hlc, q9⟩ := int_at HLR (show i < ([ph, pa] : List Int).length from hlt3)
              simp only [Option.some.injEq, Addr.mk.injEq, and_true] at he
              obtain ⟨rfl, rfl⟩ := he
              simp only [Nat.zero_add] at q9
              have hj3 : (i : Int) < 2 := by omega
              have HSPL : Hid (teamsR r = SQ ++ getI [ph, pa] i :: (([ph, pa] : List Int).drop (i + 1) ++ teamsR (r.drop (j + 1)))) := by
                show _ = _
                rw [HT.out, HSQ.out]
                have e := take_get (L := [ph, pa]) hlt3
                conv => lhs; rw [e]
                simp
              have HNX : Hid (SQ ++ [getI [ph, pa] i] = SL ++ ([ph, pa] : List Int).take (i + 1)) := by show _ = _; rw [take_next (L := [ph, pa]) hlt3, HSQ.out]; simp
              have hSQl : SQ.length ≤ 2097152 := by have h9 := congrArg List.length HSPL.out; rw [teamsR_len, HM.out, List.length_append] at h9; omega
              have HW3 : Hid (Below w.heap.size w wr) := HBo.out.trans (HB3.out.mono HBo.out.size)
              clear HLR
              generalize getI [ph, pa] i = tt at *
              by_cases ht : 0 ≤ tt ∧ tt ≤ N - 1
              case neg =>
                obtain rfl := HF.out r hrm.out (by rw [HSPL.out]; exact not_once_out ht)
                go_wp2_with fail
                refine (l01In_no _ _ _ _ ht).mono ?_
                rintro e wx ⟨rfl, rfl⟩
                go_wp2
                go_ret
                exact ⟨rfl, HW3.out⟩
              go_wp2_with fail
              refine (l01In_yes _ _ _ _ ht).mono ?_
              rintro e wx ⟨rfl, rfl⟩
              have hrow := IntRow.of_list HO.out (by omega)
              obtain ⟨r1, hr1⟩ := boolEx (tt ∈ SQ)
              have C1 := Lib.hid (l02Has_mem _ SQ tt r1 wr hr1 hrow)
              have HR1 := Lib.hid hr1
              clear hrow hr1
              go_wp2_with fail
              refine C1.out.mono ?_
              rintro e wx ⟨rfl, rfl⟩
              clear C1
              cases r1 with
              | true =>
                obtain rfl := HF.out r hrm.out (by rw [HSPL.out]; exact not_once_dup (HR1.out.1 (by first | rfl | trivial)))
                go_wp2
                go_ret
                exact ⟨rfl, HW3.out⟩
              | false =>
              have HOK2 : Hid (onceP N (SQ ++ [tt])) := onceP_push HOK.out ht (fun e => by have := HR1.out.2 e; cases this)
              have hs3 := HB3.out.size
              have HLL : Hid (LB < wr.heap.size) := (HLIT.out.lt LB rfl).2
              clear HR1 HOK HW3
              go_wp2_with (at_builtin; (refine wpList_pushL rfl (.tmp 53) (.tmp 55) 32 rfl w1.heap.size 3 Try.underlying32 hi hz0 hz1 hz2 rfl (by decide) [.int .i64 tt] rfl (by intro u hu; simp at hu; subst hu; rfl) rfl (by show Value.slice (some ⟨_, 0, none⟩) 1 1 = _; simp) HO.out (by unfold maxLen; omega) (by omega) hs3 ?_; intro gg5 cc5 w5 o5 g5 at5 lt5; have O5 := Lib.hid o5; have HB5 := Lib.hid (HB3.out.grown g5 hs3 (fun q hq => (HO.out.lt q hq).1)); have HL5 := Lib.hid (lit_kept HLIT.out g5 HAP.out); have HA5 := Lib.hid (lit_apart (n := SQ.length + 1) (c := cc5) at5 HLL.out HAP.out); clear o5 g5 at5 lt5))
              go_roundw
              case rel => exact ⟨i + 1, SQ ++ [tt], by omega, by go_num, HNX, HOK2, by rw [List.length_append, List.map_append]; exact O5, HL5, HA5, HB5⟩
              case measure => simp [RowKit.intOf]; omega
            obtain rfl : i = 2 := by omega
            have HNX : Hid (SQ = teamsR (r.take (j + 1))) := by show _ = _; rw [HSQ.out, HSL.out, HTK.out]; rfl
            go_wp2
            go_roundw
            case rel => exact ⟨j + 1, SQ, by omega, by go_num, HNX, HOK, HO, HB3⟩
            case measure => simp [RowKit.intOf]; omega
        obtain rfl : j = m := by omega
        have HOR : Hid (onceP N (teamsR r)) := by have h9 := HOK.out; rw [HSL.out, List.take_of_length_le (by have := HM.out; omega)] at h9; exact h9
        have HVN : Hid (∀ y ∈ d.take (k + 1), onceP N (teamsR y)) := fun y hy => by
          rw [HDT.out] at hy
          rcases List.mem_append.1 hy with h | h
          · exact HV.out y h
          · rw [List.mem_singleton.1 h]; exact HOR.out
        have HBE : Hid (Below w.heap.size w wr) := HBo.out.trans (HB2.out.mono HBo.out.size)
        go_wp2
        go_roundw
        case rel => exact ⟨k + 1, by omega, by go_num, HVN, HBE⟩
        case measure => simp [RowKit.intOf]; omega
    obtain rfl : k = n := by omega
    obtain rfl := HY.out ⟨hN, by rw [HD.out]; exact hl, fun r hr => HV.out r (by rw [List.take_of_length_le (by have := HD.out; omega)]; exact hr)⟩
    go_wp2
    go_ret
    exact ⟨rfl, HB.out⟩
end Go.Proofs.Ytgemdjcadlejfaa
set_option linter.unusedVariables false
namespace Go.Proofs.Ytgemdjcadlejfaa
open Go.RowKit

def gamesR (r : PairL) : List GameD := r.map fun p => ⟨hm p, aw p, 0, 0, 0⟩
def gamesL (d : List PairL) : List GameD := d.flatMap gamesR
theorem gamesR_cons (p : tPair.D) (r : PairL) : gamesR (p :: r) = [⟨hm p, aw p, 0, 0, 0⟩] ++ gamesR r := rfl
theorem gamesL_cons (r : PairL) (d : List PairL) : gamesL (r :: d) = gamesR r ++ gamesL d := rfl
theorem gamesL_len : ∀ d : List PairL, (gamesL d).length ≤ tPairSS.wt d
  | [] => Nat.zero_le _
  | r :: d => by
    have h1 := gamesL_len d
    have h2 : (gamesR r).length = List.length (α := tPair.D) r := List.length_map ..
    refine Nat.le_trans ?_ (Nat.le_of_eq (wt_PairSS_cons r d).symm)
    rw [gamesL_cons, List.length_append]
    omega
def ocells (L : List GameD) : List Value := L.flatMap GameD.cells
theorem ocells_push (L : List GameD) (x : GameD) : ocells (L ++ [x]) = ocells L ++ x.cells := by unfold ocells; rw [List.flatMap_append]; simp
def GamesM (w : World) (L : List GameD) (e : Ending) (w' : World) : Prop := ∃ v, e = .returned v ∧ w'.ownsRow w.heap.size 66 5 v L.length (ocells L) ∧ Below w.heap.size w w'
set_option maxRecDepth 100000 in
set_option maxHeartbeats 4000000 in
theorem gamesFrom_spec (v : Value) (d : List PairL) (w : World) (h : RdA tPairSS w [v] d) (hw : tPairSS.wt d ≤ 1048576) :
    Calls Try.prog 39 #[v] w (GamesM w (gamesL d)) := by
  obtain ⟨i0, hi, hz0, hz1, hz2⟩ := info_parts Try.infoGame
  have HGL : Hid ((gamesL d).length ≤ 1048576) := Nat.le_trans (gamesL_len d) hw
  obtain ⟨GL, hGL⟩ : ∃ GL, gamesL d = GL := ⟨_, rfl⟩
  rw [hGL] at HGL ⊢
  obtain ⟨a, c, rfl, hn⟩ := schedule_form h
  have HR := Lib.hid h
  clear h
  obtain ⟨n, hd⟩ : ∃ n, List.length (α := PairL) d = n := ⟨_, rfl⟩
  have HD := Lib.hid hd
  rw [hd] at hn ⊢
  clear hd
  have HV0 : Hid (GL = [] ++ gamesL (d.drop 0)) := by show _ = _; rw [← hGL]; rfl
  clear hGL hw
  have ON : Hid ((w.alloc (.cells #[] 66)).ownsRow w.heap.size 66 5 (.slice (some ⟨w.heap.size, 0, none⟩) 0 0) 0 []) := World.ownsRow_lit (e := 66) (size := 5) w #[] 0 (Nat.le_refl _) (by decide) rfl
  have HB0 : Hid (Below w.heap.size w (w.alloc (.cells #[] 66))) := (Below.refl _ _).alloc (Nat.le_refl _) _
  go_enter Try.func39, Try.ntmps39
  go_wp2
  go_loopw [3, 11] (fun ov iv wr => ∃ (k : Nat) (L : List GameD), k ≤ n ∧ iv = .int .i64 k ∧ Hid (GL = L ++ gamesL (d.drop k)) ∧ Hid (wr.ownsRow w.heap.size 66 5 ov L.length (ocells L)) ∧ Hid (Below w.heap.size w wr)) (fun _ iv _ => n - (RowKit.intOf iv).toNat)
  case atStart => exact ⟨0, [], Nat.zero_le _, rfl, HV0, ON, HB0⟩
  case round =>
    clear HV0 ON HB0
    obtain ⟨k, L, hk9, rfl, HV, HO, HB⟩ := hrel
    by_cases hlt : k < n
    · obtain ⟨r, hr⟩ : ∃ r : PairL, d[k]? = some r := ⟨_, List.getElem?_eq_getElem (by rw [HD.out]; exact hlt)⟩
      obtain ⟨b, off, x, xc, rfl, hcap, q00, hrr, hm63⟩ := round_cells HR.out hr
      have q0 := (HB.out.cell (p := ⟨b, off + k, none⟩) (World.block_lt_of_cell? w _ q00)).trans q00
      rw [HD.out] at hcap
      have hj1 : (k : Int) < (n : Int) := by omega
      have HRW := Lib.hid hrr
      obtain ⟨m, hm⟩ : ∃ m, List.length (α := tPair.D) r = m := ⟨_, rfl⟩
      have HM := Lib.hid hm
      rw [hm] at q0 hm63
      clear hm hrr q00
      have HV2 : Hid (GL = L ++ (gamesR (r.drop 0) ++ gamesL (d.drop (k + 1)))) := by show _ = _; rw [HV.out, drop_at hr, gamesL_cons]; rfl
      clear HV hr
      go_wp2
      generalize wr = w1 at *
      go_loopw [3, 17] (fun ov iv wi => ∃ (j : Nat) (L : List GameD), j ≤ m ∧ iv = .int .i64 j ∧ Hid (GL = L ++ (gamesR (r.drop j) ++ gamesL (d.drop (k + 1)))) ∧ Hid (wi.ownsRow w.heap.size 66 5 ov L.length (ocells L)) ∧ Hid (Below w.heap.size w wi)) (fun _ iv _ => m - (RowKit.intOf iv).toNat)
      case atStart => exact ⟨0, L, Nat.zero_le _, rfl, HV2, HO, HB⟩
      case round =>
        clear HV2 HO HB
        obtain ⟨j, L, hj9, rfl, HV, HO, HB⟩ := hrel
        obtain ⟨oa, oc, hof⟩ := owns_form HO.out
        subst hof
        by_cases hlt2 : j < m
        · obtain ⟨p, hp⟩ : ∃ p : tPair.D, r[j]? = some p := ⟨_, List.getElem?_eq_getElem (by rw [HM.out]; exact hlt2)⟩
          have HRr := HRW.out.below HB.out
          obtain ⟨bp, op, rfl, hcap2, e0, e1⟩ := pair_cells HRr hp
          rw [HM.out] at hcap2
          have hj2 : (j : Int) < (m : Int) := by omega
          have HVN : Hid (GL = (L ++ [⟨hm p, aw p, 0, 0, 0⟩]) ++ (gamesR (r.drop (j + 1)) ++ gamesL (d.drop (k + 1)))) := by show _ = _; rw [HV.out, drop_at hp, gamesR_cons]; simp
          have hLl : L.length < 1048576 := by have h9 := congrArg List.length HVN.out; have h8 := HGL.out; rw [List.length_append, List.length_append, List.length_singleton] at h9; omega
          have hs2 := HB.out.size
          clear HV HRr hp
          generalize hm p = ph at *
          generalize aw p = pa at *
          have HOX : Hid ((wr.alloc (.cells #[.int .i64 ph, .int .i64 pa] 38)).ownsRow w.heap.size 66 5 (.slice oa L.length oc) L.length (ocells L)) := HO.out.alloc _
          have HBX : Hid (Below w.heap.size w (wr.alloc (.cells #[.int .i64 ph, .int .i64 pa] 38))) := HB.out.alloc hs2 _
          have hs3 : w.heap.size ≤ (wr.alloc (.cells #[.int .i64 ph, .int .i64 pa] 38)).heap.size := HBX.out.size
          clear HO HB
          go_wp2_with (at_builtin; (refine wpList_pushL rfl (.tmp 21) (.tmp 27) 28 rfl w.heap.size 66 Try.underlying28 hi hz0 hz1 hz2 rfl (by decide) [.int .i64 ph, .int .i64 pa, .int .i64 0, .int .i64 0, .int .i64 0] rfl (by intro u hu; simp at hu; rcases hu with rfl | rfl | rfl <;> rfl) rfl (by show Value.slice (some ⟨_, 0, none⟩) 1 1 = _; simp) HOX.out (by unfold maxLen; omega) (by omega) hs3 ?_; intro gg5 cc5 w5 o5 g5 at5 lt5; have O5 := Lib.hid o5; have HB5 := Lib.hid (HBX.out.grown g5 hs3 (fun q hq => (HOX.out.lt q hq).1)); clear o5 g5 at5 lt5))
          go_roundw
          case rel => exact ⟨j + 1, L ++ [⟨ph, pa, 0, 0, 0⟩], by omega, by go_num, HVN, by rw [List.length_append, ocells_push]; exact O5, HB5⟩
          case measure => simp [RowKit.intOf]; omega
        obtain rfl : j = m := by omega
        have HVx : Hid (GL = L ++ gamesL (d.drop (k + 1))) := by have h9 := HV.out; rw [List.drop_of_length_le (by have := HM.out; omega)] at h9; exact h9
        clear HV
        go_wp2
        go_roundw
        case rel => exact ⟨k + 1, L, by omega, by go_num, HVx, HO, HB⟩
        case measure => simp [RowKit.intOf]; omega
    obtain rfl : k = n := by omega
    have HVx : Hid (GL = L) := by have h9 := HV.out; rw [List.drop_of_length_le (by have := HD.out; omega)] at h9; refine Lib.hid ?_; simpa [gamesL] using h9
    clear HV
    go_wp2
    go_ret
    exact ⟨_, rfl, by rw [HVx.out]; exact HO.out, HB.out⟩
end Go.Proofs.Ytgemdjcadlejfaa
set_option linter.unusedVariables false
namespace Go.Proofs.Ytgemdjcadlejfaa
open Go.RowKit

set_option maxRecDepth 100000 in
set_option maxHeartbeats 4000000 in
theorem gamesFrom_impl (v : Value) (d : List PairL) (w : World) (h : RdA tPairSS w [v] d) (hw : tPairSS.wt d ≤ 1048576) :
    Calls Try.prog 17 #[v] w (GamesM w (gamesL d)) := by
  obtain ⟨i0, hi, hz0, hz1, hz2⟩ := info_parts Try.infoGame
  have HGL : Hid ((gamesL d).length ≤ 1048576) := Nat.le_trans (gamesL_len d) hw
  obtain ⟨GL, hGL⟩ : ∃ GL, gamesL d = GL := ⟨_, rfl⟩
  rw [hGL] at HGL ⊢
  obtain ⟨a, c, rfl, hn⟩ := schedule_form h
  have HR := Lib.hid h
  clear h
  obtain ⟨n, hd⟩ : ∃ n, List.length (α := PairL) d = n := ⟨_, rfl⟩
  have HD := Lib.hid hd
  rw [hd] at hn ⊢
  clear hd
  have HV0 : Hid (GL = [] ++ gamesL (d.drop 0)) := by show _ = _; rw [← hGL]; rfl
  clear hGL hw
  have ON : Hid (w.ownsRow w.heap.size 66 5 (.slice none 0 0) 0 []) := World.ownsRow_nil _ _ _ _
  have HB0 : Hid (Below w.heap.size w w) := Below.refl _ _
  go_enter Try.func17, Try.ntmps17
  go_wp2
  go_loopw [3, 10] (fun ov iv wr => ∃ (k : Nat) (L : List GameD), k ≤ n ∧ iv = .int .i64 k ∧ Hid (GL = L ++ gamesL (d.drop k)) ∧ Hid (wr.ownsRow w.heap.size 66 5 ov L.length (ocells L)) ∧ Hid (Below w.heap.size w wr)) (fun _ iv _ => n - (RowKit.intOf iv).toNat)
  case atStart => exact ⟨0, [], Nat.zero_le _, rfl, HV0, ON, HB0⟩
  case round =>
    clear HV0 ON HB0
    obtain ⟨k, L, hk9, rfl, HV, HO, HB⟩ := hrel
    by_cases hlt : k < n
    · obtain ⟨r, hr⟩ : ∃ r : PairL, d[k]? = some r := ⟨_, List.getElem?_eq_getElem (by rw [HD.out]; exact hlt)⟩
      obtain ⟨b, off, x, xc, rfl, hcap, q00, hrr, hm63⟩ := round_cells HR.out hr
      have q0 := (HB.out.cell (p := ⟨b, off + k, none⟩) (World.block_lt_of_cell? w _ q00)).trans q00
      rw [HD.out] at hcap
      have hj1 : (k : Int) < (n : Int) := by omega
      have HRW := Lib.hid hrr
      obtain ⟨m, hm⟩ : ∃ m, List.length (α := tPair.D) r = m := ⟨_, rfl⟩
      have HM := Lib.hid hm
      rw [hm] at q0 hm63
      clear hm hrr q00
      have HV2 : Hid (GL = L ++ (gamesR (r.drop 0) ++ gamesL (d.drop (k + 1)))) := by show _ = _; rw [HV.out, drop_at hr, gamesL_cons]; rfl
      clear HV hr
      go_wp2
      generalize wr = w1 at *
      go_loopw [3, 16] (fun ov iv wi => ∃ (j : Nat) (L : List GameD), j ≤ m ∧ iv = .int .i64 j ∧ Hid (GL = L ++ (gamesR (r.drop j) ++ gamesL (d.drop (k + 1)))) ∧ Hid (wi.ownsRow w.heap.size 66 5 ov L.length (ocells L)) ∧ Hid (Below w.heap.size w wi)) (fun _ iv _ => m - (RowKit.intOf iv).toNat)
      case atStart => exact ⟨0, L, Nat.zero_le _, rfl, HV2, HO, HB⟩
      case round =>
        clear HV2 HO HB
        obtain ⟨j, L, hj9, rfl, HV, HO, HB⟩ := hrel
        obtain ⟨oa, oc, hof⟩ := owns_form HO.out
        subst hof
        by_cases hlt2 : j < m
        · obtain ⟨p, hp⟩ : ∃ p : tPair.D, r[j]? = some p := ⟨_, List.getElem?_eq_getElem (by rw [HM.out]; exact hlt2)⟩
          have HRr := HRW.out.below HB.out
          obtain ⟨bp, op, rfl, hcap2, e0, e1⟩ := pair_cells HRr hp
          rw [HM.out] at hcap2
          have hj2 : (j : Int) < (m : Int) := by omega
          have HVN : Hid (GL = (L ++ [⟨hm p, aw p, 0, 0, 0⟩]) ++ (gamesR (r.drop (j + 1)) ++ gamesL (d.drop (k + 1)))) := by show _ = _; rw [HV.out, drop_at hp, gamesR_cons]; simp
          have hLl : L.length < 1048576 := by have h9 := congrArg List.length HVN.out; have h8 := HGL.out; rw [List.length_append, List.length_append, List.length_singleton] at h9; omega
          have hs2 := HB.out.size
          clear HV HRr hp
          generalize hm p = ph at *
          generalize aw p = pa at *
          have HOX : Hid ((wr.alloc (.cells #[.int .i64 ph, .int .i64 pa] 38)).ownsRow w.heap.size 66 5 (.slice oa L.length oc) L.length (ocells L)) := HO.out.alloc _
          have HBX : Hid (Below w.heap.size w (wr.alloc (.cells #[.int .i64 ph, .int .i64 pa] 38))) := HB.out.alloc hs2 _
          have hs3 : w.heap.size ≤ (wr.alloc (.cells #[.int .i64 ph, .int .i64 pa] 38)).heap.size := HBX.out.size
          clear HO HB
          go_wp2_with (at_builtin; (refine wpList_pushL rfl (.tmp 20) (.tmp 26) 28 rfl w.heap.size 66 Try.underlying28 hi hz0 hz1 hz2 rfl (by decide) [.int .i64 ph, .int .i64 pa, .int .i64 0, .int .i64 0, .int .i64 0] rfl (by intro u hu; simp at hu; rcases hu with rfl | rfl | rfl <;> rfl) rfl (by show Value.slice (some ⟨_, 0, none⟩) 1 1 = _; simp) HOX.out (by unfold maxLen; omega) (by omega) hs3 ?_; intro gg5 cc5 w5 o5 g5 at5 lt5; have O5 := Lib.hid o5; have HB5 := Lib.hid (HBX.out.grown g5 hs3 (fun q hq => (HOX.out.lt q hq).1)); clear o5 g5 at5 lt5))
          go_roundw
          case rel => exact ⟨j + 1, L ++ [⟨ph, pa, 0, 0, 0⟩], by omega, by go_num, HVN, by rw [List.length_append, ocells_push]; exact O5, HB5⟩
          case measure => simp [RowKit.intOf]; omega
        obtain rfl : j = m := by omega
        have HVx : Hid (GL = L ++ gamesL (d.drop (k + 1))) := by have h9 := HV.out; rw [List.drop_of_length_le (by have := HM.out; omega)] at h9; exact h9
        clear HV
        go_wp2
        go_roundw
        case rel => exact ⟨k + 1, L, by omega, by go_num, HVx, HO, HB⟩
        case measure => simp [RowKit.intOf]; omega
    obtain rfl : k = n := by omega
    have HVx : Hid (GL = L) := by have h9 := HV.out; rw [List.drop_of_length_le (by have := HD.out; omega)] at h9; refine Lib.hid ?_; simpa [gamesL] using h9
    clear HV
    go_wp2
    go_ret
    exact ⟨_, rfl, by rw [HVx.out]; exact HO.out, HB.out⟩
def ixR (h a : Int) : PairL → Nat → Int
  | [], _ => -1
  | p :: r, k => if hm p = h ∧ aw p = a then k else ixR h a r (k + 1)
theorem ixR_cons (h a : Int) (p : tPair.D) (r : PairL) (k : Nat) : ixR h a (p :: r) k = if hm p = h ∧ aw p = a then (k : Int) else ixR h a r (k + 1) := rfl
theorem ixR_has (h a : Int) : ∀ (r : PairL) (k : Nat), 0 ≤ ixR h a r k ↔ 0 < cntR h a r
  | [], k => by simp [ixR, cntR]
  | p :: r, k => by
    rw [ixR_cons, cntR_cons]
    by_cases e : hm p = h ∧ aw p = a
    · rw [if_pos e, if_pos e]; omega
    · rw [if_neg e, if_neg e]; exact ixR_has h a r (k + 1)
set_option maxRecDepth 100000 in
set_option maxHeartbeats 4000000 in
theorem indexPair_impl (v : Value) (r : PairL) (ho aw' : Int) (w : World) (h : RdA tPairS w [v] r) :
    Calls Try.prog 74 #[v, .agg #[.int .i64 ho, .int .i64 aw']] w fun e w' => e = .returned (.int .i64 (ixR ho aw' r 0)) ∧ Below w.heap.size w w' := by
  obtain ⟨a, c, rfl, hn⟩ := pairs_form h
  have b1 : Below w.heap.size w (w.alloc (.cells #[.int .i64 ho, .int .i64 aw'] 38)) := (Below.refl _ _).alloc (Nat.le_refl _) _
  have HR : Hid (RdA tPairS (w.alloc (.cells #[.int .i64 ho, .int .i64 aw'] 38)) [.slice a (List.length (α := tPair.D) r) c] r) := h.below b1
  have HX : Hid (BoxN (w.alloc (.cells #[.int .i64 ho, .int .i64 aw'] 38)) w.heap.size [.int .i64 ho, .int .i64 aw']) := BoxN.made (Below.refl _ _) rfl
  have HB1 := Lib.hid b1
  have hs1 : (w.alloc (.cells #[.int .i64 ho, .int .i64 aw'] 38)).heap.size = w.heap.size + 1 := by simp
  clear h b1
  obtain ⟨n, hd⟩ : ∃ n, List.length (α := tPair.D) r = n := ⟨_, rfl⟩
  have HD := Lib.hid hd
  rw [hd] at hn HR ⊢
  clear hd
  go_enter Try.func74, Try.ntmps74
  go_wp2
  generalize (w.alloc (.cells #[.int .i64 ho, .int .i64 aw'] 38)) = w1 at *
  go_loopw [8] (fun iv wr => ∃ i : Nat, i ≤ n ∧ iv = .int .i64 i ∧ Hid (ixR ho aw' (r.drop i) i = ixR ho aw' r 0) ∧ Hid (Below w1.heap.size w1 wr)) (fun iv _ => n - (RowKit.intOf iv).toNat)
  case atStart => exact ⟨0, Nat.zero_le _, rfl, rfl, Below.refl _ _⟩
  case round =>
    obtain ⟨i, hi9, rfl, HV, HB⟩ := hrel
    by_cases hlt : i < n
    · obtain ⟨p, hp⟩ : ∃ p : tPair.D, r[i]? = some p := ⟨_, List.getElem?_eq_getElem (by rw [HD.out]; exact hlt)⟩
      have HV2 := HV.out
      rw [drop_at hp, ixR_cons] at HV2
      have HRr := HR.out.below HB.out
      obtain ⟨b, off, rfl, hcap, q0, q1⟩ := pair_cells (by rw [HD.out]; exact HRr) hp
      rw [HD.out] at hcap
      have hj1 : (i : Int) < (n : Int) := by omega
      have HXr := HX.out.below HB.out
      have x0 := HXr.2 0 _ rfl
      have x1 := HXr.2 1 _ rfl
      have HV3 := Lib.hid HV2
      clear HV HV2 HRr hp HXr
      generalize hm p = ph at *
      generalize aw p = pa at *
      by_cases h1 : ph = ho ∧ pa = aw'
      · obtain ⟨rfl, rfl⟩ := h1
        have HVx : Hid (ixR ph pa r 0 = i) := by show _ = _; rw [← HV3.out]; exact if_pos ⟨rfl, rfl⟩
        clear HV3
        go_wp2_with (go_quiet (fail))
        go_ret
        exact ⟨by rw [HVx.out]; rfl, HB1.out.trans (below_drewN (HB.out.mono HB1.out.size) _)⟩
      · have HVx : Hid (ixR ho aw' (r.drop (i + 1)) (i + 1) = ixR ho aw' r 0) := by show _ = _; rw [← HV3.out]; exact (if_neg h1).symm
        by_cases h2 : ho = ph
        · have g1 : (ho == ph) = true := beq_iff_eq.2 h2
          have g2 : (aw' == pa) = false := beq_eq_false_iff_ne.2 fun e => h1 ⟨h2.symm, e.symm⟩
          clear HV3 h1 h2
          go_wp2_with (go_quiet (fail))
          go_roundw
          case rel => exact ⟨i + 1, by omega, by go_num, HVx, below_drewN HB.out _⟩
          case measure => simp [RowKit.intOf]; omega
        · have g1 : (ho == ph) = false := beq_eq_false_iff_ne.2 h2
          clear HV3 h1 h2
          go_wp2_with (go_quiet (fail))
          go_roundw
          case rel => exact ⟨i + 1, by omega, by go_num, HVx, below_drewN HB.out _⟩
          case measure => simp [RowKit.intOf]; omega
    obtain rfl : i = n := by omega
    have HVx : Hid (ixR ho aw' r 0 = -1) := by show _ = _; rw [← HV.out, List.drop_of_length_le (by have := HD.out; omega)]; rfl
    go_wp2
    go_ret
    exact ⟨by rw [HVx.out]; rfl, HB1.out.trans (HB.out.mono HB1.out.size)⟩
theorem containsPair_impl (v : Value) (r : PairL) (ho aw' : Int) (R : Bool) (hR : R = true ↔ 0 < cntR ho aw' r) (w : World) (h : RdA tPairS w [v] r) :
    Calls Try.prog 54 #[v, .agg #[.int .i64 ho, .int .i64 aw']] w fun e w' => e = .returned (.bool R) ∧ Below w.heap.size w w' := by
  have b1 : Below w.heap.size w (w.alloc (.cells #[.int .i64 ho, .int .i64 aw'] 38)) := (Below.refl _ _).alloc (Nat.le_refl _) _
  have C := Lib.hid (indexPair_impl v r ho aw' _ (h.below b1))
  have e : R = decide (0 ≤ ixR ho aw' r 0) := by
    have := ixR_has ho aw' r 0
    cases R with
    | true => exact (decide_eq_true (this.2 (hR.1 rfl))).symm
    | false => exact (decide_eq_false fun h => by have := hR.2 (this.1 h); cases this).symm
  clear hR h
  have HB := Lib.hid b1
  clear b1
  subst e
  generalize ixR ho aw' r 0 = z at *
  go_enter Try.func54, Try.ntmps54
  go_wp2_with fail
  refine C.out.mono ?_
  rintro e w1 ⟨rfl, b1⟩
  have HB2 := Lib.hid (HB.out.trans (b1.mono HB.out.size))
  clear b1 C HB
  go_wp2
  go_ret
  exact ⟨rfl, HB2.out⟩
theorem roundHas_impl (v : Value) (r : PairL) (ho aw' : Int) (B1 B2 : Nat) (R : Bool) (hR : R = true ↔ 0 < cntR ho aw' r) (w : World) (h : RdA tPairS w [v] r) (v1 : BoxN w B1 [.int .i64 ho]) (v2 : BoxN w B2 [.int .i64 aw']) :
    Calls Try.prog 53 #[v, .pointer (some ⟨B1, 0, none⟩), .pointer (some ⟨B2, 0, none⟩)] w fun e w' => e = .returned (.bool R) ∧ Below w.heap.size w w' := by
  have C := Lib.hid (containsPair_impl v r ho aw' R hR w h)
  have c1 := v1.2 0 _ rfl
  have c2 := v2.2 0 _ rfl
  clear h hR
  go_enter Try.func53, Try.ntmps53
  go_wp2_with fail
  refine C.out.mono ?_
  rintro e w1 ⟨rfl, b1⟩
  have HB := Lib.hid b1
  clear b1 C c1 c2
  go_wp2
  go_ret
  exact ⟨rfl, HB.out⟩
set_option maxRecDepth 100000 in
set_option maxHeartbeats 4000000 in
theorem indexRound_impl (v : Value) (d : List PairL) (ho aw' : Int) (B1 B2 : Nat) (w : World) (h : RdA tPairSS w [v] d) (v1 : BoxN w B1 [.int .i64 ho]) (v2 : BoxN w B2 [.int .i64 aw']) :
    Calls Try.prog 52 #[v, .func (.func 53) #[] #[.pointer (some ⟨B1, 0, none⟩), .pointer (some ⟨B2, 0, none⟩)]] w fun e w' => e = .returned (.int .i64 (ixL ho aw' d 0)) ∧ Below w.heap.size w w' := by
  obtain ⟨a, c, rfl, hn⟩ := schedule_form h
  have HR := Lib.hid h
  have K1 := Lib.hid v1
  have K2 := Lib.hid v2
  clear h v1 v2
  obtain ⟨n, hd⟩ : ∃ n, List.length (α := PairL) d = n := ⟨_, rfl⟩
  have HD := Lib.hid hd
  rw [hd] at hn ⊢
  clear hd
  go_enter Try.func52, Try.ntmps52
  go_wp2
  go_loopw [8] (fun iv wr => ∃ k : Nat, k ≤ n ∧ iv = .int .i64 k ∧ Hid (ixL ho aw' (d.drop k) k = ixL ho aw' d 0) ∧ Hid (Below w.heap.size w wr)) (fun iv _ => n - (RowKit.intOf iv).toNat)
  case atStart => exact ⟨0, Nat.zero_le _, rfl, rfl, Below.refl _ _⟩
  case round =>
    obtain ⟨k, hk9, rfl, HV, HB⟩ := hrel
    by_cases hlt : k < n
    · obtain ⟨r, hr⟩ : ∃ r : PairL, d[k]? = some r := ⟨_, List.getElem?_eq_getElem (by rw [HD.out]; exact hlt)⟩
      have HRr := HR.out.below HB.out
      obtain ⟨b, off, x, xc, rfl, hcap, q0, hrr, hm63⟩ := round_cells HRr hr
      rw [HD.out] at hcap
      have hj1 : (k : Int) < (n : Int) := by omega
      have HV2 := Lib.hid HV.out
      rw [drop_at hr, ixL_cons] at HV2
      obtain ⟨R, hR⟩ := boolEx (0 < cntR ho aw' r)
      have C := Lib.hid (roundHas_impl _ r ho aw' B1 B2 R hR _ hrr (K1.out.below HB.out) (K2.out.below HB.out))
      clear HV hr HRr hrr
      obtain ⟨m, hm⟩ : ∃ m, List.length (α := tPair.D) r = m := ⟨_, rfl⟩
      rw [hm] at q0 hm63 C
      clear hm
      cases R with
      | true =>
        have HVx : Hid (ixL ho aw' d 0 = k) := by show _ = _; rw [← HV2.out]; exact if_pos (hR.1 rfl)
        clear HV2 hR
        go_wp2_with (go_at_call 53; refine C.out.mono ?_; rintro e w2 ⟨rfl, b2⟩; have HB2 := Lib.hid (HB.out.trans (b2.mono HB.out.size)); clear b2)
        go_ret
        exact ⟨by rw [HVx.out]; rfl, HB2.out⟩
      | false =>
        have HVx : Hid (ixL ho aw' (d.drop (k + 1)) (k + 1) = ixL ho aw' d 0) := by show _ = _; rw [← HV2.out]; exact (if_neg (fun h => by have := hR.2 h; cases this)).symm
        clear HV2 hR
        go_wp2_with (go_at_call 53; refine C.out.mono ?_; rintro e w2 ⟨rfl, b2⟩; have HB2 := Lib.hid (HB.out.trans (b2.mono HB.out.size)); clear b2)
        go_roundw
        case rel => exact ⟨k + 1, by omega, by go_num, HVx, HB2⟩
        case measure => simp [RowKit.intOf]; omega
    obtain rfl : k = n := by omega
    have HVx : Hid (ixL ho aw' d 0 = -1) := by show _ = _; rw [← HV.out, List.drop_of_length_le (by have := HD.out; omega)]; rfl
    go_wp2
    go_ret
    exact ⟨by rw [HVx.out]; rfl, HB.out⟩
theorem roundOf_impl (v : Value) (d : List PairL) (ho aw' : Int) (w : World) (h : RdA tPairSS w [v] d) :
    Calls Try.prog 22 #[v, .int .i64 ho, .int .i64 aw'] w fun e w' => e = .returned (.int .i64 (ixL ho aw' d 0)) ∧ Below w.heap.size w w' := by
  have b1 : Below w.heap.size w ((w.alloc (.cells #[.int .i64 ho] 3)).alloc (.cells #[.int .i64 aw'] 3)) := ((Below.refl _ _).alloc (Nat.le_refl _) _).alloc (by simp) _
  have hv1 := h.below b1
  have B1 : BoxN (w.alloc (.cells #[.int .i64 ho] 3)) w.heap.size [.int .i64 ho] := BoxN.made (Below.refl _ _) rfl
  have B2 : BoxN ((w.alloc (.cells #[.int .i64 ho] 3)).alloc (.cells #[.int .i64 aw'] 3)) (w.heap.size + 1) [.int .i64 aw'] := BoxN.made (Below.refl _ _) (by simp)
  have B3 := B1.below ((Below.refl _ _).alloc (Nat.le_refl _) (.cells #[.int .i64 aw'] 3))
  have C := Lib.hid (indexRound_impl v d ho aw' w.heap.size (w.heap.size + 1) _ hv1 B3 B2)
  generalize ixL ho aw' d 0 = R at *
  clear h hv1 B1 B2 B3
  go_enter Try.func22, Try.ntmps22
  go_wp2_with fail
  refine C.out.mono ?_
  rintro e w2 ⟨rfl, b2⟩
  have b3 := b1.trans (b2.mono b1.size)
  go_wp2
  go_ret
  exact ⟨rfl, b3⟩
end Go.Proofs.Ytgemdjcadlejfaa
set_option linter.unusedVariables false
namespace Go.Proofs.Ytgemdjcadlejfaa
open Go.RowKit

def twoBoxes (f B1 B2 : Nat) : Value := .func (.func f) #[] #[.pointer (some ⟨B1, 0, none⟩), .pointer (some ⟨B2, 0, none⟩)]
end Go.Proofs.Ytgemdjcadlejfaa
