/-
  Packed: CalTy.
-/
import Derived.Test.YtcbpgbiannpfpaaQ7
import Derived.Test.YtcbpgbiannpfpaaQ11
set_option linter.unusedVariables false
namespace Go.Proofs.Ytcbpgbiannpfpaa
open Go.RowKit

theorem sea_rd {w : World} {v0 v1 v3 : Value} {x : Int} {d : tSeason.D} (h : RdA tSeason w [v0, v1, .int .i64 x, v3] d) : RdA tPairSS w [v0] d.1 ∧ IntRow w v1 (List.length (α := Int) d.2.1) (getI d.2.1) ∧ RdA tClosedS w [v3] d.2.2.2 := by
  have h0 : RdA tPairSS w [v0] d.1 := (rd_split h).1
  have t0 := (rd_split h).2
  have h1 : RdA tIntS w [v1] d.2.1 := (rd_split t0).1
  have t1 := (rd_split t0).2
  have h3 : RdA tClosedS w [v3] d.2.2.2 := (rd_split t1).2
  exact ⟨h0, rd_IntS.1 h1, h3⟩
theorem sea_wt {d : tSeason.D} (h : tSeason.wt d ≤ 1048576) : tPairSS.wt d.1 ≤ 1048576 := by
  have e : tSeason.wt d = tPairSS.wt d.1 + (tIntS.wt d.2.1 + (tInt.wt d.2.2.1 + tClosedS.wt d.2.2.2)) := rfl
  omega
theorem sea_len {d : tSeason.D} (h : tSeason.wt d ≤ 1048576) : List.length (α := PairL) d.1 ≤ 1048576 := by
  have e : tPairSS.wt d.1 = List.length (α := PairL) d.1 + (List.map tPairS.wt d.1).sum := rfl
  have := sea_wt h
  omega
theorem mks_ints (T : List Int) : tIntS.mks T = 1 * List.length (α := Int) T := sum_const (f := tInt.mks) (fun _ => rfl) _
theorem firstF_len {rest : Int} {C : ClosL} {L : List Int} {D : List PairL} {T : List Int} (h : firstF rest C L D [] = some T) : T.length = List.length (α := PairL) D := by
  rw [(firstF_find D [] T h).1]; exact Nat.zero_add _
theorem marks_cal {R : Bool} {D : List PairL} {L : List Int} {rest : Int} {C : ClosL} (h : List.length (α := PairL) D ≤ 1048576) : tIntS.mks ((calF R D L rest C).getD []) ≤ 100000000000 := by
  rw [mks_ints]
  unfold calF
  split
  · cases hf : firstF rest C L D [] with
    | none => show 1 * 0 ≤ _; omega
    | some T => have := firstF_len hf; show 1 * T.length ≤ _; omega
  · show 1 * 0 ≤ _; omega
theorem marks_blk {R : Bool} {D : List PairL} {L : List Int} {C : ClosL} (h : List.length (α := PairL) D ≤ 1048576) : tIntS.mks (blkL R D L C) ≤ 100000000000 := by
  rw [mks_ints]
  unfold blkL
  split
  · have h1 := idxL_len (blkB D L C) (List.length (α := PairL) D)
    show 1 * (idxL (blkB D L C) (List.length (α := PairL) D)).length ≤ _
    omega
  · show 1 * 0 ≤ _; omega
theorem DatesM.owN {w w' : World} {o : Option (List Int)} {e : Ending} (h : DatesM w o e w') : ∃ v, e = .returned (.tuple #[v, .bool o.isSome]) ∧ OwN tIntS w' w.heap.size w'.heap.size [v] (o.getD []) ∧ Below w.heap.size w w' := by
  obtain ⟨v, he, ho, hb⟩ := h
  exact ⟨v, he, own_ints ho (fun q hq => (ho.lt q hq).2) (Nat.le_refl _), hb⟩
end Go.Proofs.Ytcbpgbiannpfpaa
