/-
  Contracts of SplitAny and SplitLines, program and model: both make the same list of parts.
-/
import Derived.Test.YtgdahjcngkokfaaDoorTextA
import Derived.Test.YtgdahjcngkokfaaDoorMarks
set_option linter.unusedVariables false
namespace Go.Proofs.YtgdahjcngkokfaaDoor
open Go.RowKit

/-- is b one of the bytes of by? -/
def splAt (by_ : ByteArray) (b : Nat) : Bool := decide (∃ j, j < by_.size ∧ bat by_ j = b)
theorem splAt_yes (by_ : ByteArray) (b j : Nat) (h : j < by_.size) (hb : bat by_ j = b) : splAt by_ b = true := decide_eq_true ⟨j, h, hb⟩
theorem splAt_no (by_ : ByteArray) (b : Nat) (h : ∀ j, j < by_.size → bat by_ j ≠ b) : splAt by_ b = false := decide_eq_false fun ⟨j, h1, h2⟩ => h j h1 h2
/-- the parts behind k bytes, and where the last one begins -/
def spl (s by_ : ByteArray) : Nat → List ByteArray × Nat
  | 0 => ([], 0)
  | k + 1 => if splAt by_ (bat s k) = true then ((spl s by_ k).1 ++ [s.extract (spl s by_ k).2 k], k + 1) else spl s by_ k
theorem spl_hit {s by_ : ByteArray} {k F : Nat} {P : List ByteArray} (h : spl s by_ k = (P, F)) (hs : splAt by_ (bat s k) = true) : spl s by_ (k + 1) = (P ++ [s.extract F k], k + 1) := by
  rw [spl, if_pos hs, h]
theorem spl_miss {s by_ : ByteArray} {k F : Nat} {P : List ByteArray} (h : spl s by_ k = (P, F)) (hs : splAt by_ (bat s k) = false) : spl s by_ (k + 1) = (P, F) := by
  rw [spl, if_neg (by rw [hs]; decide), h]
def splAll (s by_ : ByteArray) : List ByteArray := (spl s by_ s.size).1 ++ [s.extract (spl s by_ s.size).2 s.size]
theorem splAll_of {s by_ : ByteArray} {F : Nat} {P : List ByteArray} (h : spl s by_ s.size = (P, F)) : splAll s by_ = P ++ [s.extract F s.size] := by
  unfold splAll; rw [h]
theorem Tryd.infoS : (Tryd.prog.info? 9).map (fun i => (i.zero, i.size, i.bytes)) = some (some (.string ByteArray.empty), 1, 16) := by kernel_rfl

def SplitPost (base : Nat) (w : World) (L : List ByteArray) (e : Ending) (w' : World) : Prop :=
  ∃ v, e = .returned v ∧ w'.ownsRow base 9 1 v L.length (L.map Value.string) ∧ Below base w w'

def splTo (by_ : ByteArray) (j b : Nat) : Bool := decide (∃ t, t < j ∧ bat by_ t = b)
def tab0 : Array Value := Array.replicate 256 (.bool false)
theorem Tryd.zeroTab (w : World) : (zeroValue 46).run Tryd.prog w = .ok (.agg tab0) w := by kernel_rfl
/-- block B is a table of 256 bools: cell b tells whether b is one of the first j bytes of by -/
def IsTab (by_ : ByteArray) (B j : Nat) (w : World) : Prop :=
  ∃ cur : Array Value, w.heap[B]? = some (.cells cur 46 (0, 0)) ∧ ∀ b, b < 256 → cur[b]? = some (.bool (splTo by_ j b))
theorem IsTab.start (by_ : ByteArray) (w : World) : IsTab by_ w.heap.size 0 (w.alloc (.cells tab0 46)) := by
  refine ⟨tab0, heap_alloc_new w _, fun b hb => ?_⟩
  have : splTo by_ 0 b = false := decide_eq_false fun ⟨t, h, _⟩ => absurd h (by omega)
  rw [this]
  simp [tab0, hb]
theorem IsTab.cell {by_ : ByteArray} {B j : Nat} {w : World} (h : IsTab by_ B j w) (b : Nat) (hb : b < 256) : w.cell? ⟨B, b, none⟩ = some (.bool (splTo by_ j b)) := by
  obtain ⟨cur, h1, h2⟩ := h
  rw [cell_of_row w B b cur _ (0, 0) h1]
  exact h2 b hb
theorem IsTab.free {by_ : ByteArray} {B j : Nat} {w : World} (h : IsTab by_ B j w) (b : Nat) : w.frozen? ⟨B, b, none⟩ = false := by
  obtain ⟨cur, h1, h2⟩ := h
  exact frozen_of_row w B b cur _ h1
theorem IsTab.set {by_ : ByteArray} {B j : Nat} {w : World} (h : IsTab by_ B j w) : IsTab by_ B (j + 1) (w.setCell ⟨B, bat by_ j, none⟩ (.bool true)) := by
  obtain ⟨cur, h1, h2⟩ := h
  refine ⟨cur.setIfInBounds (bat by_ j) (.bool true), heap_setCell_same w B _ cur _ _ h1, fun b hb => ?_⟩
  by_cases hbj : bat by_ j = b
  · have : splTo by_ (j + 1) b = true := decide_eq_true ⟨j, by omega, hbj⟩
    rw [this, hbj]
    have hlt : b < cur.size := (Array.getElem?_eq_some_iff.1 (h2 b hb)).1
    simp [hlt]
  · have : splTo by_ (j + 1) b = splTo by_ j b := by
      unfold splTo
      apply decide_eq_decide.2
      constructor
      · rintro ⟨t, ht, e⟩
        refine ⟨t, ?_, e⟩
        by_cases htj : t = j
        · rw [htj] at e; exact absurd e hbj
        · omega
      · rintro ⟨t, ht, e⟩
        exact ⟨t, by omega, e⟩
    rw [this, Array.getElem?_setIfInBounds_ne hbj]
    exact h2 b hb
theorem IsTab.kept {by_ : ByteArray} {B j : Nat} {w w' : World} (h : IsTab by_ B j w) (hk : w'.heap[B]? = w.heap[B]?) : IsTab by_ B j w' := by
  obtain ⟨cur, h1, h2⟩ := h
  exact ⟨cur, hk.trans h1, h2⟩
theorem IsTab.full {by_ : ByteArray} {B : Nat} {w : World} (h : IsTab by_ B by_.size w) (b : Nat) (hb : b < 256) : w.cell? ⟨B, b, none⟩ = some (.bool (splAt by_ b)) := h.cell b hb

theorem splitAny_impl (s by_ : ByteArray) (w : World) (hs : s.size ≤ 1048576) (hy : by_.size ≤ 1048576) :
    Calls Tryd.prog 11 #[.string s, .string by_] w (SplitPost w.heap.size w (splAll s by_)) := by
  obtain ⟨i0, hi, hz0, hz1, hz2⟩ := info_parts Tryd.infoS
  have hzt := Tryd.zeroTab
  go_enter Tryd.func11, Tryd.ntmps11
  go_wp2
  go_loopw [6, 12] (fun _ i wr => ∃ j : Nat, j ≤ by_.size ∧ i = .int .i64 j ∧ IsTab by_ w.heap.size j wr ∧ Below w.heap.size w wr) (fun _ i _ => by_.size - (intOf i).toNat)
  case atStart => exact ⟨0, Nat.zero_le _, rfl, IsTab.start by_ w, (Below.refl _ _).alloc (Nat.le_refl _) _⟩
  case round =>
    obtain ⟨j, hj, rfl, htab, hb⟩ := hrel
    clear hzt
    by_cases hlj : j < by_.size
    · have hbj := Lib.hid (bat_of by_ j hlj)
      have hc : wr.cell? ⟨w.heap.size, (by_[j]'hlj).toNat, none⟩ = some (.bool (splTo by_ j (by_[j]'hlj).toNat)) := htab.cell _ (by rw [← hbj.out]; exact bat_lt _ _)
      have hf : wr.frozen? ⟨w.heap.size, (by_[j]'hlj).toNat, none⟩ = false := htab.free _
      have hlt : (by_[j]'hlj).toNat < 256 := (by_[j]'hlj).toNat_lt
      have hset := htab.set
      rw [hbj.out] at hset
      generalize splTo by_ j (by_[j]'hlj).toNat = old at hc
      have Hset := Lib.hid hset
      clear hset htab
      go_wp2
      go_roundw
      case rel => exact ⟨j + 1, by omega, by go_num, Hset.out, hb.setCell (Nat.le_refl _) _⟩
      case measure => simp [intOf]; omega
    · obtain rfl : j = by_.size := by omega
      obtain ⟨wt, rfl⟩ : ∃ wt : World, wt = wr := ⟨_, rfl⟩
      have hszt : w.heap.size < wt.heap.size := by
        obtain ⟨cur, h1, _⟩ := htab
        exact (Array.getElem?_eq_some_iff.1 h1).1
      go_wp2
      go_loopw [7, 8, 9, 22] (fun out fr _ i wr => ∃ (k F : Nat) (P : List ByteArray), k ≤ s.size ∧ i = .int .i64 k ∧ fr = .int .i64 F ∧ F ≤ k ∧ P.length ≤ k ∧ Hid (spl s by_ k = (P, F)) ∧
        wr.ownsRow (w.heap.size + 1) 9 1 out P.length (P.map Value.string) ∧ Below (w.heap.size + 1) wt wr) (fun _ _ _ i _ => s.size - (intOf i).toNat)
      case atStart => exact ⟨0, 0, [], Nat.zero_le _, rfl, rfl, Nat.le_refl _, Nat.le_refl _, rfl, World.ownsRow_nil _ _ _ _, Below.refl _ _⟩
      case round =>
        obtain ⟨k, F, P, hk, rfl, rfl, hF, hP, hspl, hown, hbt⟩ := hrel
        have hsz := hbt.size
        have htab' : IsTab by_ w.heap.size by_.size wr := htab.kept (hbt.block _ (by omega))
        clear htab
        by_cases hlt : k < s.size
        · have hbs := bat_of s k hlt
          have hc : wr.cell? ⟨w.heap.size, (s[k]'hlt).toNat, none⟩ = some (.bool (splAt by_ (bat s k))) := by rw [hbs]; exact htab'.full _ (s[k]'hlt).toNat_lt
          have hlt2 : (s[k]'hlt).toNat < 256 := (s[k]'hlt).toNat_lt
          clear htab' hbs
          by_cases hs : splAt by_ (bat s k) = true
          · have Hs := Lib.hid hs
            rw [hs] at hc
            clear hs
            go_wp2_with (at_builtin; refine wpList_push rfl (.tmp 30) (.tmp 35) 29 rfl (w.heap.size + 1) 9 Tryd.underlying29 hi hz0 hz1 hz2 rfl (by decide) [.string (s.extract F k)] rfl (by intro u hu; simp at hu; subst hu; rfl) rfl rfl hown (by unfold maxLen; omega) (by omega) (by omega) ?_; intro v' w1 hown1 hg1)
            go_roundw
            case rel =>
              exact ⟨k + 1, k + 1, P ++ [s.extract F k], by omega, by go_num, by go_num, Nat.le_refl _, by simp; omega, spl_hit hspl.out Hs.out, by simpa using hown1,
                below_push hbt hown hg1 (Nat.le_refl _) (by omega)⟩
            case measure => simp [intOf]; omega
          · have hs' : splAt by_ (bat s k) = false := by simpa using hs
            have Hs := Lib.hid hs'
            rw [hs'] at hc
            clear hs hs'
            go_wp2
            go_roundw
            case rel => exact ⟨k + 1, F, P, by omega, by go_num, rfl, by omega, by omega, spl_miss hspl.out Hs.out, hown, hbt⟩
            case measure => simp [intOf]; omega
        · obtain rfl : k = s.size := by omega
          have hL := Lib.hid (splAll_of hspl.out)
          clear htab'
          go_wp2_with (at_builtin; refine wpList_push rfl (.tmp 40) (.tmp 44) 29 rfl (w.heap.size + 1) 9 Tryd.underlying29 hi hz0 hz1 hz2 rfl (by decide) [.string (s.extract F s.size)] rfl (by intro u hu; simp at hu; subst hu; rfl) rfl rfl hown (by unfold maxLen; omega) (by omega) (by omega) ?_; intro v' w1 hown1 hg1)
          go_ret
          refine ⟨v', rfl, ?_, hb.trans ((below_push hbt hown hg1 (Nat.le_refl _) (by omega)).mono (by omega))⟩
          rw [hL.out]
          exact owns_mono (by simpa using hown1) (Nat.le_succ _)

theorem spl_len (s by_ : ByteArray) : ∀ k, (spl s by_ k).1.length ≤ k
  | 0 => Nat.le_refl _
  | k + 1 => by
    rw [spl]
    split
    · simp; exact spl_len s by_ k
    · exact Nat.le_succ_of_le (spl_len s by_ k)
theorem splAll_len (s by_ : ByteArray) : (splAll s by_).length ≤ s.size + 1 := by
  have := spl_len s by_ s.size
  simp [splAll]; omega

/-- the call makes a slice of n strings that reads g and owns its memory -/
def StrsMade (w : World) (n : Nat) (g : Nat → ByteArray) (e : Ending) (w' : World) : Prop :=
  ∃ v, e = .returned v ∧ StrRow w' v n g ∧ (∃ xs, w'.ownsRow w.heap.size 9 1 v n xs) ∧ Below w.heap.size w w'
theorem StrsMade.of {k : Nat} {args : Array Value} {w : World} {L : List ByteArray} (h : Calls Tryd.prog k args w (SplitPost w.heap.size w L)) (hn : L.length ≤ 999999999999) :
    Calls Tryd.prog k args w (StrsMade w L.length (getS L)) :=
  h.mono fun e w' ⟨v, h1, h2, h3⟩ => ⟨v, h1, StrRow.of_list h2 (by omega), ⟨_, h2⟩, h3⟩
end Go.Proofs.YtgdahjcngkokfaaDoor
