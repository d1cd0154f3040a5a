/-
  Contracts of SplitLines, program and model: both make the same list of lines.
-/
import Derived.Test.YtgdahjcngkokfaaDoorSplit
import Derived.Lib.OthersKept
set_option linter.unusedVariables false
namespace Go.Proofs.YtgdahjcngkokfaaDoor
open Go.RowKit

def nl : ByteArray := ⟨#[10]⟩
theorem nl_bat : bat nl 0 = 10 := by decide
theorem splAt_nl_yes {b : Nat} (h : b = 10) : splAt nl b = true := splAt_yes nl b 0 (by decide) (by rw [h]; exact nl_bat)
theorem splAt_nl_no {b : Nat} (h : b ≠ 10) : splAt nl b = false := splAt_no nl b fun j hj => by
  have hs : nl.size = 1 := rfl
  obtain rfl : j = 0 := by omega
  rw [nl_bat]; exact fun e => h e.symm
theorem spl_skip {s by_ : ByteArray} {pos F : Nat} {P : List ByteArray} (h : spl s by_ pos = (P, F)) : ∀ wd, (∀ j, j < wd → splAt by_ (bat s (pos + j)) = false) → spl s by_ (pos + wd) = (P, F)
  | 0, _ => h
  | wd + 1, hn => spl_miss (spl_skip h wd fun j hj => hn j (by omega)) (hn wd (by omega))
def lns (s : ByteArray) : List ByteArray := if (spl s nl s.size).2 < s.size then (spl s nl s.size).1 ++ [s.extract (spl s nl s.size).2 s.size] else (spl s nl s.size).1
theorem lns_more {s : ByteArray} {F : Nat} {P : List ByteArray} (h : spl s nl s.size = (P, F)) (hF : F < s.size) : lns s = P ++ [s.extract F s.size] := by
  unfold lns; rw [h]; simp [hF]
theorem lns_less {s : ByteArray} {F : Nat} {P : List ByteArray} (h : spl s nl s.size = (P, F)) (hF : ¬ F < s.size) : lns s = P := by
  unfold lns; rw [h]; simp [hF]
theorem lns_len (s : ByteArray) : (lns s).length ≤ s.size + 1 := by
  have := spl_len s nl s.size
  unfold lns
  split <;> simp <;> omega
theorem owns_iterAt {w : World} {base : Nat} {e : TypeId} {size : Nat} {v : Value} {n : Nat} {xs : List Value} (h : w.ownsRow base e size v n xs) {k : Nat} (hk : k < base) (s : ByteArray) (pos : Nat) :
    (w.iterAt k s pos).ownsRow base e size v n xs := by
  refine ⟨h.1, ?_⟩
  rcases h.2 with hn | ⟨g, cap, cur, rfl, hbg, hgg, rest⟩
  · exact .inl hn
  · exact .inr ⟨g, cap, cur, rfl, hbg, (Lib.iterAt_other w k g s pos (by omega)).trans hgg, rest⟩

theorem splitLines_impl (s : ByteArray) (w : World) (hs : s.size ≤ 1048576) :
    Calls Tryd.prog 13 #[.string s] w (SplitPost w.heap.size w (lns s)) := by
  obtain ⟨i0, hi, hz0, hz1, hz2⟩ := info_parts Tryd.infoS
  go_enter Tryd.func13, Tryd.ntmps13
  go_wp2
  go_loopw [3, 4] (fun out fr wr => ∃ (pos F : Nat) (P : List ByteArray), pos ≤ s.size ∧ fr = .int .i64 F ∧ F ≤ pos ∧ P.length ≤ pos ∧ Hid (spl s nl pos = (P, F)) ∧ Hid (wr.heap[w.heap.size]? = some (.stringIter s pos)) ∧
      wr.ownsRow (w.heap.size + 1) 9 1 out P.length (P.map Value.string) ∧ Below w.heap.size w wr) (fun _ _ wr => s.size - wr.iterPos w.heap.size)
  case atStart => exact ⟨0, 0, [], Nat.zero_le _, rfl, Nat.le_refl _, Nat.le_refl _, rfl, World.iter_heap w s 0, World.ownsRow_nil _ _ _ _, (Below.refl _ _).alloc (Nat.le_refl _) _⟩
  case round =>
    obtain ⟨pos, F, P, hk, rfl, hF, hP, hspl, hit, hown, hb⟩ := hrel
    have hsz : w.heap.size < wr.heap.size := (Array.getElem?_eq_some_iff.1 hit.out).1
    by_cases hp : pos < s.size
    · have hnx : ∀ ty, (Instr.next (.pointer (some ⟨w.heap.size, 0, none⟩)) true ty).run Tryd.prog wr = _ := fun ty => Lib.run_next_any_at wr w.heap.size s pos ty hit.out hp
      by_cases h10 : bat s pos = 10
      · have Hs := Lib.hid (splAt_nl_yes h10)
        rw [decode_low s pos hp (by omega), h10] at hnx
        have hit2 := Lib.hid (Lib.iterAt_heap wr w.heap.size s pos (pos + 1) hit.out)
        have hown2 := owns_iterAt hown (Nat.lt_succ_self w.heap.size) s (pos + 1)
        have hb2 := Lib.below_iterAt hb (Nat.le_refl w.heap.size) s (pos + 1)
        have hm : Hid (wr.iterPos w.heap.size = pos) := by show _ = _; simp only [World.iterPos, hit.out]
        have hsz2 : w.heap.size < (wr.iterAt w.heap.size s (pos + 1)).heap.size := by rw [Lib.iterAt_size]; exact hsz
        clear h10 hown hb hsz
        go_wp2_with (at_builtin; refine wpList_push rfl (.tmp 15) (.tmp 20) 29 rfl (w.heap.size + 1) 9 Tryd.underlying29 hi hz0 hz1 hz2 rfl (by decide) [.string (s.extract F pos)] rfl (by intro u hu; simp at hu; subst hu; rfl) rfl rfl hown2 (by unfold maxLen; omega) (by omega) hsz2 ?_; intro v' w1 hown1 hg1)
        have hit3 : w1.heap[w.heap.size]? = some (.stringIter s (pos + 1)) := by
          rw [hg1.block w.heap.size hsz2 ?_]
          · exact hit2.out
          · intro e
            have := (hown2.lt _ e.symm).1
            omega
        go_roundw
        case rel =>
          exact ⟨pos + 1, pos + 1, P ++ [s.extract F pos], by omega, by go_num, Nat.le_refl _, by simp; omega, spl_hit hspl.out Hs.out, hit3, by simpa using hown1,
            hb2.grown hg1 (Nat.le_of_lt hsz2) fun k hk => by have := (hown2.lt k hk).1; omega⟩
        case measure => rw [hm.out]; simp only [World.iterPos, hit3]; omega
      · have hr : ((((Utf8.decode s pos).1 : Nat) : Int) == 10) = false ∧ pos + (Utf8.decode s pos).2 ≤ s.size ∧ 1 ≤ (Utf8.decode s pos).2 ∧ ∀ j, j < (Utf8.decode s pos).2 → splAt nl (bat s (pos + j)) = false := by
          by_cases hl : bat s pos < 128
          · rw [decode_low s pos hp hl]
            refine ⟨by simp; omega, by simp only; omega, Nat.le_refl _, fun j hj => ?_⟩
            obtain rfl : j = 0 := by simp only at hj; omega
            exact splAt_nl_no h10
          · have h1 := (decode_hi s pos hp hl).1
            have h2 := decode_cont s pos hp hl
            exact ⟨by simp; omega, h2.2.1, h2.1, fun j hj => splAt_nl_no (by have := h2.2.2 j hj; omega)⟩
        generalize (Utf8.decode s pos).1 = r at *
        generalize (Utf8.decode s pos).2 = wd at *
        obtain ⟨g1, hwd, hwd1, hno⟩ := hr
        have Hs := Lib.hid (spl_skip hspl.out wd hno)
        have hit2 := Lib.hid (Lib.iterAt_heap wr w.heap.size s pos (pos + wd) hit.out)
        have hown2 := owns_iterAt hown (Nat.lt_succ_self w.heap.size) s (pos + wd)
        have hb2 := Lib.below_iterAt hb (Nat.le_refl w.heap.size) s (pos + wd)
        have hm : Hid (wr.iterPos w.heap.size = pos) := by show _ = _; simp only [World.iterPos, hit.out]
        clear hno hown hb hsz h10
        go_wp2
        go_roundw
        case rel => exact ⟨pos + wd, F, P, hwd, rfl, by omega, by omega, Hs.out, hit2.out, hown2, hb2⟩
        case measure => rw [hm.out]; simp only [World.iterPos, hit2.out]; omega
    · obtain rfl : pos = s.size := by omega
      have hnx : ∀ ty, (Instr.next (.pointer (some ⟨w.heap.size, 0, none⟩)) true ty).run Tryd.prog wr = _ := fun ty => Lib.run_next_end_at wr w.heap.size s s.size ty hit.out hp
      by_cases hlt : F < s.size
      · have hL := Lib.hid (lns_more hspl.out hlt)
        go_wp2_with (at_builtin; refine wpList_push rfl (.tmp 28) (.tmp 32) 29 rfl (w.heap.size + 1) 9 Tryd.underlying29 hi hz0 hz1 hz2 rfl (by decide) [.string (s.extract F s.size)] rfl (by intro u hu; simp at hu; subst hu; rfl) rfl rfl hown (by unfold maxLen; omega) (by omega) hsz ?_; intro v' w1 hown1 hg1)
        go_ret
        refine ⟨v', rfl, ?_, hb.grown hg1 (Nat.le_of_lt hsz) fun k hk => by have := (hown.lt k hk).1; omega⟩
        rw [hL.out]
        exact owns_mono (by simpa using hown1) (Nat.le_succ _)
      · have hL := Lib.hid (lns_less hspl.out hlt)
        go_wp2
        go_ret
        refine ⟨_, rfl, ?_, hb⟩
        rw [hL.out]
        exact owns_mono hown (Nat.le_succ _)

end Go.Proofs.YtgdahjcngkokfaaDoor
