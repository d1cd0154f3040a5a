/-
  Records: the model's SerialOf, l05Note, NoteOk.
-/
import Derived.Test.YtlahjaakegdigaaSeason
import Derived.Test.YtlahjaakegdigaaTypeNote
set_option linter.unusedVariables false
namespace Go.Proofs.Ytlahjaakegdigaa
open Go.RowKit

/-- the seven cells of a note -/
theorem note_cells {w : World} {b o : Nat} {x : NoteD} (h : CellsAt w b o x.cells) : w.cell? ⟨b, o, none⟩ = some (.int .i64 x.serial) ∧ w.cell? ⟨b, o + 1, none⟩ = some (.int .i64 x.game) ∧ w.cell? ⟨b, o + 2, none⟩ = some (.int .i64 x.res.home) ∧
    w.cell? ⟨b, o + 3, none⟩ = some (.int .i64 x.res.away) ∧ w.cell? ⟨b, o + 4, none⟩ = some (.int .i64 x.res.hg) ∧ w.cell? ⟨b, o + 5, none⟩ = some (.int .i64 x.res.ag) ∧ w.cell? ⟨b, o + 6, none⟩ = some (.int .i64 x.res.st) :=
  ⟨h.2 0 _ rfl, h.2 1 _ rfl, h.2 2 _ rfl, h.2 3 _ rfl, h.2 4 _ rfl, h.2 5 _ rfl, h.2 6 _ rfl⟩
/-- the greatest serial number of the first k notes on a game -/
def serialN (g : Nat → NoteD) (gm : Int) : Nat → Int
  | 0 => 0
  | k + 1 => if (g k).game = gm ∧ serialN g gm k < (g k).serial then (g k).serial else serialN g gm k
theorem serialOf_spec (v : Value) (n : Nat) (g : Nat → NoteD) (gm : Int) (w : World) (hv : NoteRow w v n g) :
    Calls Try.prog 30 #[v, .int .i64 gm] w fun e w' => e = .returned (.int .i64 (serialN g gm n)) ∧ Below w.heap.size w w' := by
  obtain ⟨aa, cap, rfl, hn, hc⟩ := hv.form
  have HV := Lib.hid hc
  clear hc hv
  have h0 : serialN g gm 0 = 0 := rfl
  go_enter Try.func30, Try.ntmps30
  go_wp2
  go_loopw [5, 10] (fun s i wr => ∃ k : Nat, k ≤ n ∧ i = .int .i64 k ∧ (∃ m : Int, s = .int .i64 m ∧ Hid (m = serialN g gm k)) ∧ Below w.heap.size w wr) (fun _ i _ => n - (intOf i).toNat)
  case atStart => exact ⟨0, Nat.zero_le _, rfl, ⟨0, rfl, rfl⟩, Below.refl _ _⟩
  case round =>
    obtain ⟨k, hk, rfl, ⟨m, rfl, hm⟩, hb⟩ := hrel
    by_cases hlt : k < n
    · obtain ⟨b, off, rfl, hcap, hc⟩ := HV.out (by omega)
      have hq := (hc k hlt).belowB hb (hc k hlt).1
      have HS : Hid (serialN g gm (k + 1) = if (g k).game = gm ∧ serialN g gm k < (g k).serial then (g k).serial else serialN g gm k) := rfl
      generalize hx : g k = x at *
      obtain ⟨c0, c1, c2, c3, c4, c5, c6⟩ := note_cells hq
      have hsz := hb.size
      have hb2 := hb.alloc hsz (.cells #[.int .i64 x.serial, .int .i64 x.game, .int .i64 x.res.home, .int .i64 x.res.away, .int .i64 x.res.hg, .int .i64 x.res.ag, .int .i64 x.res.st] 33)
      clear hc HV hq hx h0
      by_cases h1 : x.game = gm
      · have g1 : (x.game == gm) = true := by simpa using h1
        by_cases h2 : m < x.serial
        · have g2 : decide (m < x.serial) = true := decide_eq_true h2
          have HX := Lib.hid (show x.serial = serialN g gm (k + 1) by rw [HS.out, if_pos ⟨h1, by rw [← hm.out]; exact h2⟩])
          have H1 := Lib.hid h1
          clear HS hm h1 
          go_wp2
          go_roundw
          case rel => exact ⟨k + 1, by omega, by go_num, ⟨_, rfl, HX.out⟩, hb2⟩
          case measure => simp [intOf]; omega
        · have g2 : decide (m < x.serial) = false := decide_eq_false h2
          have HX := Lib.hid (show m = serialN g gm (k + 1) by rw [HS.out, if_neg (fun h => h2 (by rw [hm.out]; exact h.2))]; exact hm.out)
          have H1 := Lib.hid h1
          clear HS hm h1
          go_wp2
          go_roundw
          case rel => exact ⟨k + 1, by omega, by go_num, ⟨_, rfl, HX.out⟩, hb2⟩
          case measure => simp [intOf]; omega
      · have g1 : (x.game == gm) = false := beq_eq_false_iff_ne.2 h1
        have HX := Lib.hid (show m = serialN g gm (k + 1) by rw [HS.out, if_neg (fun h => h1 h.1)]; exact hm.out)
        clear HS hm h1
        go_wp2
        go_roundw
        case rel => exact ⟨k + 1, by omega, by go_num, ⟨_, rfl, HX.out⟩, hb2⟩
        case measure => simp [intOf]; omega
    · obtain rfl : k = n := by omega
      obtain rfl := hm.out
      clear h0
      go_wp2
      go_ret
      exact ⟨rfl, hb⟩
end Go.Proofs.Ytlahjaakegdigaa
