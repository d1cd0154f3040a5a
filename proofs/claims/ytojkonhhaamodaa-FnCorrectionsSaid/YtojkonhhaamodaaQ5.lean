/-
  Packed: Season, TypeNote, Records, Records2, Records3, Records4, Records5, NotesList, Canon, BoxF.
-/
import Derived.Deep.RegionHeld3
import Derived.Test.YtojkonhhaamodaaQ1
import Derived.Test.YtojkonhhaamodaaQ4
set_option linter.unusedVariables false
namespace Go.Proofs.Ytojkonhhaamodaa
open Go.RowKit

/-- the games are a season of n teams -/
def seasonP (n : Int) (m : Nat) (g : Nat → GameD) : Prop := m ≤ 60 ∧ ∀ i, i < m → gameP n (g i) ∧ firstI (atG g (g i).home (g i).away) m 0 = (i : Int)
theorem seasonOk_spec (n : Int) (v : Value) (m : Nat) (g : Nat → GameD) (R : Bool) (w : World) (hR : R = true ↔ seasonP n m g) (hv : GameRow w v m g) :
    Calls Try.prog 74 #[.int .i64 n, v] w fun e w' => e = .returned (.bool R) ∧ Below w.heap.size w w' := by
  obtain ⟨aa, cap, rfl, hn, hc⟩ := hv.form
  have HV := Lib.hid hc
  have HG := Lib.hid hv
  have HR := Lib.hid hR
  clear hc hv hR
  by_cases h60 : 60 < m
  · have g0 : decide (60 < (m : Int)) = true := decide_eq_true (by omega)
    have g0' : decide (60 < m) = true := decide_eq_true h60
    have hf : R = false := by
      cases R with
      | false => rfl
      | true => have := (HR.out.1 rfl).1; omega
    subst hf
    clear HR
    go_enter Try.func74, Try.ntmps74
    go_wp2
    go_ret
    exact ⟨rfl, Below.refl _ _⟩
  have g0 : decide (60 < (m : Int)) = false := decide_eq_false (by omega)
  have g0' : decide (60 < m) = false := decide_eq_false h60
  have HNO : Hid (∀ k, k < m → ¬ (gameP n (g k) ∧ firstI (atG g (g k).home (g k).away) m 0 = (k : Int)) → R = false) := fun k hk h => by
    cases R with
    | false => rfl
    | true => exact absurd ((HR.out.1 rfl).2 k hk) h
  have HYES : Hid ((∀ i, i < m → gameP n (g i) ∧ firstI (atG g (g i).home (g i).away) m 0 = (i : Int)) → R = true) := fun h => HR.out.2 ⟨by omega, h⟩
  clear HR
  go_enter Try.func74, Try.ntmps74
  go_wp2
  go_loopw [12] (fun i wr => ∃ k : Nat, k ≤ m ∧ i = .int .i64 k ∧ Hid (∀ i, i < k → gameP n (g i) ∧ firstI (atG g (g i).home (g i).away) m 0 = (i : Int)) ∧ Below w.heap.size w wr) (fun i _ => m - (intOf i).toNat)
  case atStart => exact ⟨0, Nat.zero_le _, rfl, fun i hi => absurd hi (by omega), Below.refl _ _⟩
  case round =>
    obtain ⟨k, hk, rfl, hok, hb⟩ := hrel
    by_cases hlt : k < m
    · obtain ⟨b, off, rfl, hcap, hc⟩ := HV.out (by omega)
      have hq := (hc k hlt).belowB hb (hc k hlt).1
      have HS : Hid ((gameP n (g k) ∧ firstI (atG g (g k).home (g k).away) m 0 = (k : Int)) → ∀ i, i < k + 1 → gameP n (g i) ∧ firstI (atG g (g i).home (g i).away) m 0 = (i : Int)) := fun h i hi => by
        by_cases hik : i = k
        · subst hik; exact h
        · exact hok.out i (by omega)
      have HN := Lib.hid (HNO.out k hlt)
      have CG := Lib.hid (fun w1 h1 => gameOf_spec (.slice (some ⟨b, off, none⟩) m cap) m g (g k).home (g k).away w1 h1)
      generalize firstI (atG g (g k).home (g k).away) m 0 = fi at *
      generalize g k = x at *
      obtain ⟨c0, c1, c2, c3, c4⟩ := game_cells hq
      have hsz := hb.size
      clear hc HV hq hok HNO HYES
      obtain ⟨r, hr⟩ : ∃ r : Bool, r = true ↔ gameP n x := by
        by_cases h : gameP n x
        · exact ⟨true, fun _ => h, fun _ => rfl⟩
        · exact ⟨false, (fun e => by cases e), fun e => absurd e h⟩
      have C := Lib.hid (fun w1 => gameOk_spec n x.home x.away x.hg x.ag x.st r w1 hr)
      have HR2 := Lib.hid hr
      clear hr
      cases r with
      | false =>
        have hf : R = false := HN.out fun h => by have := HR2.out.2 h.1; cases this
        subst hf
        clear HN HS HR2
        go_wp2_with fail
        refine (C.out _).mono ?_
        rintro e w2 ⟨rfl, b2⟩
        have hb2 := hb.trans ((below_prev b2).mono hsz)
        go_wp2
        go_ret
        exact ⟨rfl, hb2⟩
      | true =>
        go_wp2_with fail
        refine (C.out _).mono ?_
        rintro e w2 ⟨rfl, b2⟩
        have bx := BoxN.made b2 (B := wr.heap.size) rfl
        have d0 := bx.2 0 _ rfl
        have d1 := bx.2 1 _ rfl
        have hb2 := hb.trans ((below_prev b2).mono hsz)
        have hG2 := Lib.hid (HG.out.below hb2 (Nat.le_refl _))
        clear b2 bx c0 c1 c2 c3 c4 C
        go_wp2_with fail
        refine (CG.out _ hG2.out).mono ?_
        rintro e w3 ⟨rfl, b3⟩
        have hb3 := hb2.trans (b3.mono hb2.size)
        clear b3 CG hG2 d0 d1
        by_cases hfi : fi = (k : Int)
        · have HX := Lib.hid (HS.out ⟨HR2.out.1 (by simp), hfi⟩)
          subst hfi
          clear HN HS HR2
          go_wp2
          go_roundw
          case rel => exact ⟨k + 1, by omega, by go_num, HX.out, hb3⟩
          case measure => simp [intOf]; omega
        · have hf : R = false := HN.out fun h => hfi h.2
          subst hf
          have g1 : (fi != (k : Int)) = true := bne_iff_ne.2 hfi
          have HF := Lib.hid hfi
          clear HN HS HR2 hfi
          go_wp2
          go_ret
          exact ⟨rfl, hb3⟩
    · obtain rfl : k = m := by omega
      obtain rfl := HYES.out hok.out
      clear HNO HYES hok
      go_wp2
      go_ret
      exact ⟨rfl, hb⟩
end Go.Proofs.Ytojkonhhaamodaa
set_option linter.unusedVariables false
namespace Go.Proofs.Ytojkonhhaamodaa
open Go.RowKit

structure NoteD where
  serial : Int
  game : Int
  res : GameD
instance : Inhabited NoteD := ⟨⟨0, 0, ⟨0, 0, 0, 0, 0⟩⟩⟩
def NoteD.cells (t : NoteD) : List Value := [.int .i64 t.serial, .int .i64 t.game, .int .i64 t.res.home, .int .i64 t.res.away, .int .i64 t.res.hg, .int .i64 t.res.ag, .int .i64 t.res.st]
def NoteD.val (t : NoteD) : Value := .agg #[.int .i64 t.serial, .int .i64 t.game, .int .i64 t.res.home, .int .i64 t.res.away, .int .i64 t.res.hg, .int .i64 t.res.ag, .int .i64 t.res.st]
def NoteD.fit (t : NoteD) : Prop := IntFit t.serial ∧ IntFit t.game ∧ IntFit t.res.home ∧ IntFit t.res.away ∧ IntFit t.res.hg ∧ IntFit t.res.ag ∧ IntFit t.res.st
theorem NoteD.len (t : NoteD) : t.cells.length = 7 := rfl
def NoteRow (w : World) (v : Value) (n : Nat) (g : Nat → NoteD) : Prop := RecRow 7 w v n fun i => (g i).cells
theorem NoteRow.below {w w' : World} {B : Nat} {v : Value} {n : Nat} {g : Nat → NoteD} (h : NoteRow w v n g) (hb : Below B w w') (hB : w.heap.size ≤ B) : NoteRow w' v n g := RecRow.below h hb hB
theorem NoteRow.touch {lo hi lo' hi' : Nat} {w w' : World} {v : Value} {n : Nat} {g : Nat → NoteD} (h : NoteRow w v n g) (t : Touch lo hi w w') (hv : 0 < n → InW lo' hi' v) (ho : hi' ≤ lo ∨ hi ≤ lo') : NoteRow w' v n g := RecRow.touch h t hv ho
theorem NoteRow.form {w : World} {v : Value} {n : Nat} {g : Nat → NoteD} (h : NoteRow w v n g) : ∃ a cap, v = .slice a n cap ∧ n ≤ 9223372036854775807 ∧ (0 < n → ∃ b off, a = some ⟨b, off, none⟩ ∧ n ≤ cap ∧ ∀ i, i < n → CellsAt w b (off + i * 7) (g i).cells) := RecRow.form h
theorem InW.noteRow {hi : Nat} {v : Value} {w : World} {n : Nat} {g : Nat → NoteD} (h : NoteRow w v n g) (h0 : 0 < n) (hs : w.heap.size ≤ hi) : InW 0 hi v := RecRow.inw h h0 hs
theorem NoteRow.of_owns {w : World} {base : Nat} {e : TypeId} {v : Value} {n : Nat} {xs : List Value} {g : Nat → NoteD} (h : w.ownsRow base e 7 v n xs) (hn : n ≤ 9223372036854775807) (hg : RecCells 7 n xs fun i => (g i).cells) : NoteRow w v n g := RecRow.of_owns h hn hg fun _ _ => Nat.le_refl _
theorem Try.infoNote : (Try.prog.info? 39).map (fun i => (i.zero, i.size, i.bytes)) = some (some (.agg #[.int .i64 0, .int .i64 0, .int .i64 0, .int .i64 0, .int .i64 0, .int .i64 0, .int .i64 0]), 7, 56) := by kernel_rfl
def noteMk (k : Int) (i : Nat) : NoteD := ⟨k + 7 * (i : Int), k + 7 * (i : Int) + 1, ⟨k + 7 * (i : Int) + 1 + 1, k + 7 * (i : Int) + 1 + 1 + 1, k + 7 * (i : Int) + 1 + 1 + 1 + 1, k + 7 * (i : Int) + 1 + 1 + 1 + 1 + 1, k + 7 * (i : Int) + 1 + 1 + 1 + 1 + 1 + 1⟩⟩
theorem tgrownNote {a b c : World} {row : Option Nat} (h : a.grownBy b row) (k : b.grownBy c row) : a.grownBy c row :=
  ⟨k.os.trans h.os, k.tape.trans h.tape, k.output.trans h.output, Nat.le_trans h.size k.size, fun i hi hne => (k.block i (Nat.lt_of_lt_of_le hi h.size) hne).trans (h.block i hi hne)⟩
section
open Go.ChangeShapes Go.WideShapes
variable {H : Type} {enc : TypeId × Value → H} {P : Program} {w : World} {base : Nat} {spare : Nat → Bool} {held : Bool}
theorem open_notes {t e : TypeId} {f0 f1 f2 : Field} {v : Value} (ht : P.underlying t = some (.slice e)) (he : P.underlying e = some (.struct #[f0, f1, f2]))
    (ce : P.cellsOf e = 7) (o0 : f0.offset = 0) (c0 : P.cellsOf f0.type = 1) (u0 : P.underlying f0.type = some (.int .i64)) (o1 : f1.offset = 1) (c1 : P.cellsOf f1.type = 1) (u1 : P.underlying f1.type = some (.int .i64)) (o2 : f2.offset = 2) (c2 : P.cellsOf f2.type = 5) {s0 s1 s2 s3 s4 : Field} (u2 : P.underlying f2.type = some (.struct #[s0, s1, s2, s3, s4])) (so0 : s0.offset = 0) (sc0 : P.cellsOf s0.type = 1) (su0 : P.underlying s0.type = some (.int .i64)) (so1 : s1.offset = 1) (sc1 : P.cellsOf s1.type = 1) (su1 : P.underlying s1.type = some (.int .i64)) (so2 : s2.offset = 2) (sc2 : P.cellsOf s2.type = 1) (su2 : P.underlying s2.type = some (.int .i64)) (so3 : s3.offset = 3) (sc3 : P.cellsOf s3.type = 1) (su3 : P.underlying s3.type = some (.int .i64)) (so4 : s4.offset = 4) (sc4 : P.cellsOf s4.type = 1) (su4 : P.underlying s4.type = some (.int .i64))
    (h : ∃ (fuel : Nat) (x : DataW H × List MemPlace), DataW.trod enc P w base spare held fuel t [v] = some x) : ∃ (n : Nat) (g : Nat → NoteD), NoteRow w v n g ∧ (∀ i, (g i).fit) ∧ n ≤ 9223372036854775807 := by
  obtain ⟨fuel, x, h⟩ := h
  have hz : (default : NoteD).fit := by simp [NoteD.fit, IntFit, default]
  rcases Go.Deep.open_slice ht h with ⟨h0, _⟩ | ⟨a, len, cap, m, q, D, Pl, h0, hb, hl, hm, hmm, rfl, hx⟩
  · simp only [List.cons.injEq, and_true] at h0
    subst h0
    exact ⟨0, fun _ => default, .inl ⟨_, _, rfl, rfl⟩, fun _ => hz, by omega⟩
  simp only [List.cons.injEq, and_true] at h0
  subst h0
  have hlm : len ≤ m := by rw [hmm]; split <;> omega
  have each : ∀ i, i < len → ∃ q : NoteD, (∀ j u, q.cells[j]? = some u → w.cell? ((a.add (i * 7)).add j) = some u) ∧ q.fit := by
    intro i hi
    obtain ⟨cs', h1, h2⟩ := hx i (by omega)
    rw [ce] at h1
    obtain ⟨_, hlen, hcell⟩ := World.cells?_some h1
    obtain ⟨xs, kk, hk, hxy, _, hxl, hf⟩ := DataW.trod_struct he h2
    match xs, hxl, cs', hlen with
    | [y0, y1, y2], _, [v0, v1, v2, v3, v4, v5, v6], _ =>
      have g0 := hf 0 f0 rfl
      simp [o0, c0] at g0
      obtain ⟨z0, e0, _, k0⟩ := DataW.trod_int u0 g0
      simp only [List.cons.injEq, and_true] at e0
      subst e0
      have g1 := hf 1 f1 rfl
      simp [o1, c1] at g1
      obtain ⟨z1, e1, _, k1⟩ := DataW.trod_int u1 g1
      simp only [List.cons.injEq, and_true] at e1
      subst e1
      have g2 := hf 2 f2 rfl
      simp [o2, c2] at g2
      obtain ⟨ys, k2', hk', hxy', _, hyl, hf'⟩ := DataW.trod_struct u2 g2
      match ys, hyl with
      | [w0, w1, w2, w3, w4], _ =>
      have h0 := hf' 0 s0 rfl
      simp [so0, sc0] at h0
      obtain ⟨z2, e2', _, k2⟩ := DataW.trod_int su0 h0
      simp only [List.cons.injEq, and_true] at e2'
      subst e2'
      have h1 := hf' 1 s1 rfl
      simp [so1, sc1] at h1
      obtain ⟨z3, e3', _, k3⟩ := DataW.trod_int su1 h1
      simp only [List.cons.injEq, and_true] at e3'
      subst e3'
      have h2 := hf' 2 s2 rfl
      simp [so2, sc2] at h2
      obtain ⟨z4, e4', _, k4⟩ := DataW.trod_int su2 h2
      simp only [List.cons.injEq, and_true] at e4'
      subst e4'
      have h3 := hf' 3 s3 rfl
      simp [so3, sc3] at h3
      obtain ⟨z5, e5', _, k5⟩ := DataW.trod_int su3 h3
      simp only [List.cons.injEq, and_true] at e5'
      subst e5'
      have h4 := hf' 4 s4 rfl
      simp [so4, sc4] at h4
      obtain ⟨z6, e6', _, k6⟩ := DataW.trod_int su4 h4
      simp only [List.cons.injEq, and_true] at e6'
      subst e6'
      refine ⟨⟨z0, z1, ⟨z2, z3, z4, z5, z6⟩⟩, fun j u hu => ?_, ⟨intFit_of k0, intFit_of k1, intFit_of k2, intFit_of k3, intFit_of k4, intFit_of k5, intFit_of k6⟩⟩
      have hj : j < 7 := (List.getElem?_eq_some_iff.1 hu).1
      rw [hcell j hj]
      exact hu
  obtain ⟨g, hg⟩ := Go.Deep.choose_lt each
  have hfit : ∀ i, (if i < len then g i else default : NoteD).fit := fun i => by
    by_cases hi : i < len
    · simpa [hi] using (hg i hi).2
    · simpa [hi] using hz
  unfold maxLen at hm
  refine ⟨len, fun i => if i < len then g i else default, ?_, hfit, by omega⟩
  by_cases h0 : len = 0
  · subst h0; exact .inl ⟨_, _, rfl, rfl⟩
  · have hc0 := (hg 0 (by omega)).1 0 _ rfl
    obtain ⟨b, off, spot⟩ := a
    have hspot : spot = none := by simpa [Addr.add] using World.cell?_spot hc0
    subst hspot
    have hadd : ∀ j, (⟨b, off, none⟩ : Addr).add j = ⟨b, off + j, none⟩ := fun j => by unfold Addr.add; split <;> simp_all
    have hadd2 : ∀ o j, (⟨b, o, none⟩ : Addr).add j = ⟨b, o + j, none⟩ := fun o j => by unfold Addr.add; split <;> simp_all
    simp only [hadd, hadd2] at hc0
    refine .inr ⟨b, off, cap, rfl, by omega, by omega, fun i hi => ⟨World.block_lt_of_cell? w _ hc0, fun j u hu => ?_⟩, hl⟩
    have := (hg i hi).1
    simp only [hadd, hadd2] at this
    simp only [hi, if_true] at hu
    exact this j u hu
end
section
open Go.ChangeShapes Go.WideShapes
variable {H : Type} {enc : TypeId × Value → H} {P : Program} {w : World} {base : Nat} {spare : Nat → Bool} {held : Bool}
theorem open_note {r : Reach} {b0 : Nat} {e : TypeId} {f0 f1 f2 : Field} {v : Value} {d : DataW H} {pl : List MemPlace} (he : P.underlying e = some (.struct #[f0, f1, f2]))
    (ce : P.cellsOf e = 7) (o0 : f0.offset = 0) (c0 : P.cellsOf f0.type = 1) (u0 : P.underlying f0.type = some (.int .i64)) (o1 : f1.offset = 1) (c1 : P.cellsOf f1.type = 1) (u1 : P.underlying f1.type = some (.int .i64)) (o2 : f2.offset = 2) (c2 : P.cellsOf f2.type = 5) {s0 s1 s2 s3 s4 : Field} (u2 : P.underlying f2.type = some (.struct #[s0, s1, s2, s3, s4])) (so0 : s0.offset = 0) (sc0 : P.cellsOf s0.type = 1) (su0 : P.underlying s0.type = some (.int .i64)) (so1 : s1.offset = 1) (sc1 : P.cellsOf s1.type = 1) (su1 : P.underlying s1.type = some (.int .i64)) (so2 : s2.offset = 2) (sc2 : P.cellsOf s2.type = 1) (su2 : P.underlying s2.type = some (.int .i64)) (so3 : s3.offset = 3) (sc3 : P.cellsOf s3.type = 1) (su3 : P.underlying s3.type = some (.int .i64)) (so4 : s4.offset = 4) (sc4 : P.cellsOf s4.type = 1) (su4 : P.underlying s4.type = some (.int .i64))
    (hv : Value.okWide P w r b0 e v) (h : DataW.Trod enc P w base spare held e v d pl) : ∃ q : NoteD, v = q.val ∧ q.fit := by
  obtain ⟨cs, rfl, hsz⟩ := okWide_struct he hv
  obtain ⟨l⟩ := cs
  obtain ⟨fuel, h⟩ := h
  obtain ⟨xs, kk, hk, hxy, _, hxl, hf⟩ := DataW.trod_struct he h
  match xs, hxl, l, hsz.trans ce with
  | [y0, y1, y2], _, [v0, v1, v2, v3, v4, v5, v6], _ =>
      have g0 := hf 0 f0 rfl
      simp [Value.cells, o0, c0] at g0
      obtain ⟨z0, e0, _, k0⟩ := DataW.trod_int u0 g0
      simp only [List.cons.injEq, and_true] at e0
      subst e0
      have g1 := hf 1 f1 rfl
      simp [Value.cells, o1, c1] at g1
      obtain ⟨z1, e1, _, k1⟩ := DataW.trod_int u1 g1
      simp only [List.cons.injEq, and_true] at e1
      subst e1
      have g2 := hf 2 f2 rfl
      simp [Value.cells, o2, c2] at g2
      obtain ⟨ys, k2', hk', hxy', _, hyl, hf'⟩ := DataW.trod_struct u2 g2
      match ys, hyl with
      | [w0, w1, w2, w3, w4], _ =>
      have h0 := hf' 0 s0 rfl
      simp [so0, sc0] at h0
      obtain ⟨z2, e2', _, k2⟩ := DataW.trod_int su0 h0
      simp only [List.cons.injEq, and_true] at e2'
      subst e2'
      have h1 := hf' 1 s1 rfl
      simp [so1, sc1] at h1
      obtain ⟨z3, e3', _, k3⟩ := DataW.trod_int su1 h1
      simp only [List.cons.injEq, and_true] at e3'
      subst e3'
      have h2 := hf' 2 s2 rfl
      simp [so2, sc2] at h2
      obtain ⟨z4, e4', _, k4⟩ := DataW.trod_int su2 h2
      simp only [List.cons.injEq, and_true] at e4'
      subst e4'
      have h3 := hf' 3 s3 rfl
      simp [so3, sc3] at h3
      obtain ⟨z5, e5', _, k5⟩ := DataW.trod_int su3 h3
      simp only [List.cons.injEq, and_true] at e5'
      subst e5'
      have h4 := hf' 4 s4 rfl
      simp [so4, sc4] at h4
      obtain ⟨z6, e6', _, k6⟩ := DataW.trod_int su4 h4
      simp only [List.cons.injEq, and_true] at e6'
      subst e6'
      exact ⟨⟨z0, z1, ⟨z2, z3, z4, z5, z6⟩⟩, rfl, ⟨intFit_of k0, intFit_of k1, intFit_of k2, intFit_of k3, intFit_of k4, intFit_of k5, intFit_of k6⟩⟩
end
end Go.Proofs.Ytojkonhhaamodaa
set_option linter.unusedVariables false
namespace Go.Proofs.Ytojkonhhaamodaa
open Go.RowKit

/-- the seven cells of a note -/
theorem note_cells {w : World} {b o : Nat} {x : NoteD} (h : CellsAt w b o x.cells) : w.cell? ⟨b, o, none⟩ = some (.int .i64 x.serial) ∧ w.cell? ⟨b, o + 1, none⟩ = some (.int .i64 x.game) ∧ w.cell? ⟨b, o + 2, none⟩ = some (.int .i64 x.res.home) ∧
    w.cell? ⟨b, o + 3, none⟩ = some (.int .i64 x.res.away) ∧ w.cell? ⟨b, o + 4, none⟩ = some (.int .i64 x.res.hg) ∧ w.cell? ⟨b, o + 5, none⟩ = some (.int .i64 x.res.ag) ∧ w.cell? ⟨b, o + 6, none⟩ = some (.int .i64 x.res.st) :=
  ⟨h.2 0 _ rfl, h.2 1 _ rfl, h.2 2 _ rfl, h.2 3 _ rfl, h.2 4 _ rfl, h.2 5 _ rfl, h.2 6 _ rfl⟩
/-- the greatest serial number of the first k notes on a game -/
def serialN (g : Nat → NoteD) (gm : Int) : Nat → Int
  | 0 => 0
  | k + 1 => if (g k).game = gm ∧ serialN g gm k < (g k).serial then (g k).serial else serialN g gm k
end Go.Proofs.Ytojkonhhaamodaa
set_option linter.unusedVariables false
namespace Go.Proofs.Ytojkonhhaamodaa
open Go.RowKit

/-- the note fits the games of n teams -/
def noteP (n : Int) (m : Nat) (g : Nat → GameD) (x : NoteD) : Prop :=
  (1 ≤ x.serial ∧ x.serial ≤ 100000) ∧ (0 ≤ x.game ∧ x.game ≤ (m : Int) - 1) ∧ gameP n x.res ∧ x.res.st ≠ 0 ∧ x.res.home = (g x.game.toNat).home ∧ x.res.away = (g x.game.toNat).away
theorem l05Note_spec (n : Int) (v : Value) (m : Nat) (g : Nat → GameD) (serial game home away hg ag st : Int) (R : Bool) (w : World) (hR : R = true ↔ noteP n m g ⟨serial, game, ⟨home, away, hg, ag, st⟩⟩) (hv : GameRow w v m g) :
    Calls Try.prog 75 #[.int .i64 n, v, .agg #[.int .i64 serial, .int .i64 game, .int .i64 home, .int .i64 away, .int .i64 hg, .int .i64 ag, .int .i64 st]] w fun e w' => e = .returned (.bool R) ∧ Below w.heap.size w w' := by
  obtain ⟨aa, cap, rfl, hn, hc⟩ := hv.form
  have HV := Lib.hid hc
  clear hc hv
  have HN : Hid (¬ noteP n m g ⟨serial, game, ⟨home, away, hg, ag, st⟩⟩ → R = false) := fun h => by
    cases R with
    | false => rfl
    | true => exact absurd (hR.1 rfl) h
  have HY := Lib.hid hR.2
  clear hR
  by_cases h1 : 1 ≤ serial ∧ serial ≤ 100000
  rotate_left
  · obtain rfl := HN.out fun h => h1 h.1
    clear HN HY HV
    go_enter Try.func75, Try.ntmps75
    go_wp2_with (go_at_call 45; refine (l01In_no _ _ _ _ (by omega)).mono ?_; rintro e w' ⟨rfl, rfl⟩)
    go_ret
    exact ⟨rfl, (Below.refl _ _).alloc (Nat.le_refl _) _⟩
  by_cases h2 : 0 ≤ game ∧ game ≤ (m : Int) - 1
  rotate_left
  · obtain rfl := HN.out fun h => h2 h.2.1
    clear HN HY HV
    go_enter Try.func75, Try.ntmps75
    go_wp2_with (go_at_call 45; first | (refine (l01In_yes _ _ _ _ (by omega)).mono ?_; rintro e w' ⟨rfl, rfl⟩) | (refine (l01In_no _ _ _ _ (by omega)).mono ?_; rintro e w' ⟨rfl, rfl⟩))
    go_ret
    exact ⟨rfl, (Below.refl _ _).alloc (Nat.le_refl _) _⟩
  obtain ⟨j, rfl⟩ : ∃ j : Nat, game = (j : Int) := ⟨game.toNat, by omega⟩
  have hj : j < m := by omega
  obtain ⟨b, off, rfl, hcap, hc⟩ := HV.out (by omega)
  have HQ := Lib.hid (hc j hj)
  clear HV hc
  obtain ⟨r, hr⟩ : ∃ r : Bool, r = true ↔ gameP n ⟨home, away, hg, ag, st⟩ := by
    by_cases h : gameP n ⟨home, away, hg, ag, st⟩
    · exact ⟨true, fun _ => h, fun _ => rfl⟩
    · exact ⟨false, (fun e => by cases e), fun e => absurd e h⟩
  have C := Lib.hid (fun w1 => gameOk_spec n home away hg ag st r w1 hr)
  have HR2 := Lib.hid hr
  clear hr
  cases r with
  | false =>
    obtain rfl := HN.out fun h => by have := HR2.out.2 h.2.2.1; cases this
    clear HN HY HR2 HQ
    go_enter Try.func75, Try.ntmps75
    go_wp2_with (go_at_call 45; refine (l01In_yes _ _ _ _ (by omega)).mono ?_; rintro e w' ⟨rfl, rfl⟩)
    refine (C.out _).mono ?_
    rintro e w2 ⟨rfl, b2⟩
    have b3 := below_prev b2
    go_wp2
    go_ret
    exact ⟨rfl, b3⟩
  | true =>
    have HG := Lib.hid (HR2.out.1 rfl)
    clear HR2
    have CI := Lib.hid (fun w1 => isOpen_spec home away hg ag st w1)
    go_enter Try.func75, Try.ntmps75
    go_wp2_with (go_at_call 45; refine (l01In_yes _ _ _ _ (by omega)).mono ?_; rintro e w' ⟨rfl, rfl⟩)
    refine (C.out _).mono ?_
    rintro e w2 ⟨rfl, b2⟩
    have bx2 := Lib.hid (BoxN.made b2 (B := w.heap.size) rfl)
    have b3 := below_prev b2
    have d2 := bx2.out.2 2 _ rfl
    have d3 := bx2.out.2 3 _ rfl
    have d4 := bx2.out.2 4 _ rfl
    have d5 := bx2.out.2 5 _ rfl
    have d6 := bx2.out.2 6 _ rfl
    have HB3 := Lib.hid b3
    have hz2 := b3.size
    clear b2 b3 C
    go_wp2_with fail
    refine (CI.out _).mono ?_
    rintro e w3 ⟨rfl, b4⟩
    have bx3 := Lib.hid (bx2.out.below b4)
    have HB4 := Lib.hid (HB3.out.trans (b4.mono hz2))
    clear d2 d3 d4 d5 d6 bx2 HB3 b4 CI
    by_cases h4 : st = 0
    · obtain rfl := HN.out fun h => h.2.2.2.1 h4
      have g4 : (st == 0) = true := by simpa using h4
      clear HN HY HQ HG bx3
      go_wp2
      go_ret
      exact ⟨rfl, HB4.out⟩
    have g4 : (st == 0) = false := beq_eq_false_iff_ne.2 h4
    have H4 := Lib.hid h4
    have d1 := bx3.out.2 1 _ rfl
    have d2 := bx3.out.2 2 _ rfl
    have d3 := bx3.out.2 3 _ rfl
    have hbx := bx3.out.1
    have hq := HQ.out.belowB HB4.out HQ.out.1
    generalize hy : g j = y at *
    have hyj : g ((j : Int)).toNat = y := by simpa using hy
    have HYJ := Lib.hid hyj
    obtain ⟨c0, c1, c2, c3, c4⟩ := game_cells hq
    have hz3 := HB4.out.size
    have HB5 := Lib.hid (HB4.out.alloc hz3 (.cells #[.int .i64 y.home, .int .i64 y.away, .int .i64 y.hg, .int .i64 y.ag, .int .i64 y.st] 37))
    clear hq hy hyj HQ h4 bx3 HB4
    by_cases h5 : home = y.home
    · have g5 : (home == y.home) = true := by simpa using h5
      have H5 := Lib.hid h5
      by_cases h6 : away = y.away
      · have g6 : (away == y.away) = true := by simpa using h6
        obtain rfl := HY.out ⟨h1, h2, HG.out, H4.out, by rw [HYJ.out]; exact h5, by rw [HYJ.out]; exact h6⟩
        clear HN HY h5 h6 HG H4
        go_wp2
        go_ret
        exact ⟨rfl, HB5.out⟩
      · have g6 : (away == y.away) = false := beq_eq_false_iff_ne.2 h6
        obtain rfl := HN.out fun h => h6 (by have := h.2.2.2.2.2; rw [HYJ.out] at this; exact this)
        clear HN HY h5 h6 HG H4
        go_wp2
        go_ret
        exact ⟨rfl, HB5.out⟩
    · have g5 : (home == y.home) = false := beq_eq_false_iff_ne.2 h5
      obtain rfl := HN.out fun h => h5 (by have := h.2.2.2.2.1; rw [HYJ.out] at this; exact this)
      clear HN HY h5 HG H4
      go_wp2
      go_ret
      exact ⟨rfl, HB5.out⟩
end Go.Proofs.Ytojkonhhaamodaa
set_option linter.unusedVariables false
namespace Go.Proofs.Ytojkonhhaamodaa
open Go.RowKit

theorem note_ne {x y : NoteD} (h : x ≠ y) : (x.serial == y.serial) = false ∨ (x.game == y.game) = false ∨ (x.res.home == y.res.home) = false ∨ (x.res.away == y.res.away) = false ∨ (x.res.hg == y.res.hg) = false ∨ (x.res.ag == y.res.ag) = false ∨ (x.res.st == y.res.st) = false := by
  obtain ⟨a1, a2, ⟨a3, a4, a5, a6, a7⟩⟩ := x
  obtain ⟨b1, b2, ⟨b3, b4, b5, b6, b7⟩⟩ := y
  simp only [beq_eq_false_iff_ne, ne_eq, NoteD.mk.injEq, GameD.mk.injEq] at h ⊢
  omega
end Go.Proofs.Ytojkonhhaamodaa
set_option linter.unusedVariables false
namespace Go.Proofs.Ytojkonhhaamodaa
open Go.RowKit

/-- the notes fit the games of n teams, and no two have one serial number -/
def notesP (n : Int) (m : Nat) (g : Nat → GameD) (k : Nat) (ns : Nat → NoteD) : Prop :=
  seasonP n m g ∧ k ≤ 80 ∧ ∀ i, i < k → noteP n m g (ns i) ∧ ∀ j, j < i → (ns j).serial = (ns i).serial → ns j = ns i
set_option maxHeartbeats 1000000 in
theorem notesOk_spec (n : Int) (v : Value) (m : Nat) (g : Nat → GameD) (v' : Value) (k : Nat) (ns : Nat → NoteD) (R : Bool) (w : World) (hR : R = true ↔ notesP n m g k ns) (hv : GameRow w v m g) (hv' : NoteRow w v' k ns) :
    Calls Try.prog 56 #[.int .i64 n, v, v'] w fun e w' => e = .returned (.bool R) ∧ Below w.heap.size w w' := by
  obtain ⟨aa', cap', rfl, hn', hc'⟩ := hv'.form
  have HV' := Lib.hid hc'
  have HG := Lib.hid hv
  have HR := Lib.hid hR
  obtain ⟨r, hr⟩ : ∃ r : Bool, r = true ↔ seasonP n m g := by
    by_cases h : seasonP n m g
    · exact ⟨true, fun _ => h, fun _ => rfl⟩
    · exact ⟨false, (fun e => by cases e), fun e => absurd e h⟩
  have C := Lib.hid (fun w1 h1 => seasonOk_spec n v m g r w1 hr h1)
  have HRR := Lib.hid hr
  clear hr hR hv hc' hv'
  cases r with
  | false =>
    have hf : R = false := by
      cases R with
      | false => rfl
      | true => have := HRR.out.2 (HR.out.1 rfl).1; cases this
    subst hf
    clear HR HRR HV'
    go_enter Try.func56, Try.ntmps56
    go_wp2_with fail
    refine (C.out _ HG.out).mono ?_
    rintro e w2 ⟨rfl, b2⟩
    go_wp2
    go_ret
    exact ⟨rfl, b2⟩
  | true =>
  by_cases h80 : 80 < k
  · have g0 : decide (80 < (k : Int)) = true := decide_eq_true (by omega)
    have g0' : decide (80 < k) = true := decide_eq_true h80
    have hf : R = false := by
      cases R with
      | false => rfl
      | true => have := (HR.out.1 rfl).2.1; omega
    subst hf
    clear HR HRR HV'
    go_enter Try.func56, Try.ntmps56
    go_wp2_with fail
    refine (C.out _ HG.out).mono ?_
    rintro e w2 ⟨rfl, b2⟩
    go_wp2
    go_ret
    exact ⟨rfl, b2⟩
  have g0 : decide (80 < (k : Int)) = false := decide_eq_false (by omega)
  have g0' : decide (80 < k) = false := decide_eq_false h80
  have HNO : Hid (∀ i, i < k → ¬ (noteP n m g (ns i) ∧ ∀ j, j < i → (ns j).serial = (ns i).serial → ns j = ns i) → R = false) := fun i hi h => by
    cases R with
    | false => rfl
    | true => exact absurd ((HR.out.1 rfl).2.2 i hi) h
  have HYES : Hid ((∀ i, i < k → noteP n m g (ns i) ∧ ∀ j, j < i → (ns j).serial = (ns i).serial → ns j = ns i) → R = true) := fun h => HR.out.2 ⟨HRR.out.1 rfl, by omega, h⟩
  clear HR HRR
  go_enter Try.func56, Try.ntmps56
  go_wp2_with fail
  refine (C.out _ HG.out).mono ?_
  rintro e w2 ⟨rfl, b2⟩
  clear C
  go_wp2
  go_loopw [22] (fun i wr => ∃ q : Nat, q ≤ k ∧ i = .int .i64 q ∧ Hid (∀ i, i < q → noteP n m g (ns i) ∧ ∀ j, j < i → (ns j).serial = (ns i).serial → ns j = ns i) ∧ Below w.heap.size w wr) (fun i _ => k - (intOf i).toNat)
  case atStart => exact ⟨0, Nat.zero_le _, rfl, fun i hi => absurd hi (by omega), b2⟩
  case round =>
    clear b2
    obtain ⟨q, hq, rfl, hok, hb⟩ := hrel
    by_cases hlt : q < k
    · obtain ⟨b, off, rfl, hcap, hc⟩ := HV'.out (by omega)
      have hcq := (hc q hlt).belowB hb (hc q hlt).1
      have HC := Lib.hid hc
      have HS : Hid ((noteP n m g (ns q) ∧ ∀ j, j < q → (ns j).serial = (ns q).serial → ns j = ns q) → ∀ i, i < q + 1 → noteP n m g (ns i) ∧ ∀ j, j < i → (ns j).serial = (ns i).serial → ns j = ns i) := fun h i hi => by
        by_cases hik : i = q
        · subst hik; exact h
        · exact hok.out i (by omega)
      have HN := Lib.hid (HNO.out q hlt)
      generalize ns q = x at *
      obtain ⟨c0, c1, c2, c3, c4, c5, c6⟩ := note_cells hcq
      have hsz := hb.size
      obtain ⟨r, hr⟩ : ∃ r : Bool, r = true ↔ noteP n m g x := by
        by_cases h : noteP n m g x
        · exact ⟨true, fun _ => h, fun _ => rfl⟩
        · exact ⟨false, (fun e => by cases e), fun e => absurd e h⟩
      have CN := Lib.hid (fun w1 h1 => l05Note_spec n v m g x.serial x.game x.res.home x.res.away x.res.hg x.res.ag x.res.st r w1 hr h1)
      have HR2 := Lib.hid hr
      have hg0 : Below wr.heap.size wr (wr.alloc (.cells #[.int .i64 x.serial, .int .i64 x.game, .int .i64 x.res.home, .int .i64 x.res.away, .int .i64 x.res.hg, .int .i64 x.res.ag, .int .i64 x.res.st] 39)) := (Below.refl _ _).alloc (Nat.le_refl _) _
      have HG2 := Lib.hid (HG.out.below (hb.trans (hg0.mono hsz)) (Nat.le_refl _))
      have HB := Lib.hid hb
      clear hc HV' hcq hok HNO HYES hr hg0 hb
      go_wp2_with fail
      refine (CN.out _ HG2.out).mono ?_
      rintro e w3 ⟨rfl, b3⟩
      have bx := Lib.hid (BoxN.made b3 (B := wr.heap.size) rfl)
      have b4 := Lib.hid (HB.out.trans ((below_prev b3).mono hsz))
      clear b3 HG2 CN c0 c1 c2 c3 c4 c5 c6 HB
      cases r with
      | false =>
        obtain rfl := HN.out fun h => by have := HR2.out.2 h.1; cases this
        clear HN HS HR2 bx
        go_wp2
        go_ret
        exact ⟨rfl, b4.out⟩
      | true =>
        have HP := Lib.hid (HR2.out.1 rfl)
        clear HR2
        generalize hD : wr.heap.size = D at *
        clear hD
        have hqcap : q ≤ cap' := by omega
        go_wp2
        go_loopw [36] (fun i wr => ∃ j : Nat, j ≤ q ∧ i = .int .i64 j ∧ Hid (∀ i, i < j → (ns i).serial = x.serial → ns i = x) ∧ Hid (BoxN wr D [.int .i64 x.serial, .int .i64 x.game, .int .i64 x.res.home, .int .i64 x.res.away, .int .i64 x.res.hg, .int .i64 x.res.ag, .int .i64 x.res.st]) ∧ Hid (Below w.heap.size w wr)) (fun i _ => q - (intOf i).toNat)
        case atStart => exact ⟨0, Nat.zero_le _, rfl, fun i hi => absurd hi (by omega), bx, b4⟩
        case round =>
          clear bx b4
          obtain ⟨j, hj, rfl, hok, bx, hb⟩ := hrel
          by_cases hjq : j < q
          · have hcj := (HC.out j (by omega)).belowB hb.out (HC.out j (by omega)).1
            have HS2 : Hid (((ns j).serial = x.serial → ns j = x) → ∀ i, i < j + 1 → (ns i).serial = x.serial → ns i = x) := fun h i hi => by
              by_cases hik : i = j
              · subst hik; exact h
              · exact hok.out i (by omega)
            have HN2 : Hid ((ns j).serial = x.serial → ns j ≠ x → R = false) := fun h1 h2 => HN.out fun h => h2 (h.2 j hjq h1)
            generalize ns j = y at *
            obtain ⟨c0, c1, c2, c3, c4, c5, c6⟩ := note_cells hcj
            have hg0 : Below wr.heap.size wr (wr.alloc (.cells #[.int .i64 y.serial, .int .i64 y.game, .int .i64 y.res.home, .int .i64 y.res.away, .int .i64 y.res.hg, .int .i64 y.res.ag, .int .i64 y.res.st] 39)) := (Below.refl _ _).alloc (Nat.le_refl _) _
            have hb2 := Lib.hid (hb.out.trans (hg0.mono hb.out.size))
            have bx2 := Lib.hid (bx.out.below hg0)
            have hDlt := bx.out.1
            have d0 := bx.out.2 0 _ rfl
            have d1 := bx.out.2 1 _ rfl
            have d2 := bx.out.2 2 _ rfl
            have d3 := bx.out.2 3 _ rfl
            have d4 := bx.out.2 4 _ rfl
            have d5 := bx.out.2 5 _ rfl
            have d6 := bx.out.2 6 _ rfl
            clear hcj hg0 hok hb bx HN HS HP HC
            by_cases hser : y.serial = x.serial
            · by_cases hyx : y = x
              · have HX := Lib.hid (HS2.out fun _ => hyx)
                subst hyx
                clear HS2 HN2 hser
                go_wp2
                go_roundw
                case rel => exact ⟨j + 1, by omega, by go_num, HX.out, bx2, hb2⟩
                case measure => simp [intOf]; omega
              · obtain rfl := HN2.out hser hyx
                have gs : (y.serial == x.serial) = true := by simpa using hser
                have hne := note_ne hyx
                have HSER := Lib.hid hser
                clear HS2 HN2 hyx hser
                rcases hne with f | f | f | f | f | f | f
                · rw [gs] at f; cases f
                all_goals
                  go_wp2
                  go_ret
                  exact ⟨rfl, hb2.out⟩
            · have HX := Lib.hid (HS2.out fun h => absurd h hser)
              have gs : (y.serial == x.serial) = false := beq_eq_false_iff_ne.2 hser
              clear HS2 HN2 hser
              go_wp2
              go_roundw
              case rel => exact ⟨j + 1, by omega, by go_num, HX.out, bx2, hb2⟩
              case measure => simp [intOf]; omega
          · obtain rfl : j = q := by omega
            have HX := Lib.hid (HS.out ⟨HP.out, hok.out⟩)
            have hb3 := hb.out
            clear HS HP HN hok bx hb
            go_wp2
            go_roundw
            case rel => exact ⟨j + 1, by omega, by go_num, HX.out, hb3⟩
            case measure => simp [intOf]; omega
    · obtain rfl : q = k := by omega
      obtain rfl := HYES.out hok.out
      clear HNO HYES hok
      go_wp2
      go_ret
      exact ⟨rfl, hb⟩
end Go.Proofs.Ytojkonhhaamodaa
set_option linter.unusedVariables false
namespace Go.Proofs.Ytojkonhhaamodaa
open Go.RowKit

/-- the call returns the notes L in memory of its own -/
def NotesL (w : World) (L : List NoteD) (e : Ending) (w' : World) : Prop :=
  ∃ v, e = .returned v ∧ w'.ownsRow w.heap.size 39 7 v L.length (L.flatMap NoteD.cells) ∧ Below w.heap.size w w'
/-- note number i of a list -/
def getN' (L : List NoteD) (i : Nat) : NoteD := L.getD i default
theorem flat_len (L : List NoteD) : (L.flatMap NoteD.cells).length = L.length * 7 := by
  induction L with
  | nil => rfl
  | cons x L ih => simp only [List.flatMap_cons, List.length_append, ih, List.length_cons, NoteD.len]; omega
theorem notes_cells (L : List NoteD) : RecCells 7 L.length (L.flatMap NoteD.cells) fun i => (getN' L i).cells := by
  induction L with
  | nil => exact RecCells.nil
  | cons x L ih =>
    intro i hi j u hu
    rw [List.flatMap_cons]
    have hj : j < 7 := by have := (List.getElem?_eq_some_iff.1 hu).1; simpa [NoteD.len] using this
    cases i with
    | zero =>
      rw [List.getElem?_append_left (by rw [NoteD.len]; omega)]
      simpa [getN'] using hu
    | succ i =>
      rw [List.getElem?_append_right (by rw [NoteD.len]; omega), NoteD.len, show (i + 1) * 7 + j - 7 = i * 7 + j by omega]
      simp only [List.length_cons] at hi
      exact ih i (by omega) j u (by simpa [getN'] using hu)
theorem NotesL.made {w w' : World} {L : List NoteD} {e : Ending} (h : NotesL w L e w') (hl : L.length ≤ 9223372036854775807) :
    ∃ v, e = .returned v ∧ NoteRow w' v L.length (getN' L) ∧ (∃ xs, w'.ownsRow w.heap.size 39 7 v L.length xs) ∧ Below w.heap.size w w' := by
  obtain ⟨v, h1, h2, h3⟩ := h
  exact ⟨v, h1, NoteRow.of_owns h2 hl (notes_cells L), ⟨_, h2⟩, h3⟩
/-- the notes, of the first k, with a serial number up to s -/
def upL (g : Nat → NoteD) (s : Int) : Nat → List NoteD
  | 0 => []
  | k + 1 => if (g k).serial ≤ s then upL g s k ++ [g k] else upL g s k
set_option maxHeartbeats 1000000 in
theorem upTo_spec (v : Value) (n : Nat) (g : Nat → NoteD) (s : Int) (w : World) (hv : NoteRow w v n g) (hn6 : n ≤ 1048576) :
    Calls Try.prog 59 #[v, .int .i64 s] w (NotesL w (upL g s n)) := by
  obtain ⟨i0, hi, hz0, hz1, hz2⟩ := info_parts Try.infoNote
  obtain ⟨aa, cap, rfl, hn, hc⟩ := hv.form
  have HV := Lib.hid hc
  clear hc hv
  have o0 : (w.alloc (.cells #[] 39)).ownsRow w.heap.size 39 7 (.slice (some ⟨w.heap.size, 0, none⟩) 0 0) 0 [] := World.ownsRow_lit w #[] 0 (Nat.le_refl _) (by decide) rfl
  go_enter Try.func59, Try.ntmps59
  go_wp2
  go_loopw [5, 11] (fun out i wr => ∃ (k : Nat) (L : List NoteD), k ≤ n ∧ i = .int .i64 k ∧ Hid (L = upL g s k) ∧ L.length ≤ k ∧ Hid (wr.ownsRow w.heap.size 39 7 out L.length (L.flatMap NoteD.cells)) ∧ Hid (Below w.heap.size w wr)) (fun _ i _ => n - (intOf i).toNat)
  case atStart => exact ⟨0, [], Nat.zero_le _, rfl, rfl, Nat.zero_le _, o0, (Below.refl _ _).alloc (Nat.le_refl _) _⟩
  case round =>
    clear o0
    obtain ⟨k, L, hk, rfl, hL, hLk, hown, hb⟩ := hrel
    by_cases hlt : k < n
    · obtain ⟨b, off, rfl, hcap, hc⟩ := HV.out (by omega)
      have hq := (hc k hlt).belowB hb.out (hc k hlt).1
      have HY := Lib.hid (fun (h : (g k).serial ≤ s) => show L ++ [g k] = upL g s (k + 1) by rw [upL, if_pos h, hL.out])
      have HNo := Lib.hid (fun (h : ¬ (g k).serial ≤ s) => show L = upL g s (k + 1) by rw [upL, if_neg h, hL.out])
      generalize g k = x at *
      obtain ⟨c0, c1, c2, c3, c4, c5, c6⟩ := note_cells hq
      have hsz := hb.out.size
      have hg0 : Below wr.heap.size wr (wr.alloc (.cells #[.int .i64 x.serial, .int .i64 x.game, .int .i64 x.res.home, .int .i64 x.res.away, .int .i64 x.res.hg, .int .i64 x.res.ag, .int .i64 x.res.st] 39)) := (Below.refl _ _).alloc (Nat.le_refl _) _
      have bx := Lib.hid (BoxN.made (u := wr) (cs := #[.int .i64 x.serial, .int .i64 x.game, .int .i64 x.res.home, .int .i64 x.res.away, .int .i64 x.res.hg, .int .i64 x.res.ag, .int .i64 x.res.st]) (t := 39) (Below.refl _ _) rfl)
      have hown2 := Lib.hid (hown.out.alloc (.cells #[.int .i64 x.serial, .int .i64 x.game, .int .i64 x.res.home, .int .i64 x.res.away, .int .i64 x.res.hg, .int .i64 x.res.ag, .int .i64 x.res.st] 39))
      have hb2 := Lib.hid (hb.out.trans (hg0.mono hsz))
      have hsz2 := hb2.out.size
      clear hc HV hq hL hg0 hown hb
      by_cases h0 : x.serial ≤ s
      · have HYY := Lib.hid (HY.out h0)
        have g1 : decide (x.serial ≤ s) = true := decide_eq_true h0
        clear HY HNo h0
        go_wp2_with (at_builtin; refine wpList_pushL rfl (.tmp 19) (.tmp 21) 30 rfl w.heap.size 39 Try.underlying30 hi hz0 hz1 hz2 rfl (by decide) x.cells rfl (by intro u hu; simp [NoteD.cells] at hu; rcases hu with rfl | rfl | rfl | rfl | rfl | rfl | rfl <;> rfl) rfl (by show Value.slice (some ⟨_, 0, none⟩) 1 1 = _; simp) hown2.out (by unfold maxLen; omega) (by omega) hsz2 ?_; intro gg cc5 w5 o5 g5 at5 lt5)
        go_roundw
        case rel => exact ⟨k + 1, L ++ [x], by omega, by go_num, HYY.out, by simp; omega, Lib.hid (by simpa using o5), Lib.hid (hb2.out.grown g5 hsz2 (fun q hq => (hown2.out.lt q hq).1))⟩
        case measure => simp [intOf]; omega
      · have HNN := Lib.hid (HNo.out h0)
        have g1 : decide (x.serial ≤ s) = false := decide_eq_false h0
        clear HY HNo h0
        go_wp2
        go_roundw
        case rel => exact ⟨k + 1, L, by omega, by go_num, HNN.out, by omega, hown2.out, hb2.out⟩
        case measure => simp [intOf]; omega
    · obtain rfl : k = n := by omega
      go_wp2
      go_ret
      exact ⟨_, rfl, by have := hown.out; rw [← hL.out]; exact this, hb.out⟩
/-- the serial numbers, of the first k notes, that stand on a game -/
def seenL (g : Nat → NoteD) (gm : Int) : Nat → List Int
  | 0 => []
  | k + 1 => if (g k).game = gm ∧ ¬ (g k).serial ∈ seenL g gm k then seenL g gm k ++ [(g k).serial] else seenL g gm k
/-- how often the result of a game was corrected -/
def corrN (g : Nat → NoteD) (gm : Int) (n : Nat) : Int := if 0 < ((seenL g gm n).length : Int) - 1 then ((seenL g gm n).length : Int) - 1 else 0
end Go.Proofs.Ytojkonhhaamodaa
set_option linter.unusedVariables false
namespace Go.Proofs.Ytojkonhhaamodaa
open Go.RowKit

/-- how many notes at the front have a serial number below s -/
def leadN (s : Int) : List NoteD → Nat
  | [] => 0
  | y :: L => if y.serial < s then leadN s L + 1 else 0
/-- x put into a list in the order of serial numbers, unless its number is there -/
def insN (L : List NoteD) (x : NoteD) : List NoteD :=
  if leadN x.serial L < L.length ∧ (getN' L (leadN x.serial L)).serial = x.serial then L else L.take (leadN x.serial L) ++ x :: L.drop (leadN x.serial L)
/-- the first k notes in canonical form -/
def canonL (g : Nat → NoteD) : Nat → List NoteD
  | 0 => []
  | k + 1 => insN (canonL g k) (g k)
theorem lead_le (s : Int) (L : List NoteD) : leadN s L ≤ L.length := by
  induction L with
  | nil => exact Nat.le_refl _
  | cons y L ih => unfold leadN; split <;> simp <;> omega
theorem lead_lt (s : Int) (L : List NoteD) : ∀ i, i < leadN s L → (getN' L i).serial < s := by
  induction L with
  | nil => intro i hi; exact absurd hi (by simp [leadN])
  | cons y L ih =>
    intro i hi
    unfold leadN at hi
    split at hi
    · next h =>
      cases i with
      | zero => exact h
      | succ i => exact ih i (by omega)
    · omega
theorem lead_ge (s : Int) (L : List NoteD) : leadN s L < L.length → ¬ (getN' L (leadN s L)).serial < s := by
  induction L with
  | nil => intro h; exact absurd h (by simp)
  | cons y L ih =>
    intro h
    unfold leadN at h ⊢
    split at h
    · next hy => rw [if_pos hy]; exact ih (by simpa using h)
    · next hy => rw [if_neg hy]; exact hy
theorem ins_len (L : List NoteD) (x : NoteD) : (insN L x).length ≤ L.length + 1 := by
  unfold insN
  split
  · omega
  · have := lead_le x.serial L; simp; omega
/-- the list L with a gap at j -/
def gapL (L : List NoteD) (j : Nat) (u : NoteD) : List NoteD := L.take j ++ u :: L.drop j
theorem gap_len (L : List NoteD) (j : Nat) (u : NoteD) (h : j ≤ L.length) : (gapL L j u).length = L.length + 1 := by
  unfold gapL; simp; omega
theorem gap_get (L : List NoteD) (j : Nat) (u : NoteD) (i : Nat) (h : i < j) (hj : j ≤ L.length) : getN' (gapL L j u) i = getN' L i := by
  unfold gapL getN'
  simp only [List.getD_eq_getElem?_getD]
  rw [List.getElem?_append_left (by simp; omega), List.getElem?_take_of_lt h]
theorem gap_set (L : List NoteD) (j : Nat) (u x : NoteD) (hj : j ≤ L.length) : (gapL L j u).set j x = gapL L j x := by
  unfold gapL
  rw [List.set_append_right _ _ (by simp; omega)]
  simp [Nat.min_eq_left hj]
theorem gap_step (L : List NoteD) (j : Nat) (hj : j < L.length) : gapL L (j + 1) (getN' L j) = gapL L j (getN' L j) := by
  unfold gapL
  have h1 : getN' L j = L[j] := by simp [getN', List.getD_eq_getElem?_getD, List.getElem?_eq_getElem hj]
  have h2 : L.take (j + 1) = L.take j ++ [L[j]] := (List.take_append_getElem hj).symm
  rw [h1, h2, List.drop_eq_getElem_cons hj]
  simp only [List.append_assoc, List.cons_append, List.nil_append]
theorem gap_end (L : List NoteD) (u : NoteD) : gapL L L.length u = L ++ [u] := by
  unfold gapL; simp
theorem flat_set (x : NoteD) : ∀ (M : List NoteD) (j : Nat), j < M.length → setsFrom (M.flatMap NoteD.cells) (j * 7) x.cells = (M.set j x).flatMap NoteD.cells := by
  intro M j hj
  apply List.ext_getElem?
  intro t
  have hlen := flat_len M
  have hlen2 := flat_len (M.set j x)
  rw [List.length_set] at hlen2
  by_cases ht : t < M.length * 7
  · have h1 := notes_cells M (t / 7) (by omega) (t % 7)
    have h2 := notes_cells (M.set j x) (t / 7) (by rw [List.length_set]; omega) (t % 7)
    have ht7 : t / 7 * 7 + t % 7 = t := by omega
    rw [ht7] at h1 h2
    by_cases hjt : t / 7 = j
    · have hx : (getN' (M.set j x) (t / 7)) = x := by simp [getN', List.getD_eq_getElem?_getD, hjt, hj]
      have hm : t % 7 < x.cells.length := by rw [NoteD.len]; omega
      obtain ⟨u, hu⟩ : ∃ u, x.cells[t % 7]? = some u := ⟨_, List.getElem?_eq_getElem hm⟩
      rw [h2 u (by simp only [hx]; exact hu), show t = j * 7 + t % 7 by omega]
      exact setsFrom_in x.cells _ _ _ u (by rw [NoteD.len]; omega) hu
    · have hx : (getN' (M.set j x) (t / 7)) = getN' M (t / 7) := by
        simp only [getN', List.getD_eq_getElem?_getD]
        rw [List.getElem?_set_ne (by omega)]
      have hm : t % 7 < (getN' M (t / 7)).cells.length := by rw [NoteD.len]; omega
      obtain ⟨u, hu⟩ : ∃ u, (getN' M (t / 7)).cells[t % 7]? = some u := ⟨_, List.getElem?_eq_getElem hm⟩
      rw [h2 u (by simp only [hx]; exact hu), setsFrom_out _ _ _ _ (by rw [NoteD.len]; omega)]
      exact h1 u hu
  · rw [List.getElem?_eq_none (by rw [setsFrom_len]; omega), List.getElem?_eq_none (by omega)]
theorem canon_len (g : Nat → NoteD) : ∀ n, (canonL g n).length ≤ n := by
  intro n
  induction n with
  | zero => simp [canonL]
  | succ n ih => have := ins_len (canonL g n) (g n); show (insN _ _).length ≤ _; omega
theorem up_len (g : Nat → NoteD) (s : Int) : ∀ n, (upL g s n).length ≤ n := by
  intro n
  induction n with
  | zero => simp [upL]
  | succ n ih =>
    unfold upL
    split
    · simp only [List.length_append, List.length_cons, List.length_nil]; omega
    · omega
end Go.Proofs.Ytojkonhhaamodaa
set_option linter.unusedVariables false
namespace Go.Proofs.Ytojkonhhaamodaa
open Go.RowKit

theorem box_set {w : World} {D gg s : Nat} {cs : List Value} {u : Value} (h : BoxN w D cs) (hne : gg ≠ D) : BoxN (w.setCell ⟨gg, s, none⟩ u) D cs := by
  by_cases hlt : gg < D
  · exact h.touch (Touch.setCell (lo := 0) (hi := D) (Touch.refl _ _ _) ⟨gg, s, none⟩ u (Nat.zero_le _) hlt) (Or.inr (Nat.le_refl _))
  · exact h.touch (Touch.setCell (lo := D + 1) (hi := gg + 1) (Touch.refl _ _ _) ⟨gg, s, none⟩ u (show D + 1 ≤ gg by omega) (Nat.lt_succ_self _)) (Or.inl (Nat.lt_succ_self _))
set_option maxRecDepth 100000 in
set_option maxHeartbeats 2000000 in
theorem canonNotes_spec (v : Value) (n : Nat) (g : Nat → NoteD) (w : World) (hv : NoteRow w v n g) (hn6 : n ≤ 1048576) :
    Calls Try.prog 76 #[v] w (NotesL w (canonL g n)) := by
  obtain ⟨i0, hi, hz0, hz1, hz2⟩ := info_parts Try.infoNote
  obtain ⟨aa, cap, rfl, hn, hc⟩ := hv.form
  have HV := Lib.hid hc
  clear hc hv
  have o0 : (w.alloc (.cells #[] 39)).ownsRow w.heap.size 39 7 (.slice (some ⟨w.heap.size, 0, none⟩) 0 0) 0 [] := World.ownsRow_lit w #[] 0 (Nat.le_refl _) (by decide) rfl
  go_enter Try.func76, Try.ntmps76
  go_wp2
  go_loopw [3, 11] (fun out i wr => ∃ (k : Nat) (L : List NoteD), k ≤ n ∧ i = .int .i64 k ∧ Hid (L = canonL g k) ∧ L.length ≤ k ∧ Hid (wr.ownsRow w.heap.size 39 7 out L.length (L.flatMap NoteD.cells)) ∧ Hid (Below w.heap.size w wr)) (fun _ i _ => n - (intOf i).toNat)
  case atStart => exact ⟨0, [], Nat.zero_le _, rfl, rfl, Nat.zero_le _, o0, (Below.refl _ _).alloc (Nat.le_refl _) _⟩
  case round =>
    clear o0
    obtain ⟨k, L, hk, rfl, hL, hLk, hown, hb⟩ := hrel
    obtain ⟨oa, oc, hout⟩ := owns_form hown.out
    subst hout
    by_cases hlt : k < n
    · obtain ⟨b, off, rfl, hcap, hc⟩ := HV.out (by omega)
      have hq := (hc k hlt).belowB hb.out (hc k hlt).1
      have HK : Hid (canonL g (k + 1) = insN L (g k)) := by show insN (canonL g k) (g k) = _; rw [← hL.out]
      generalize g k = x at *
      obtain ⟨c0, c1, c2, c3, c4, c5, c6⟩ := note_cells hq
      have hsz := hb.out.size
      have hg0 : Below wr.heap.size wr (wr.alloc (.cells #[.int .i64 x.serial, .int .i64 x.game, .int .i64 x.res.home, .int .i64 x.res.away, .int .i64 x.res.hg, .int .i64 x.res.ag, .int .i64 x.res.st] 39)) := (Below.refl _ _).alloc (Nat.le_refl _) _
      have bx := Lib.hid (BoxN.made (u := wr) (cs := #[.int .i64 x.serial, .int .i64 x.game, .int .i64 x.res.home, .int .i64 x.res.away, .int .i64 x.res.hg, .int .i64 x.res.ag, .int .i64 x.res.st]) (t := 39) (Below.refl _ _) rfl)
      have hown2 := Lib.hid (owns_below hown.out hg0 (Nat.le_refl _))
      have hb2 := Lib.hid (hb.out.trans (hg0.mono hsz))
      have HOD : Hid (∀ q, (Value.slice oa L.length oc).ownBlock = some q → q < wr.heap.size) := fun q hq => (hown.out.lt q hq).2
      obtain ⟨ld, hld⟩ : ∃ ld, ld = leadN x.serial L := ⟨_, rfl⟩
      have hle := lead_le x.serial L
      have HLT := Lib.hid (lead_lt x.serial L)
      have HGE := Lib.hid (lead_ge x.serial L)
      have HLD := Lib.hid hld
      rw [← hld] at hle
      clear hc HV hq hL hg0 hown hb hld
      go_wp2
      generalize hD : wr.heap.size = D at *
      clear hD c0 c1 c2 c3 c4 c5 c6
      generalize wr.alloc (.cells #[.int .i64 x.serial, .int .i64 x.game, .int .i64 x.res.home, .int .i64 x.res.away, .int .i64 x.res.hg, .int .i64 x.res.ag, .int .i64 x.res.st] 39) = wr2 at *
      obtain ⟨wo, rfl⟩ : ∃ wo : World, wo = wr2 := ⟨_, rfl⟩
      go_loopw [6] (fun at_ wr => ∃ j : Nat, j ≤ ld ∧ at_ = .int .i64 j ∧ Hid (BoxN wr D [.int .i64 x.serial, .int .i64 x.game, .int .i64 x.res.home, .int .i64 x.res.away, .int .i64 x.res.hg, .int .i64 x.res.ag, .int .i64 x.res.st]) ∧ Hid (wr.ownsRow w.heap.size 39 7 (.slice oa L.length oc) L.length (L.flatMap NoteD.cells)) ∧ Hid (Below w.heap.size w wr)) (fun at_ _ => ld - (intOf at_).toNat)
      case atStart => exact ⟨0, Nat.zero_le _, rfl, bx, hown2, hb2⟩
      case round =>
        clear bx hown2 hb2
        obtain ⟨j, hj, rfl, bx, hown, hb⟩ := hrel
        have hLl : L.length ≤ 9223372036854775807 := by omega
        have hrow := NoteRow.of_owns hown.out hLl (notes_cells L)
        obtain ⟨aa', cap', he, _, hcr⟩ := hrow.form
        have hx0 := bx.out.2 0 _ rfl
        have hsz2 := hb.out.size
        by_cases hjl : j < ld
        · have hjL : j < L.length := by omega
          obtain ⟨ob, ooff, rfl, hcap', hcc⟩ := hcr (by omega)
          simp only [Value.slice.injEq, true_and] at he
          obtain ⟨rfl, rfl⟩ := he
          obtain ⟨r0, _, _, _, _, _, _⟩ := note_cells (hcc j hjL)
          have h1 := HLT.out j (by rw [← HLD.out]; exact hjl)
          generalize getN' L j = y at *
          have g1 : decide ((j : Int) < (L.length : Int)) = true := decide_eq_true (by omega)
          have g2 : decide (j < L.length) = true := decide_eq_true hjL
          have g3 : decide (y.serial < x.serial) = true := decide_eq_true h1
          clear hcr hcc hrow h1 HLT HGE HK HLD
          go_wp2
          go_quiet (fail)
          go_wp2
          go_roundw
          case rel => exact ⟨j + 1, by omega, by go_num, bx.out.below (below_drewN (Below.refl _ _) _), owns_below hown.out (below_drewN (Below.refl _ _) _) (Nat.le_refl _), below_drewN hb.out _⟩
          case measure => simp [intOf]; omega
        · have hjd : j = ld := by omega
          subst hjd
          by_cases hdup : j < L.length ∧ (getN' L j).serial = x.serial
          · have hins : canonL g (k + 1) = L := by rw [HK.out]; unfold insN; rw [← HLD.out, if_pos hdup]
            have HINS := Lib.hid hins
            obtain ⟨hjL, h1⟩ := hdup
            obtain ⟨ob, ooff, rfl, hcap', hcc⟩ := hcr (by omega)
            simp only [Value.slice.injEq, true_and] at he
            obtain ⟨rfl, rfl⟩ := he
            obtain ⟨r0, _, _, _, _, _, _⟩ := note_cells (hcc j hjL)
            generalize getN' L j = y at *
            have g1 : decide ((j : Int) < (L.length : Int)) = true := decide_eq_true (by omega)
            have g2 : decide (j < L.length) = true := decide_eq_true hjL
            have g3 : decide (y.serial < x.serial) = false := decide_eq_false (by omega)
            have g4 : (y.serial == x.serial) = true := by simpa using h1
            clear hins hcr hcc hrow h1 HLT HGE HK HLD
            go_wp2
            go_quiet (fail)
            go_wp2
            go_quiet (fail)
            go_wp2
            go_roundw
            case rel => exact ⟨k + 1, L, by omega, by go_num, HINS.out.symm, by omega, Lib.hid (owns_below hown.out (below_drewN (Below.refl _ _) _) (Nat.le_refl _)), Lib.hid (below_drewN hb.out _)⟩
            case measure => simp [intOf]; omega
          have hins : canonL g (k + 1) = gapL L j x := by rw [HK.out]; unfold insN; rw [← HLD.out, if_neg hdup]; rfl
          have HINS := Lib.hid hins
          clear hins
          by_cases hjL : j < L.length
          · obtain ⟨ob, ooff, rfl, hcap', hcc⟩ := hcr (by omega)
            simp only [Value.slice.injEq, true_and] at he
            obtain ⟨rfl, rfl⟩ := he
            obtain ⟨r0, _, _, _, _, _, _⟩ := note_cells (hcc j hjL)
            have h3 : ¬ (getN' L j).serial < x.serial := by have := HGE.out (by rw [← HLD.out]; exact hjL); rw [← HLD.out] at this; omega
            have h4 : (getN' L j).serial ≠ x.serial := fun h => hdup ⟨hjL, h⟩
            generalize getN' L j = y at *
            have g1 : decide ((j : Int) < (L.length : Int)) = true := decide_eq_true (by omega)
            have g2 : decide (j < L.length) = true := decide_eq_true hjL
            have g3 : decide (y.serial < x.serial) = false := decide_eq_false h3
            have g4 : (y.serial == x.serial) = false := beq_eq_false_iff_ne.2 h4
            clear hcc h3 h4
            clear hdup HLT HGE HK HLD
            go_wp2
            go_quiet (fail)
            go_wp2
            go_quiet (fail)
            go_wp2_with (at_builtin; refine wpList_pushL rfl (.tmp 45) (.tmp 47) 30 rfl w.heap.size 39 Try.underlying30 hi hz0 hz1 hz2 rfl (by decide) (NoteD.cells (⟨0, 0, ⟨0, 0, 0, 0, 0⟩⟩ : NoteD)) rfl (by intro u hu; simp [NoteD.cells] at hu; subst hu; rfl) rfl (by first | rfl | (show Value.slice (some ⟨_, 0, none⟩) 1 1 = _; simp)) (owns_below hown.out (below_drewN (Below.refl _ _) _) (Nat.le_refl _)) (by unfold maxLen; omega) (by omega) hsz2 ?_; intro gg cc5 w5 o5 g5 at5 lt5; have hb5 := Lib.hid ((below_drewN hb.out _).grown g5 hsz2 (fun q hq => (hown.out.lt q hq).1)); have bx5 := Lib.hid ((bx.out.below (below_drewN (Below.refl _ _) _)).touch (Touch.grown (lo := 0) (hi := D) g5 (fun q hq => ⟨Nat.zero_le _, HOD.out q hq⟩)) (Or.inr (Nat.le_refl _))); have hgD : gg ≠ D := (by rcases at5 with h | h; (have := HOD.out gg h; omega); (have := bx.out.1; have h' : wr.heap.size ≤ gg := h; omega)); have H5 := Lib.hid o5; clear g5 at5 o5 bx hown hb hrow hx0 hsz2 hcr)
            go_loopw [7] (fun kk wr => ∃ (i : Nat) (u : NoteD), j ≤ i ∧ i ≤ L.length ∧ kk = .int .i64 i ∧ Hid (BoxN wr D [.int .i64 x.serial, .int .i64 x.game, .int .i64 x.res.home, .int .i64 x.res.away, .int .i64 x.res.hg, .int .i64 x.res.ag, .int .i64 x.res.st]) ∧ Hid (wr.ownsRow w.heap.size 39 7 (.slice (some ⟨gg, 0, none⟩) (L.length + 1) cc5) (L.length + 1) ((gapL L i u).flatMap NoteD.cells)) ∧ Hid (Below w.heap.size w wr)) (fun kk _ => (intOf kk).toNat)
            case atStart => exact ⟨L.length, (⟨0, 0, ⟨0, 0, 0, 0, 0⟩⟩ : NoteD), by omega, Nat.le_refl _, by go_num, bx5, Lib.hid (by rw [gap_end, List.flatMap_append]; simpa using H5.out), hb5⟩
            case round =>
              clear bx5 H5 hb5
              obtain ⟨i, u, hji, hiL, rfl, bx, hown, hb⟩ := hrel
              have hML := gap_len L i u hiL
              have HC := Lib.hid (notes_cells (gapL L i u))
              rw [hML] at HC
              have hrow := NoteRow.of_owns hown.out (by omega) HC.out
              obtain ⟨aa2, cap2, he2, _, hcr⟩ := hrow.form
              obtain ⟨ob2, off2, rfl, hcap2, hcc⟩ := hcr (by omega)
              simp only [Value.slice.injEq, Option.some.injEq, Addr.mk.injEq, and_true, true_and] at he2
              obtain ⟨⟨rfl, rfl⟩, rfl⟩ := he2
              have hsz3 := hb.out.size
              have hown' := hown.out
              have hgw : w.heap.size ≤ gg := (hown.out.lt gg rfl).1
              by_cases hij : j < i
              · obtain ⟨i', rfl⟩ : ∃ i', i = i' + 1 := ⟨i - 1, by omega⟩
                have hcy := hcc i' (by omega)
                simp only [gap_get L (i' + 1) u i' (by omega) hiL, Nat.zero_add] at hcy
                have HFIN : Hid (setsFrom ((gapL L (i' + 1) u).flatMap NoteD.cells) ((i' + 1) * 7) (getN' L i').cells = (gapL L i' (getN' L i')).flatMap NoteD.cells) := by
                  show _ = _
                  rw [flat_set _ _ _ (by omega), gap_set _ _ _ _ hiL, gap_step L i' (by omega)]
                generalize getN' L i' = y at *
                obtain ⟨r0, r1, r2, r3, r4, r5, r6⟩ := note_cells hcy
                obtain ⟨u0, e0⟩ := owns_cellR hown' ((i' + 1) * 7) (by omega)
                have f0 := hown'.frozenAt ((i' + 1) * 7)
                obtain ⟨u1, e1⟩ := owns_cellR hown' ((i' + 1) * 7 + 1) (by omega)
                have f1 := hown'.frozenAt ((i' + 1) * 7 + 1)
                obtain ⟨u2, e2⟩ := owns_cellR hown' ((i' + 1) * 7 + 2) (by omega)
                have f2 := hown'.frozenAt ((i' + 1) * 7 + 2)
                obtain ⟨u3, e3⟩ := owns_cellR hown' ((i' + 1) * 7 + 3) (by omega)
                have f3 := hown'.frozenAt ((i' + 1) * 7 + 3)
                obtain ⟨u4, e4⟩ := owns_cellR hown' ((i' + 1) * 7 + 4) (by omega)
                have f4 := hown'.frozenAt ((i' + 1) * 7 + 4)
                obtain ⟨u5, e5⟩ := owns_cellR hown' ((i' + 1) * 7 + 5) (by omega)
                have f5 := hown'.frozenAt ((i' + 1) * 7 + 5)
                obtain ⟨u6, e6⟩ := owns_cellR hown' ((i' + 1) * 7 + 6) (by omega)
                have f6 := hown'.frozenAt ((i' + 1) * 7 + 6)
                clear hcy hcc hcr hrow HC hML
                go_wp2
                go_roundw
                case rel => exact ⟨i', y, by omega, by omega, by go_num, Lib.hid (box_set (box_set (box_set (box_set (box_set (box_set (box_set bx.out hgD) hgD) hgD) hgD) hgD) hgD) hgD), Lib.hid (by rw [← HFIN.out]; exact (((((((hown'.stored ((i' + 1) * 7) _).1.stored ((i' + 1) * 7 + 1) _).1.stored ((i' + 1) * 7 + 2) _).1.stored ((i' + 1) * 7 + 3) _).1.stored ((i' + 1) * 7 + 4) _).1.stored ((i' + 1) * 7 + 5) _).1.stored ((i' + 1) * 7 + 6) _).1), Lib.hid ((((((((hb.out.setCell hgw _).setCell hgw _).setCell hgw _).setCell hgw _).setCell hgw _).setCell hgw _).setCell hgw _))⟩
                case measure => simp [intOf]
              · have hij' : j = i := by omega
                subst hij'
                have HFIN : Hid (setsFrom ((gapL L j u).flatMap NoteD.cells) (j * 7) x.cells = (gapL L j x).flatMap NoteD.cells) := by
                  show _ = _
                  rw [flat_set _ _ _ (by omega), gap_set _ _ _ _ hiL]
                have hGL := gap_len L j x hiL
                have x0 := bx.out.2 0 _ rfl
                have x1 := bx.out.2 1 _ rfl
                have x2 := bx.out.2 2 _ rfl
                have x3 := bx.out.2 3 _ rfl
                have x4 := bx.out.2 4 _ rfl
                have x5 := bx.out.2 5 _ rfl
                have x6 := bx.out.2 6 _ rfl
                obtain ⟨u0, e0⟩ := owns_cellR hown' (j * 7) (by omega)
                have f0 := hown'.frozenAt (j * 7)
                obtain ⟨u1, e1⟩ := owns_cellR hown' (j * 7 + 1) (by omega)
                have f1 := hown'.frozenAt (j * 7 + 1)
                obtain ⟨u2, e2⟩ := owns_cellR hown' (j * 7 + 2) (by omega)
                have f2 := hown'.frozenAt (j * 7 + 2)
                obtain ⟨u3, e3⟩ := owns_cellR hown' (j * 7 + 3) (by omega)
                have f3 := hown'.frozenAt (j * 7 + 3)
                obtain ⟨u4, e4⟩ := owns_cellR hown' (j * 7 + 4) (by omega)
                have f4 := hown'.frozenAt (j * 7 + 4)
                obtain ⟨u5, e5⟩ := owns_cellR hown' (j * 7 + 5) (by omega)
                have f5 := hown'.frozenAt (j * 7 + 5)
                obtain ⟨u6, e6⟩ := owns_cellR hown' (j * 7 + 6) (by omega)
                have f6 := hown'.frozenAt (j * 7 + 6)
                clear hcc hcr hrow HC hML
                go_wp2
                go_roundw
                case rel => exact ⟨k + 1, gapL L j x, by omega, by go_num, HINS.out.symm, by omega, Lib.hid (by rw [hGL, ← HFIN.out]; exact (((((((hown'.stored (j * 7) _).1.stored (j * 7 + 1) _).1.stored (j * 7 + 2) _).1.stored (j * 7 + 3) _).1.stored (j * 7 + 4) _).1.stored (j * 7 + 5) _).1.stored (j * 7 + 6) _).1), Lib.hid ((((((((hb.out.setCell hgw _).setCell hgw _).setCell hgw _).setCell hgw _).setCell hgw _).setCell hgw _).setCell hgw _))⟩
                case measure => simp [intOf]; omega
          · have g1 : decide ((j : Int) < (L.length : Int)) = false := decide_eq_false (by omega)
            have g2 : decide (j < L.length) = false := decide_eq_false hjL
            clear he
            clear hdup HLT HGE HK HLD
            go_wp2
            go_quiet (fail)
            go_wp2
            go_quiet (fail)
            go_wp2_with (at_builtin; refine wpList_pushL rfl (.tmp 45) (.tmp 47) 30 rfl w.heap.size 39 Try.underlying30 hi hz0 hz1 hz2 rfl (by decide) (NoteD.cells (⟨0, 0, ⟨0, 0, 0, 0, 0⟩⟩ : NoteD)) rfl (by intro u hu; simp [NoteD.cells] at hu; subst hu; rfl) rfl (by first | rfl | (show Value.slice (some ⟨_, 0, none⟩) 1 1 = _; simp)) (owns_below hown.out (below_drewN (Below.refl _ _) _) (Nat.le_refl _)) (by unfold maxLen; omega) (by omega) hsz2 ?_; intro gg cc5 w5 o5 g5 at5 lt5; have hb5 := Lib.hid ((below_drewN hb.out _).grown g5 hsz2 (fun q hq => (hown.out.lt q hq).1)); have bx5 := Lib.hid ((bx.out.below (below_drewN (Below.refl _ _) _)).touch (Touch.grown (lo := 0) (hi := D) g5 (fun q hq => ⟨Nat.zero_le _, HOD.out q hq⟩)) (Or.inr (Nat.le_refl _))); have hgD : gg ≠ D := (by rcases at5 with h | h; (have := HOD.out gg h; omega); (have := bx.out.1; have h' : wr.heap.size ≤ gg := h; omega)); have H5 := Lib.hid o5; clear g5 at5 o5 bx hown hb hrow hx0 hsz2 hcr)
            go_loopw [7] (fun kk wr => ∃ (i : Nat) (u : NoteD), j ≤ i ∧ i ≤ L.length ∧ kk = .int .i64 i ∧ Hid (BoxN wr D [.int .i64 x.serial, .int .i64 x.game, .int .i64 x.res.home, .int .i64 x.res.away, .int .i64 x.res.hg, .int .i64 x.res.ag, .int .i64 x.res.st]) ∧ Hid (wr.ownsRow w.heap.size 39 7 (.slice (some ⟨gg, 0, none⟩) (L.length + 1) cc5) (L.length + 1) ((gapL L i u).flatMap NoteD.cells)) ∧ Hid (Below w.heap.size w wr)) (fun kk _ => (intOf kk).toNat)
            case atStart => exact ⟨L.length, (⟨0, 0, ⟨0, 0, 0, 0, 0⟩⟩ : NoteD), by omega, Nat.le_refl _, by go_num, bx5, Lib.hid (by rw [gap_end, List.flatMap_append]; simpa using H5.out), hb5⟩
            case round =>
              clear bx5 H5 hb5
              obtain ⟨i, u, hji, hiL, rfl, bx, hown, hb⟩ := hrel
              have hML := gap_len L i u hiL
              have HC := Lib.hid (notes_cells (gapL L i u))
              rw [hML] at HC
              have hrow := NoteRow.of_owns hown.out (by omega) HC.out
              obtain ⟨aa2, cap2, he2, _, hcr⟩ := hrow.form
              obtain ⟨ob2, off2, rfl, hcap2, hcc⟩ := hcr (by omega)
              simp only [Value.slice.injEq, Option.some.injEq, Addr.mk.injEq, and_true, true_and] at he2
              obtain ⟨⟨rfl, rfl⟩, rfl⟩ := he2
              have hsz3 := hb.out.size
              have hown' := hown.out
              have hgw : w.heap.size ≤ gg := (hown.out.lt gg rfl).1
              by_cases hij : j < i
              · exact absurd hij (by omega)
              · have hij' : j = i := by omega
                subst hij'
                have HFIN : Hid (setsFrom ((gapL L j u).flatMap NoteD.cells) (j * 7) x.cells = (gapL L j x).flatMap NoteD.cells) := by
                  show _ = _
                  rw [flat_set _ _ _ (by omega), gap_set _ _ _ _ hiL]
                have hGL := gap_len L j x hiL
                have x0 := bx.out.2 0 _ rfl
                have x1 := bx.out.2 1 _ rfl
                have x2 := bx.out.2 2 _ rfl
                have x3 := bx.out.2 3 _ rfl
                have x4 := bx.out.2 4 _ rfl
                have x5 := bx.out.2 5 _ rfl
                have x6 := bx.out.2 6 _ rfl
                obtain ⟨u0, e0⟩ := owns_cellR hown' (j * 7) (by omega)
                have f0 := hown'.frozenAt (j * 7)
                obtain ⟨u1, e1⟩ := owns_cellR hown' (j * 7 + 1) (by omega)
                have f1 := hown'.frozenAt (j * 7 + 1)
                obtain ⟨u2, e2⟩ := owns_cellR hown' (j * 7 + 2) (by omega)
                have f2 := hown'.frozenAt (j * 7 + 2)
                obtain ⟨u3, e3⟩ := owns_cellR hown' (j * 7 + 3) (by omega)
                have f3 := hown'.frozenAt (j * 7 + 3)
                obtain ⟨u4, e4⟩ := owns_cellR hown' (j * 7 + 4) (by omega)
                have f4 := hown'.frozenAt (j * 7 + 4)
                obtain ⟨u5, e5⟩ := owns_cellR hown' (j * 7 + 5) (by omega)
                have f5 := hown'.frozenAt (j * 7 + 5)
                obtain ⟨u6, e6⟩ := owns_cellR hown' (j * 7 + 6) (by omega)
                have f6 := hown'.frozenAt (j * 7 + 6)
                clear hcc hcr hrow HC hML
                go_wp2
                go_roundw
                case rel => exact ⟨k + 1, gapL L j x, by omega, by go_num, HINS.out.symm, by omega, Lib.hid (by rw [hGL, ← HFIN.out]; exact (((((((hown'.stored (j * 7) _).1.stored (j * 7 + 1) _).1.stored (j * 7 + 2) _).1.stored (j * 7 + 3) _).1.stored (j * 7 + 4) _).1.stored (j * 7 + 5) _).1.stored (j * 7 + 6) _).1), Lib.hid ((((((((hb.out.setCell hgw _).setCell hgw _).setCell hgw _).setCell hgw _).setCell hgw _).setCell hgw _).setCell hgw _))⟩
                case measure => simp [intOf]; omega
    · obtain rfl : k = n := by omega
      go_wp2
      go_ret
      exact ⟨_, rfl, by have := hown.out; rw [← hL.out]; exact this, hb.out⟩
end Go.Proofs.Ytojkonhhaamodaa
set_option linter.unusedVariables false
namespace Go.Proofs.Ytojkonhhaamodaa
open Go.RowKit

/-- block B of w holds the cells cs, none of them frozen -/
def BoxF (w : World) (B : Nat) (cs : List Value) : Prop := B < w.heap.size ∧ ∀ j v, cs[j]? = some v → w.cell? ⟨B, j, none⟩ = some v ∧ w.frozen? ⟨B, j, none⟩ = false
theorem BoxF.made {u w2 : World} {cs : Array Value} {t : TypeId} {B : Nat} (h : Below (u.alloc (.cells cs t)).heap.size (u.alloc (.cells cs t)) w2) (hB : u.heap.size = B) : BoxF w2 B cs.toList :=
  ⟨(BoxN.made h hB).1, fun j v hv => ⟨(BoxN.made h hB).2 j v hv, BoxN.free h hB j⟩⟩
theorem BoxF.box {w : World} {B : Nat} {cs : List Value} (h : BoxF w B cs) : BoxN w B cs := ⟨h.1, fun j v hv => (h.2 j v hv).1⟩
theorem BoxF.below {w w' : World} {B : Nat} {cs : List Value} (h : BoxF w B cs) (hb : Below w.heap.size w w') : BoxF w' B cs :=
  ⟨Nat.lt_of_lt_of_le h.1 hb.size, fun j v hv => ⟨(hb.cell (p := ⟨B, j, none⟩) h.1).trans (h.2 j v hv).1, (hb.frozen (p := ⟨B, j, none⟩) h.1).trans (h.2 j v hv).2⟩⟩
theorem BoxF.set {w : World} {B : Nat} {cs : List Value} (h : BoxF w B cs) (j : Nat) (u : Value) (hj : j < cs.length) : BoxF (w.setCell ⟨B, j, none⟩ u) B (cs.set j u) := by
  refine ⟨by simpa [World.setCell] using h.1, fun i v hv => ?_⟩
  have hf : ∀ (i : Nat) (v0 : Value), cs[i]? = some v0 → (w.setCell ⟨B, j, none⟩ u).frozen? ⟨B, i, none⟩ = false := fun i v0 h0 => (World.frozen?_setCell _ _ _ _).trans (h.2 i v0 h0).2
  by_cases e : i = j
  · subst e
    obtain ⟨v0, h0⟩ : ∃ v0, cs[i]? = some v0 := ⟨_, List.getElem?_eq_getElem hj⟩
    rw [List.getElem?_set_self hj] at hv
    cases hv
    refine ⟨?_, hf i v0 h0⟩
    rw [World.cell?_setCell_same' _ _ _ (by rw [(h.2 i v0 h0).1]; rfl)]
  · rw [List.getElem?_set_ne (Ne.symm e)] at hv
    refine ⟨?_, hf i v hv⟩
    rw [World.cell?_setCell_other _ _ _ _ (by intro e2; simp only [Addr.mk.injEq] at e2; omega)]
    exact (h.2 i v hv).1
theorem BoxF.other {w : World} {B D : Nat} {cs : List Value} (h : BoxF w B cs) (j : Nat) (u : Value) (hD : B ≠ D) : BoxF (w.setCell ⟨D, j, none⟩ u) B cs := by
  refine ⟨by simpa [World.setCell] using h.1, fun i v hv => ⟨?_, (World.frozen?_setCell _ _ _ _).trans (h.2 i v hv).2⟩⟩
  rw [World.cell?_setCell_other _ _ _ _ (by intro e2; simp only [Addr.mk.injEq] at e2; omega)]
  exact (h.2 i v hv).1
theorem BoxN.elsewhere {w : World} {B D : Nat} {cs : List Value} (h : BoxN w B cs) (j : Nat) (u : Value) (hD : B ≠ D) : BoxN (w.setCell ⟨D, j, none⟩ u) B cs := by
  refine ⟨by simpa [World.setCell] using h.1, fun i v hv => ?_⟩
  rw [World.cell?_setCell_other _ _ _ _ (by intro e2; simp only [Addr.mk.injEq] at e2; omega)]
  exact h.2 i v hv
end Go.Proofs.Ytojkonhhaamodaa
