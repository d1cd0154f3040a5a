/-
  The model's making of a book: l07Book, MakeBook.
-/
import Derived.Test.YtoingkchjiipgaaHasMem
import Derived.Test.YtoingkchjiipgaaBookMake
import Derived.Deep.AppendLies
set_option linter.unusedVariables false
namespace Go.Proofs.Ytoingkchjiipgaa
open Go.RowKit

theorem owns_drawn {B : Nat} {w w' : World} {base : Nat} {e : TypeId} {size m : Nat} {v : Value} {xs : List Value} (ho : w.ownsRow base e size v m xs) (hB : B < base) (hg : w.grownBy w' (some B)) : w'.ownsRow base e size v m xs :=
  ho.kept hg (by
    cases hv : v.ownBlock with
    | none => exact .inl rfl
    | some k => exact .inr fun e => by have := (ho.lt k hv).1; simp at e; omega)
def pick4 (i : Nat) : Int := if i = 3 then 1 else 0
theorem pick4_row (w : World) : IntRow (w.alloc (.cells #[.int .i64 0, .int .i64 0, .int .i64 0, .int .i64 1] 3)) (.slice (some ⟨w.heap.size, 0, none⟩) 4 4) 4 pick4 := by
  refine .inr ⟨w.heap.size, 0, 4, rfl, by omega, by omega, fun i hi => ?_, Nat.le_refl _⟩
  rw [Nat.zero_add, cell_of_row _ w.heap.size i _ _ (0, 0) (heap_alloc_new w _)]
  have : i = 0 ∨ i = 1 ∨ i = 2 ∨ i = 3 := by omega
  rcases this with rfl | rfl | rfl | rfl <;> rfl
/-- the data of a made book of n teams -/
structure BookI where
  turn : Nat
  field : Nat → TeamD
  win : Int
  ag : Bool
  lad : List Int
  games : List GameD
  opens : Nat
  fair : List Int
  taken : List Int
def BookI.good (n opn : Nat) (b : BookI) : Prop := (b.turn < n ∧ MadeF n b.turn b.field n) ∧ RulesGood b.win b.lad ∧ (SeaL 0 n b.games b.opens ∧ b.opens ≤ opn ∧ b.games.length ≤ 8 * n) ∧
  (b.fair.length = n ∧ ∀ x ∈ b.fair, 0 ≤ x ∧ x ≤ 3) ∧ (b.taken.length = n ∧ ∀ x ∈ b.taken, x = 0 ∨ x = 1)
/-- the slices of a book's value, and what they hold in memory of the call's own from base on -/
def BookOwn (base n : Nat) (b : BookI) (vf vl vg vfa vta : Value) (w : World) : Prop :=
  (∃ xf, w.ownsRow base 113 3 vf n xf ∧ ∀ t, t < n → xf[t * 3]? = some (.string (b.field t).nm) ∧ xf[t * 3 + 1]? = some (.int .i64 (b.field t).club) ∧ xf[t * 3 + 2]? = some (.int .i64 (b.field t).seed)) ∧
    w.ownsRow base 3 1 vl b.lad.length (b.lad.map (Value.int .i64)) ∧ w.ownsRow base 36 5 vg b.games.length (gcells b.games) ∧ w.ownsRow base 3 1 vfa b.fair.length (b.fair.map (Value.int .i64)) ∧
    w.ownsRow base 3 1 vta b.taken.length (b.taken.map (Value.int .i64))
def BookDrawn (B : Nat) (a : Option Addr) (len cap : Nat) (g : Nat → Nat) (n opn : Nat) (w : World) (e : Ending) (w' : World) : Prop :=
  ∃ b vf vl vg vfa vta, e = .returned (.agg #[vf, .int .i64 b.win, .int .i64 1, .int .i64 0, vl, .bool b.ag, vg, vfa, vta]) ∧ BookI.good n opn b ∧ BookOwn w.heap.size n b vf vl vg vfa vta w' ∧ Cur B a len cap g w' ∧ w.grownBy w' (some B)
theorem book_end {B : Nat} {a : Option Addr} {len cap : Nat} {g : Nat → Nat} {n opn D : Nat} {b : BookI} {vf vl vg vfa vta : Value} {xf : List Value} {w wr w9 : World} (h1 : b.turn < n) (h2 : MadeF n b.turn b.field n) (h3 : RulesGood b.win b.lad) (h4 : SeaL 0 n b.games b.opens ∧ b.opens ≤ opn ∧ b.games.length ≤ 8 * n)
    (h5 : b.fair.length = n ∧ ∀ x ∈ b.fair, 0 ≤ x ∧ x ≤ 3) (h6 : b.taken.length = n ∧ ∀ x ∈ b.taken, x = 0 ∨ x = 1)
    (hx : ∀ t, t < n → xf[t * 3]? = some (.string (b.field t).nm) ∧ xf[t * 3 + 1]? = some (.int .i64 (b.field t).club) ∧ xf[t * 3 + 2]? = some (.int .i64 (b.field t).seed))
    (hB : BkBox B a len cap g w D n vf xf vl b.lad vg b.games b.win b.ag vfa b.fair vta b.taken wr) (T : Touch w.heap.size (w.heap.size + 1) wr w9) :
    BookDrawn B a len cap g n opn w (.returned (.agg #[vf, .int .i64 b.win, .int .i64 1, .int .i64 0, vl, .bool b.ag, vg, vfa, vta])) w9 := by
  obtain ⟨⟨c1, c2, c3, c4, _, c6, c7, c8, _⟩, _, d3, d4, _⟩ := hB
  have key : ∀ {base : Nat} {e : TypeId} {size m : Nat} {v : Value} {xs : List Value}, wr.ownsRow base e size v m xs → w.heap.size + 1 ≤ base → w9.ownsRow w.heap.size e size v m xs := fun {base e size m v xs} ho hb =>
    owns_mono (owns_touch ho T (InW.of_owns ho) (.inr hb)) (by omega)
  have hb : Below w.heap.size wr w9 := T.below (Nat.le_refl _) c6.size
  refine ⟨b, vf, vl, vg, vfa, vta, rfl, ⟨⟨h1, h2⟩, h3, h4, h5, h6⟩, ⟨⟨xf, key c2 (Nat.le_refl _), hx⟩, key c3 (Nat.le_refl _), key c4 (Nat.le_refl _), key d3 (by omega), key d4 (by omega)⟩, c1.belowW hb c7, ?_⟩
  exact ⟨hb.os.trans c6.os, hb.tape.trans c6.tape, hb.output.trans c6.output, Nat.le_trans c6.size hb.size, fun k hk hne => (hb.block k hk).trans (c6.block k hk hne)⟩
set_option maxRecDepth 100000 in
set_option maxHeartbeats 8000000 in
theorem l07Book_any (B : Nat) (a : Option Addr) (len cap : Nat) (g : Nat → Nat) (n opn : Nat) (w : World) (hc : Cur B a len cap g w) (h1 : 1 ≤ n) (hn : n ≤ 6) (ho : opn ≤ 1000) :
    Calls Try.prog 46 #[.pointer (some ⟨B, 0, none⟩), .int .i64 (n : Int), .int .i64 (opn : Int)] w (BookDrawn B a len cap g n opn w) := by
  obtain ⟨i0, hi, hz0, hz1, hz2⟩ := info_parts Try.infoI
  have hlB := hc.ltW
  have LF := Lib.hid (fun w1 hc => l02Field_any B a len cap g n w1 hc h1 hn)
  have LR := Lib.hid (fun w1 hc => l03Draw_any B a len cap g w1 hc)
  have LS := Lib.hid (fun w1 hc => l04Season_any B a len cap g n opn w1 hc (by omega) h1 ho)
  have LB := Lib.hid (fun w1 hc => l01Below_small B a len cap g 4 w1 hc (by omega) (by omega))
  have LP := Lib.hid (fun v w1 hc hv hB => l01Pick_any B a len cap g v 4 pick4 w1 hc (by omega) (by omega) hv hB)
  have HC := Lib.hid hc
  clear hc
  go_enter Try.func46, Try.ntmps46
  go_wp2_with fail
  refine (LF.out _ (HC.out.belowW ((Below.refl _ _).alloc (Nat.le_refl _) _) hlB)).mono ?_
  rintro e w1 ⟨vf, GF, turn, xf, rfl, hturn, hmade, of1, hxf, c1, g1⟩
  have R1 : Hid (w1.heap[w.heap.size]? = some (.cells #[.slice none 0 0, .int .i64 0, .int .i64 0, .int .i64 0, .slice none 0 0, .bool false, .slice none 0 0, .slice none 0 0, .slice none 0 0] 29 (0, 0))) := by
    show _ = _
    rw [g1.block _ (by simp) (by intro e; simp at e; omega)]; exact heap_alloc_new w _
  have G1 : Hid (w.grownBy w1 (some B)) := grown_trans (World.grownBy_alloc w _ _) g1
  have z1 : w.heap.size + 1 ≤ w1.heap.size := by have := g1.size; simpa using this
  have OF := Lib.hid (owns_mono of1 (base' := w.heap.size + 1) (by simp))
  have C1 := Lib.hid c1
  have HT := Lib.hid (And.intro hturn hmade)
  have HX := Lib.hid hxf
  clear c1 g1 of1 hturn hmade hxf HC LF
  go_wp2_with fail
  refine (LR.out _ C1.out).mono ?_
  rintro e w2 ⟨vl, win, ag, LL, rfl, hgood, ol2, c2, g2⟩
  have hvf := OF.out.lt
  have R2 : Hid (w2.heap[w.heap.size]? = some (.cells #[.slice none 0 0, .int .i64 0, .int .i64 0, .int .i64 0, .slice none 0 0, .bool false, .slice none 0 0, .slice none 0 0, .slice none 0 0] 29 (0, 0))) := (g2.block _ (by omega) (by intro e; simp at e; omega)).trans R1.out
  have G2 := Lib.hid (grown_trans G1.out g2)
  have z2 := g2.size
  have OF2 := Lib.hid (owns_drawn OF.out (by omega) g2)
  have OL := Lib.hid (owns_mono ol2 (base' := w.heap.size + 1) z1)
  have C2 := Lib.hid c2
  have HGd := Lib.hid hgood
  clear c2 g2 ol2 hgood C1 G1 R1 OF LR
  go_wp2_with fail
  refine (LS.out _ C2.out).mono ?_
  rintro e w3 ⟨vg, LG, m, rfl, hLG, hm, hLGl, og3, c3, g3⟩
  have hvl := OL.out.lt
  have R3 : Hid (w3.heap[w.heap.size]? = some (.cells #[.slice none 0 0, .int .i64 0, .int .i64 0, .int .i64 0, .slice none 0 0, .bool false, .slice none 0 0, .slice none 0 0, .slice none 0 0] 29 (0, 0))) := (g3.block _ (by omega) (by intro e; simp at e; omega)).trans R2.out
  have G3 := Lib.hid (grown_trans G2.out g3)
  have z3 := g3.size
  have OF3 := Lib.hid (owns_drawn OF2.out (by omega) g3)
  have OL3 := Lib.hid (owns_drawn OL.out (by omega) g3)
  have OG3 := Lib.hid (owns_mono og3 (base' := w.heap.size + 1) (by omega))
  have hvg := OG3.out.lt
  have C3 := Lib.hid c3
  have HLG := Lib.hid hLG
  clear c3 g3 og3 hLG C2 G2 R2 OF2 OL LS
  have FX : BkFix B a len cap g w w3.heap.size n vf xf vl LL vg LG (w3.alloc (.cells #[vf, .int .i64 win, .int .i64 1, .int .i64 0, vl, .bool ag, vg, .slice none 0 0, .slice none 0 0] 29)) :=
    have hb := (Below.refl w3.heap.size w3).alloc (Nat.le_refl _) (.cells #[vf, .int .i64 win, .int .i64 1, .int .i64 0, vl, .bool ag, vg, .slice none 0 0, .slice none 0 0] 29)
    ⟨C3.out.belowW hb C3.out.ltW, owns_below OF3.out hb (Nat.le_refl _), owns_below OL3.out hb (Nat.le_refl _), owns_below OG3.out hb (Nat.le_refl _), (hb.block _ (by omega)).trans R3.out, grown_to G3.out hb, hlB, by omega, by simp, fun k hk => by have := (hvf k hk).2; omega, fun k hk => by have := (hvl k hk).2; omega, fun k hk => (hvg k hk).2⟩
  have BX : BkBox B a len cap g w w3.heap.size n vf xf vl LL vg LG win ag (.slice none 0 0) [] (.slice none 0 0) [] (w3.alloc (.cells #[vf, .int .i64 win, .int .i64 1, .int .i64 0, vl, .bool ag, vg, .slice none 0 0, .slice none 0 0] 29)) :=
    ⟨FX, heap_alloc_new w3 _, World.ownsRow_nil _ _ _ _, World.ownsRow_nil _ _ _ _, fun k hk => by simp [Value.ownBlock] at hk⟩
  obtain ⟨saf, scf, rfl⟩ := owns_form OF3.out
  obtain ⟨sal, scl, rfl⟩ := owns_form OL3.out
  obtain ⟨sag, scg, rfl⟩ := owns_form OG3.out
  have HBX := Lib.hid BX
  clear BX FX OF3 OL3 OG3 hvf hvl hvg C3 G3 R3
  go_wp2
  generalize hD : w3.heap.size = D at *
  clear hD z1 z2 z3
  go_loopw [8] (fun i wr => ∃ (k : Nat) (F T : List Int) (vfa vta : Value), k ≤ n ∧ i = .int .i64 k ∧ F.length = k ∧ T.length = k ∧ Hid ((∀ x ∈ F, 0 ≤ x ∧ x ≤ 3) ∧ ∀ x ∈ T, x = 0 ∨ x = 1) ∧ Hid (BkBox B a len cap g w D n (.slice saf n scf) xf (.slice sal LL.length scl) LL (.slice sag LG.length scg) LG win ag vfa F vta T wr)) (fun i _ => n - (intOf i).toNat)
  case atStart => exact ⟨0, [], [], _, _, Nat.zero_le _, rfl, rfl, rfl, ⟨fun x hx => by simp at hx, fun x hx => by simp at hx⟩, HBX.out⟩
  case round =>
    clear HBX
    obtain ⟨k, F, T, vfa, vta, hk, rfl, hFl, hTl, hFT, hBX⟩ := hrel
    have HFl := Lib.hid hFl
    have HTl := Lib.hid hTl
    obtain ⟨s7a, s7c, rfl⟩ := owns_form hBX.out.2.2.1
    obtain ⟨s8a, s8c, rfl⟩ := owns_form hBX.out.2.2.2.1
    by_cases hlt : k < n
    · have hF6 : F.length ≤ 6 := by omega
      have hT6 : T.length ≤ 6 := by omega
      clear hFl hTl
      have k7 := hBX.out.cell 7
      go_wp2_with fail
      refine Await.begin (S := Until 7 fun w' => w'.cell? ⟨D, 7, none⟩ = some (.slice s7a F.length s7c)) (by kernel_rfl) ?_ (fun hS => ?_)
      · exact Until.of k7
      have FE : Hid (∀ wa : World, wa.cell? ⟨D, 7, none⟩ = some (.slice s7a F.length s7c) → wa.cell? ⟨D, 7, none⟩ = some (.slice s7a F.length s7c)) := fun _ h => h
      have hBX0 := Lib.hid (hBX.out.below (Below.refl _ _).drew)
      clear k7
      generalize wr.drew = wd at *
      refine Await.pure (i := 0) (v := ?_) rfl (by kernel_rfl) (by kernel_rfl) (by kernel_rfl) (by kernel_rfl) (fun _ _ _ h => h) (Or.inl ⟨by rfl, ?_⟩) (by assumption) ?_
      rotate_left
      · (intro wa _; go_simp; try with_reducible rfl)
      simp only [Act.put, List.getElem_toArray, List.getElem_cons_zero, List.setIfInBounds_toArray, List.set_cons_zero, List.set_cons_succ]
      refine Await.take (i := 1) (p := 5) (v := ?_) rfl (by kernel_rfl) (by kernel_rfl) (by kernel_rfl) (by kernel_rfl) (fun _ _ _ h => h) (Or.inl ⟨by rfl, ?_⟩) (by assumption) ?_
      rotate_left
      · (intro wa hSw; have hSw2 := FE.out wa hSw; go_simp; try with_reducible rfl)
      simp only [Act.put, List.getElem_toArray, List.getElem_cons_zero, List.getElem_cons_succ, List.setIfInBounds_toArray, List.set_cons_zero, List.set_cons_succ]
      refine Await.pure (i := 2) (v := ?_) rfl (by kernel_rfl) (by kernel_rfl) (by kernel_rfl) (by kernel_rfl) (fun _ _ _ h => h) (Or.inl ⟨by rfl, ?_⟩) (by assumption) ?_
      rotate_left
      · (intro wa _; go_simp; try with_reducible rfl)
      simp only [Act.put, List.getElem_toArray, List.getElem_cons_zero, List.getElem_cons_succ, List.setIfInBounds_toArray, List.set_cons_zero, List.set_cons_succ]
      refine Await.step (i := 3) (o := _) (by kernel_rfl) rfl (fun K1 hK1' => ?_)
      go_simp
      refine (LB.out _ hBX0.out.cur).mono ?_
      rintro e wa ⟨y, hy, rfl, cy, gy⟩
      have hBX1 := Lib.hid (hBX0.out.drawn cy gy)
      clear cy gy hBX0
      (try go_wp2_with fail)
      refine hK1'.out _ _ ?_ (fun hS => ?_)
      · exact Until.of (hBX1.out.cell 7)
      clear hK1' K1
      refine Await.step (i := 4) (o := _) (by kernel_rfl) rfl (fun K1 hK1' => ?_)
      have hBX1b := Lib.hid (hBX1.out.below ((Below.refl _ _).alloc (Nat.le_refl _) (.cells #[.int .i64 (y : Int)] 3)))
      have hn8 := heap_alloc_new wa (.cells #[.int .i64 (y : Int)] 3)
      go_simp
      refine hK1'.out _ _ ?_ (fun hS => ?_)
      · exact Until.of (hBX1b.out.cell 7)
      clear hK1' K1
      generalize hX8 : wa.heap.size = X8 at *
      generalize wa.alloc (.cells #[.int .i64 (y : Int)] 3) = wb at *
      refine Await.step (i := 5) (o := _) (by kernel_rfl) rfl (fun K1 hK1' => ?_)
      refine step_append_lies _ (by rfl) (.tmp 25) (.tmp 28) 24 (by rfl) (D + 1) 3 i0 (.int .i64 0) 1 8 Try.underlying24 hi hz0 hz1 hz2 rfl (by decide) (.slice s7a F.length s7c) F.length (F.map (Value.int .i64)) (by rfl) hBX1b.out.2.2.1 ⟨_, 0, none⟩ 1 1 [.int .i64 (y : Int)] (by rfl) (by simp) (by simpa using World.news_of_block hn8) (by intro u hu; simp at hu; subst hu; rfl) (by omega) (by unfold maxLen; omega) (by omega) hBX1b.out.size _ rfl ?_
      intro gg cc wc5 og gg5 at5 lt5
      obtain ⟨⟨e7, f7⟩, hBX2'⟩ := hBX1b.out.fair og gg5 rfl (at5.imp id fun e => Nat.le_of_eq e.symm)
      have hBXf := Lib.hid hBX2'
      clear hBX2' og gg5 at5 hn8
      refine hK1'.out _ _ ?_ (fun hS => ?_)
      · exact Until.of e7
      clear hK1' K1
      refine Await.pure (i := 6) (v := ?_) rfl (by kernel_rfl) (by kernel_rfl) (by kernel_rfl) (by kernel_rfl) (fun _ _ _ h => h) (Or.inl ⟨by rfl, ?_⟩) (by assumption) ?_
      rotate_left
      · (intro wa _; go_simp; try with_reducible rfl)
      simp only [Act.put, List.getElem_toArray, List.getElem_cons_zero, List.getElem_cons_succ, List.setIfInBounds_toArray, List.set_cons_zero, List.set_cons_succ]
      refine Await.step (i := 7) (o := _) (by kernel_rfl) rfl (fun K1 hK1' => ?_)
      go_simp
      refine hK1'.out _ _ ?_ (fun hS => ?_)
      · exact Until.over (by kernel_rfl)
      clear hK1' K1
      refine Await.done (by kernel_rfl) ?_ _
      generalize wc5.setCell ⟨D, 7, none⟩ (.slice (some ⟨gg, 0, none⟩) (F.length + 1) cc) = we at *
      clear e7 f7 hS FE hBX1 hBX1b hBX lt5
      have k8 := hBXf.out.cell 8
      go_wp2_with fail
      refine Await.begin (S := Until 8 fun w' => w'.cell? ⟨D, 8, none⟩ = some (.slice s8a T.length s8c)) (by kernel_rfl) ?_ (fun hS => ?_)
      · exact Until.of k8
      have FE : Hid (∀ wa : World, wa.cell? ⟨D, 8, none⟩ = some (.slice s8a T.length s8c) → wa.cell? ⟨D, 8, none⟩ = some (.slice s8a T.length s8c)) := fun _ h => h
      have hBX0 := Lib.hid (hBXf.out.below (Below.refl _ _).drew)
      clear k8
      generalize we.drew = wd2 at *
      refine Await.pure (i := 0) (v := ?_) rfl (by kernel_rfl) (by kernel_rfl) (by kernel_rfl) (by kernel_rfl) (fun _ _ _ h => h) (Or.inl ⟨by rfl, ?_⟩) (by assumption) ?_
      rotate_left
      · (intro wa _; go_simp; try with_reducible rfl)
      simp only [Act.put, List.getElem_toArray, List.getElem_cons_zero, List.setIfInBounds_toArray, List.set_cons_zero, List.set_cons_succ]
      refine Await.take (i := 1) (p := 6) (v := ?_) rfl (by kernel_rfl) (by kernel_rfl) (by kernel_rfl) (by kernel_rfl) (fun _ _ _ h => h) (Or.inl ⟨by rfl, ?_⟩) (by assumption) ?_
      rotate_left
      · (intro wa hSw; have hSw2 := FE.out wa hSw; go_simp; try with_reducible rfl)
      simp only [Act.put, List.getElem_toArray, List.getElem_cons_zero, List.getElem_cons_succ, List.setIfInBounds_toArray, List.set_cons_zero, List.set_cons_succ]
      refine Await.pure (i := 2) (v := ?_) rfl (by kernel_rfl) (by kernel_rfl) (by kernel_rfl) (by kernel_rfl) (fun _ _ _ h => h) (Or.inl ⟨by rfl, ?_⟩) (by assumption) ?_
      rotate_left
      · (intro wa _; go_simp; try with_reducible rfl)
      simp only [Act.put, List.getElem_toArray, List.getElem_cons_zero, List.getElem_cons_succ, List.setIfInBounds_toArray, List.set_cons_zero, List.set_cons_succ]
      refine Await.step (i := 3) (o := _) (by kernel_rfl) rfl (fun K1 hK1' => ?_)
      have hBX0b := Lib.hid (hBX0.out.below ((Below.refl _ _).alloc (Nat.le_refl _) (.cells #[.int .i64 0, .int .i64 0, .int .i64 0, .int .i64 1] 3)))
      have hpr := pick4_row wd2
      have hnB : (Value.slice (some ⟨wd2.heap.size, 0, none⟩) 4 4).ownBlock ≠ some B := by have := hBX0.out.size; have := hBX0.out.1.2.2.2.2.2.2.1; have := hBX0.out.1.2.2.2.2.2.2.2.1; simp [Value.ownBlock]; omega
      go_simp
      refine hK1'.out _ _ ?_ (fun hS => ?_)
      · exact Until.of (hBX0b.out.cell 8)
      clear hK1' K1
      generalize wd2.heap.size = X7 at *
      generalize wd2.alloc (.cells #[.int .i64 0, .int .i64 0, .int .i64 0, .int .i64 1] 3) = wg at *
      refine Await.step (i := 4) (o := _) (by kernel_rfl) rfl (fun K1 hK1' => ?_)
      go_simp
      refine (LP.out _ _ hBX0b.out.cur hpr hnB).mono ?_
      rintro e wh ⟨⟨z, hz, rfl⟩, cy, gy⟩
      have hBX1 := Lib.hid (hBX0b.out.drawn cy gy)
      clear cy gy hBX0 hBX0b hpr hnB
      generalize hpz : pick4 z = pz at *
      have HPZ := Lib.hid hpz
      clear hpz
      (try go_wp2_with fail)
      refine hK1'.out _ _ ?_ (fun hS => ?_)
      · exact Until.of (hBX1.out.cell 8)
      clear hK1' K1
      refine Await.step (i := 5) (o := _) (by kernel_rfl) rfl (fun K1 hK1' => ?_)
      have hBX1b := Lib.hid (hBX1.out.below ((Below.refl _ _).alloc (Nat.le_refl _) (.cells #[.int .i64 pz] 3)))
      have hn8 := heap_alloc_new wh (.cells #[.int .i64 pz] 3)
      go_simp
      refine hK1'.out _ _ ?_ (fun hS => ?_)
      · exact Until.of (hBX1b.out.cell 8)
      clear hK1' K1
      generalize hX9 : wh.heap.size = X9 at *
      generalize wh.alloc (.cells #[.int .i64 pz] 3) = wi at *
      refine Await.step (i := 6) (o := _) (by kernel_rfl) rfl (fun K1 hK1' => ?_)
      refine step_append_lies _ (by rfl) (.tmp 32) (.tmp 36) 24 (by rfl) (D + 1) 3 i0 (.int .i64 0) 1 8 Try.underlying24 hi hz0 hz1 hz2 rfl (by decide) (.slice s8a T.length s8c) T.length (T.map (Value.int .i64)) (by rfl) hBX1b.out.2.2.2.1 ⟨_, 0, none⟩ 1 1 [.int .i64 pz] (by rfl) (by simp) (by simpa using World.news_of_block hn8) (by intro u hu; simp at hu; subst hu; rfl) (by omega) (by unfold maxLen; omega) (by omega) hBX1b.out.size _ rfl ?_
      intro gg2 cc2 wc6 og gg6 at6 lt6
      obtain ⟨⟨e8, f8⟩, hBX2'⟩ := hBX1b.out.taken og gg6 rfl (at6.imp id fun e => Nat.le_of_eq e.symm)
      have hBX2 := Lib.hid hBX2'
      clear hBX2' og gg6 at6 hn8
      refine hK1'.out _ _ ?_ (fun hS => ?_)
      · exact Until.of e8
      clear hK1' K1
      refine Await.pure (i := 7) (v := ?_) rfl (by kernel_rfl) (by kernel_rfl) (by kernel_rfl) (by kernel_rfl) (fun _ _ _ h => h) (Or.inl ⟨by rfl, ?_⟩) (by assumption) ?_
      rotate_left
      · (intro wa _; go_simp; try with_reducible rfl)
      simp only [Act.put, List.getElem_toArray, List.getElem_cons_zero, List.getElem_cons_succ, List.setIfInBounds_toArray, List.set_cons_zero, List.set_cons_succ]
      refine Await.step (i := 8) (o := _) (by kernel_rfl) rfl (fun K1 hK1' => ?_)
      go_simp
      refine hK1'.out _ _ ?_ (fun hS => ?_)
      · exact Until.over (by kernel_rfl)
      clear hK1' K1
      refine Await.done (by kernel_rfl) ?_ _
      generalize wc6.setCell ⟨D, 8, none⟩ (.slice (some ⟨gg2, 0, none⟩) (T.length + 1) cc2) = wj at *
      clear e8 f8 hS FE hBX1 hBX1b hBXf lt6
      rw [← HPZ.out] at hBX2
      go_wp2
      go_roundw
      case rel => exact ⟨k + 1, F ++ [(y : Int)], T ++ [pick4 z], _, _, by omega, by go_num, by simp; exact HFl.out, by simp; exact HTl.out, ⟨fun x hx => by
        rw [List.mem_append, List.mem_singleton] at hx
        rcases hx with hx | rfl
        · exact hFT.out.1 x hx
        · omega, fun x hx => by
        rw [List.mem_append, List.mem_singleton] at hx
        rcases hx with hx | rfl
        · exact hFT.out.2 x hx
        · unfold pick4; split <;> omega⟩, hBX2⟩
      case measure => simp [intOf]; omega
    · obtain rfl : k = n := by omega
      obtain ⟨hfx, hbx, hfa, hta, hdis⟩ := hBX.out
      have hRlt : w.heap.size < wr.heap.size := (Array.getElem?_eq_some_iff.1 hfx.2.2.2.2.1).1
      have hDlt : D < wr.heap.size := (Array.getElem?_eq_some_iff.1 hbx).1
      have hRD : w.heap.size < D := hfx.2.2.2.2.2.2.2.1
      have n1 : ¬ (w.heap.size = D) := by omega
      have n2 : ¬ (D = w.heap.size) := by omega
      have k0 : wr.cell? ⟨D, 0, none⟩ = some (.slice saf k scf) := cell_of_row wr D 0 _ _ (0, 0) hbx
      have k1 : wr.cell? ⟨D, 1, none⟩ = some (.int .i64 win) := cell_of_row wr D 1 _ _ (0, 0) hbx
      have k2 : wr.cell? ⟨D, 2, none⟩ = some (.int .i64 1) := cell_of_row wr D 2 _ _ (0, 0) hbx
      have k3 : wr.cell? ⟨D, 3, none⟩ = some (.int .i64 0) := cell_of_row wr D 3 _ _ (0, 0) hbx
      have k4 : wr.cell? ⟨D, 4, none⟩ = some (.slice sal LL.length scl) := cell_of_row wr D 4 _ _ (0, 0) hbx
      have k5 : wr.cell? ⟨D, 5, none⟩ = some (.bool ag) := cell_of_row wr D 5 _ _ (0, 0) hbx
      have k6 : wr.cell? ⟨D, 6, none⟩ = some (.slice sag LG.length scg) := cell_of_row wr D 6 _ _ (0, 0) hbx
      have k7 : wr.cell? ⟨D, 7, none⟩ = some (.slice s7a F.length s7c) := cell_of_row wr D 7 _ _ (0, 0) hbx
      have k8 : wr.cell? ⟨D, 8, none⟩ = some (.slice s8a T.length s8c) := cell_of_row wr D 8 _ _ (0, 0) hbx
      have q0 : wr.cell? ⟨w.heap.size, 0, none⟩ = some (.slice none 0 0) := cell_of_row wr w.heap.size 0 _ _ (0, 0) hfx.2.2.2.2.1
      have r0 := frozen_of_row wr w.heap.size 0 _ _ hfx.2.2.2.2.1
      have q1 : wr.cell? ⟨w.heap.size, 1, none⟩ = some (.int .i64 0) := cell_of_row wr w.heap.size 1 _ _ (0, 0) hfx.2.2.2.2.1
      have r1 := frozen_of_row wr w.heap.size 1 _ _ hfx.2.2.2.2.1
      have q2 : wr.cell? ⟨w.heap.size, 2, none⟩ = some (.int .i64 0) := cell_of_row wr w.heap.size 2 _ _ (0, 0) hfx.2.2.2.2.1
      have r2 := frozen_of_row wr w.heap.size 2 _ _ hfx.2.2.2.2.1
      have q3 : wr.cell? ⟨w.heap.size, 3, none⟩ = some (.int .i64 0) := cell_of_row wr w.heap.size 3 _ _ (0, 0) hfx.2.2.2.2.1
      have r3 := frozen_of_row wr w.heap.size 3 _ _ hfx.2.2.2.2.1
      have q4 : wr.cell? ⟨w.heap.size, 4, none⟩ = some (.slice none 0 0) := cell_of_row wr w.heap.size 4 _ _ (0, 0) hfx.2.2.2.2.1
      have r4 := frozen_of_row wr w.heap.size 4 _ _ hfx.2.2.2.2.1
      have q5 : wr.cell? ⟨w.heap.size, 5, none⟩ = some (.bool false) := cell_of_row wr w.heap.size 5 _ _ (0, 0) hfx.2.2.2.2.1
      have r5 := frozen_of_row wr w.heap.size 5 _ _ hfx.2.2.2.2.1
      have q6 : wr.cell? ⟨w.heap.size, 6, none⟩ = some (.slice none 0 0) := cell_of_row wr w.heap.size 6 _ _ (0, 0) hfx.2.2.2.2.1
      have r6 := frozen_of_row wr w.heap.size 6 _ _ hfx.2.2.2.2.1
      have q7 : wr.cell? ⟨w.heap.size, 7, none⟩ = some (.slice none 0 0) := cell_of_row wr w.heap.size 7 _ _ (0, 0) hfx.2.2.2.2.1
      have r7 := frozen_of_row wr w.heap.size 7 _ _ hfx.2.2.2.2.1
      have q8 : wr.cell? ⟨w.heap.size, 8, none⟩ = some (.slice none 0 0) := cell_of_row wr w.heap.size 8 _ _ (0, 0) hfx.2.2.2.2.1
      have r8 := frozen_of_row wr w.heap.size 8 _ _ hfx.2.2.2.2.1
      clear hfx hbx hfa hta hdis hFl hTl
      go_wp2
      refine bodyPost_ret (v := .agg #[.slice saf k scf, .int .i64 win, .int .i64 1, .int .i64 0, .slice sal LL.length scl, .bool ag, .slice sag LG.length scg, .slice s7a F.length s7c, .slice s8a T.length s8c]) (by simp [results, Try.results46, go_sem, q0, q1, q2, q3, q4, q5, q6, q7, q8]) rfl ?_
      refine book_end (b := ⟨turn, GF, win, ag, LL, LG, m, F, T⟩) HT.out.1 HT.out.2 HGd.out ⟨HLG.out, hm, hLGl⟩ ⟨HFl.out, hFT.out.1⟩ ⟨HTl.out, hFT.out.2⟩ HX.out hBX.out ?_
      iterate 9 (refine Touch.setCell ?_ _ _ (by simp) (by simp))
      exact Touch.refl _ _ _
/-- a book has been made: n teams -/
def BookIs (w : World) (e : Ending) (w' : World) : Prop :=
  ∃ n b vf vl vg vfa vta, (3 ≤ n ∧ n ≤ 5) ∧ e = .returned (.agg #[vf, .int .i64 b.win, .int .i64 1, .int .i64 0, vl, .bool b.ag, vg, vfa, vta]) ∧ BookI.good n 3 b ∧ BookOwn w.heap.size n b vf vl vg vfa vta w' ∧ Below w.heap.size w w'
theorem BookOwn.form {base n : Nat} {b : BookI} {vf vl vg vfa vta : Value} {w : World} (h : BookOwn base n b vf vl vg vfa vta w) :
    ∃ a1 c1 a2 c2 a3 c3 a4 c4 a5 c5, vf = .slice a1 n c1 ∧ vl = .slice a2 b.lad.length c2 ∧ vg = .slice a3 b.games.length c3 ∧ vfa = .slice a4 b.fair.length c4 ∧ vta = .slice a5 b.taken.length c5 := by
  obtain ⟨⟨xf, h1, _⟩, h2, h3, h4, h5⟩ := h
  obtain ⟨a1, c1, e1⟩ := owns_form h1
  obtain ⟨a2, c2, e2⟩ := owns_form h2
  obtain ⟨a3, c3, e3⟩ := owns_form h3
  obtain ⟨a4, c4, e4⟩ := owns_form h4
  obtain ⟨a5, c5, e5⟩ := owns_form h5
  exact ⟨a1, c1, a2, c2, a3, c3, a4, c4, a5, c5, e1, e2, e3, e4, e5⟩
theorem BookOwn.touch {base lo n : Nat} {b : BookI} {vf vl vg vfa vta : Value} {w w' : World} (h : BookOwn base n b vf vl vg vfa vta w) (T : Touch lo (lo + 1) w w') (hlo : lo + 1 ≤ base) : BookOwn lo n b vf vl vg vfa vta w' := by
  have key : ∀ {e : TypeId} {size m : Nat} {v : Value} {xs : List Value}, w.ownsRow base e size v m xs → w'.ownsRow lo e size v m xs := fun {e size m v xs} ho => owns_mono (owns_touch ho T (InW.of_owns ho) (.inr hlo)) (by omega)
  obtain ⟨⟨xf, h1, h0⟩, h2, h3, h4, h5⟩ := h
  exact ⟨⟨xf, key h1, h0⟩, key h2, key h3, key h4, key h5⟩
set_option maxRecDepth 100000 in
set_option maxHeartbeats 2000000 in
theorem makeBook_any (a : Option Addr) (len cap : Nat) (g : Nat → Nat) (w : World) (hr : ByteRow w a len g) (hg : ∀ i, g i ≤ 255) (hl : len ≤ 1048576) :
    Calls Try.prog 11 #[.slice a len cap] w (BookIs w) := by
  have C := Lib.hid (fun w1 hr => l01New_any a len cap g w1 hr hg hl)
  have L1 := Lib.hid (fun B w1 hc => l01Below_small B a len cap g 3 w1 hc (by omega) (by omega))
  have L2 := Lib.hid (fun B n w1 hc (h1 : 1 ≤ n) (h2 : n ≤ 6) => l07Book_any B a len cap g n 3 w1 hc h1 h2 (by omega))
  have HR := Lib.hid hr
  clear hr hg hl
  go_enter Try.func11, Try.ntmps11
  go_wp2_with fail
  refine (C.out _ (HR.out.below ((Below.refl _ w).alloc (Nat.le_refl _) _) (Nat.le_refl _))).mono ?_
  rintro e w1 ⟨B, rfl, hB, hc, hb⟩
  have hs := hb.size
  have HB := Lib.hid hb
  have HC := Lib.hid hc
  have hBs : w.heap.size + 1 ≤ B := by simpa using hB
  clear C hc hb HR hB
  go_wp2_with fail
  refine (L1.out B _ HC.out).mono ?_
  rintro e w2 ⟨x, hx, rfl, c2, g2⟩
  have C2 := Lib.hid c2
  have HB2 : Hid (Below (w.heap.size + 1) (w.alloc (.cells #[.slice none 0 0, .int .i64 0, .int .i64 0, .int .i64 0, .slice none 0 0, .bool false, .slice none 0 0, .slice none 0 0, .slice none 0 0] 29)) w2) := by
    have h1 := HB.out.grown g2 hs fun k hk => by cases hk; simpa using hBs
    show Below _ _ _
    simpa using h1
  have z2 := g2.size
  clear c2 g2 L1 HC
  go_wp2_with fail
  rw [show (3 : Int) + (x : Int) = ((3 + x : Nat) : Int) by omega]
  refine (L2.out B (3 + x) _ C2.out (by omega) (by omega)).mono ?_
  rintro e w3 ⟨b, vf, vl, vg, vfa, vta, rfl, hgood, hown, c3, g3⟩
  have hz1 : (w.alloc (.cells #[.slice none 0 0, .int .i64 0, .int .i64 0, .int .i64 0, .slice none 0 0, .bool false, .slice none 0 0, .slice none 0 0, .slice none 0 0] 29)).heap.size = w.heap.size + 1 := by simp
  have b3 : Below (w.heap.size + 1) (w.alloc (.cells #[.slice none 0 0, .int .i64 0, .int .i64 0, .int .i64 0, .slice none 0 0, .bool false, .slice none 0 0, .slice none 0 0, .slice none 0 0] 29)) w3 := HB2.out.grown g3 (by omega) fun k hk => by cases hk; exact hBs
  have bz := BoxN.made (u := w) (by rw [hz1]; exact b3) (B := w.heap.size) rfl
  have hlt : w.heap.size < w3.heap.size := bz.1
  have q0 := bz.2 0 _ rfl
  have q1 := bz.2 1 _ rfl
  have q2 := bz.2 2 _ rfl
  have q3 := bz.2 3 _ rfl
  have q4 := bz.2 4 _ rfl
  have q5 := bz.2 5 _ rfl
  have q6 := bz.2 6 _ rfl
  have q7 := bz.2 7 _ rfl
  have q8 := bz.2 8 _ rfl
  have f0 := fun j => BoxN.free (u := w) (by rw [hz1]; exact b3) (B := w.heap.size) rfl j
  have hs2 : w.heap.size + 1 ≤ w2.heap.size := by omega
  obtain ⟨a1, c1, a2, c2, a3, c3', a4, c4, a5, c5, rfl, rfl, rfl, rfl, rfl⟩ := hown.form
  have HO := Lib.hid hown
  have HG := Lib.hid hgood
  have B3 := Lib.hid b3
  clear hown hgood c3 g3 b3 bz hz1 HB HB2 C2 L2 hs
  go_wp2
  refine bodyPost_ret (v := .agg #[.slice a1 (3 + x) c1, .int .i64 b.win, .int .i64 1, .int .i64 0, .slice a2 b.lad.length c2, .bool b.ag, .slice a3 b.games.length c3', .slice a4 b.fair.length c4, .slice a5 b.taken.length c5]) (by simp [results, Try.results11, go_sem, q0, q1, q2, q3, q4, q5, q6, q7, q8]) rfl ?_
  refine ⟨3 + x, b, _, _, _, _, _, by omega, rfl, HG.out, HO.out.touch (lo := w.heap.size) ?_ hs2, ?_⟩
  · iterate 9 (refine Touch.setCell ?_ _ _ (by simp) (by simp))
    exact Touch.refl _ _ _
  · iterate 9 (refine Below.setCell ?_ (by simp) _)
    exact ((Below.refl _ w).alloc (Nat.le_refl _) _).trans (B3.out.mono (by omega))
end Go.Proofs.Ytoingkchjiipgaa
