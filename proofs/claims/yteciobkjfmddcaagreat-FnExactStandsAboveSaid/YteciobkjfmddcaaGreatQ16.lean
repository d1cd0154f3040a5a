/-
  Packed: BookMake2, GamesFacts, RankPlain, Groups.
-/
import Derived.Deep.AppendLies
import Derived.Test.YteciobkjfmddcaaGreatQ4
import Derived.Test.YteciobkjfmddcaaGreatQ7
import Derived.Test.YteciobkjfmddcaaGreatQ11
import Derived.Test.YteciobkjfmddcaaGreatQ13
import Derived.Test.YteciobkjfmddcaaGreatQ14
import Derived.Test.YteciobkjfmddcaaGreatQ15
set_option linter.unusedVariables false
namespace Go.Proofs.YteciobkjfmddcaaGreat
open Go.RowKit

theorem owns_drawn {B : Nat} {w w' : World} {base : Nat} {e : TypeId} {size m : Nat} {v : Value} {xs : List Value} (ho : w.ownsRow base e size v m xs) (hB : B < base) (hg : w.grownBy w' (some B)) : w'.ownsRow base e size v m xs :=
  ho.kept hg (by
    cases hv : v.ownBlock with
    | none => exact .inl rfl
    | some k => exact .inr fun e => by have := (ho.lt k hv).1; simp at e; omega)
def pick4 (i : Nat) : Int := if i = 3 then 1 else 0
theorem pick4_row (w : World) : IntRow (w.alloc (.cells #[.int .i64 0, .int .i64 0, .int .i64 0, .int .i64 1] 3)) (.slice (some ⟨w.heap.size, 0, none⟩) 4 4) 4 pick4 := by
  refine .inr ⟨w.heap.size, 0, 4, rfl, by omega, by omega, fun i hi => ?_, Nat.le_refl _⟩
  rw [Nat.zero_add, cell_of_row _ w.heap.size i _ _ (0, 0) (heap_alloc_new w _)]
  have : i = 0 ∨ i = 1 ∨ i = 2 ∨ i = 3 := by omega
  rcases this with rfl | rfl | rfl | rfl <;> rfl
/-- the data of a made book of n teams -/
structure BookI where
  turn : Nat
  field : Nat → TeamD
  win : Int
  ag : Bool
  lad : List Int
  games : List GameD
  opens : Nat
  fair : List Int
  taken : List Int
def BookI.good (n opn : Nat) (b : BookI) : Prop := (b.turn < n ∧ MadeF n b.turn b.field n) ∧ RulesGood b.win b.lad ∧ (SeaL 0 n b.games b.opens ∧ b.opens ≤ opn ∧ b.games.length ≤ 8 * n) ∧
  (b.fair.length = n ∧ ∀ x ∈ b.fair, 0 ≤ x ∧ x ≤ 3) ∧ (b.taken.length = n ∧ ∀ x ∈ b.taken, x = 0 ∨ x = 1)
/-- the slices of a book's value, and what they hold in memory of the call's own from base on -/
def BookOwn (base n : Nat) (b : BookI) (vf vl vg vfa vta : Value) (w : World) : Prop :=
  (∃ xf, w.ownsRow base 124 3 vf n xf ∧ ∀ t, t < n → xf[t * 3]? = some (.string (b.field t).nm) ∧ xf[t * 3 + 1]? = some (.int .i64 (b.field t).club) ∧ xf[t * 3 + 2]? = some (.int .i64 (b.field t).seed)) ∧
    w.ownsRow base 3 1 vl b.lad.length (b.lad.map (Value.int .i64)) ∧ w.ownsRow base 127 5 vg b.games.length (gcells b.games) ∧ w.ownsRow base 3 1 vfa b.fair.length (b.fair.map (Value.int .i64)) ∧
    w.ownsRow base 3 1 vta b.taken.length (b.taken.map (Value.int .i64))
def BookDrawn (B : Nat) (a : Option Addr) (len cap : Nat) (g : Nat → Nat) (n opn : Nat) (w : World) (e : Ending) (w' : World) : Prop :=
  ∃ b vf vl vg vfa vta, e = .returned (.agg #[vf, .int .i64 b.win, .int .i64 1, .int .i64 0, vl, .bool b.ag, vg, vfa, vta]) ∧ BookI.good n opn b ∧ BookOwn w.heap.size n b vf vl vg vfa vta w' ∧ Cur B a len cap g w' ∧ w.grownBy w' (some B)
theorem book_end {B : Nat} {a : Option Addr} {len cap : Nat} {g : Nat → Nat} {n opn D : Nat} {b : BookI} {vf vl vg vfa vta : Value} {xf : List Value} {w wr w9 : World} (h1 : b.turn < n) (h2 : MadeF n b.turn b.field n) (h3 : RulesGood b.win b.lad) (h4 : SeaL 0 n b.games b.opens ∧ b.opens ≤ opn ∧ b.games.length ≤ 8 * n)
    (h5 : b.fair.length = n ∧ ∀ x ∈ b.fair, 0 ≤ x ∧ x ≤ 3) (h6 : b.taken.length = n ∧ ∀ x ∈ b.taken, x = 0 ∨ x = 1)
    (hx : ∀ t, t < n → xf[t * 3]? = some (.string (b.field t).nm) ∧ xf[t * 3 + 1]? = some (.int .i64 (b.field t).club) ∧ xf[t * 3 + 2]? = some (.int .i64 (b.field t).seed))
    (hB : BkBox B a len cap g w D n vf xf vl b.lad vg b.games b.win b.ag vfa b.fair vta b.taken wr) (T : Touch w.heap.size (w.heap.size + 1) wr w9) :
    BookDrawn B a len cap g n opn w (.returned (.agg #[vf, .int .i64 b.win, .int .i64 1, .int .i64 0, vl, .bool b.ag, vg, vfa, vta])) w9 := by
  obtain ⟨⟨c1, c2, c3, c4, _, c6, c7, c8, _⟩, _, d3, d4, _⟩ := hB
  have key : ∀ {base : Nat} {e : TypeId} {size m : Nat} {v : Value} {xs : List Value}, wr.ownsRow base e size v m xs → w.heap.size + 1 ≤ base → w9.ownsRow w.heap.size e size v m xs := fun {base e size m v xs} ho hb =>
    owns_mono (owns_touch ho T (InW.of_owns ho) (.inr hb)) (by omega)
  have hb : Below w.heap.size wr w9 := T.below (Nat.le_refl _) c6.size
  refine ⟨b, vf, vl, vg, vfa, vta, rfl, ⟨⟨h1, h2⟩, h3, h4, h5, h6⟩, ⟨⟨xf, key c2 (Nat.le_refl _), hx⟩, key c3 (Nat.le_refl _), key c4 (Nat.le_refl _), key d3 (by omega), key d4 (by omega)⟩, c1.belowW hb c7, ?_⟩
  exact ⟨hb.os.trans c6.os, hb.tape.trans c6.tape, hb.output.trans c6.output, Nat.le_trans c6.size hb.size, fun k hk hne => (hb.block k hk).trans (c6.block k hk hne)⟩
set_option maxRecDepth 100000 in
set_option maxHeartbeats 8000000 in
theorem l07Book_any (B : Nat) (a : Option Addr) (len cap : Nat) (g : Nat → Nat) (n opn : Nat) (w : World) (hc : Cur B a len cap g w) (h1 : 1 ≤ n) (hn : n ≤ 6) (ho : opn ≤ 1000) :
    Calls Tryz.prog 29 #[.pointer (some ⟨B, 0, none⟩), .int .i64 (n : Int), .int .i64 (opn : Int)] w (BookDrawn B a len cap g n opn w) := by
  obtain ⟨i0, hi, hz0, hz1, hz2⟩ := info_parts Tryz.infoI
  have hlB := hc.ltW
  have LF := Lib.hid (fun w1 hc => l02Field_any B a len cap g n w1 hc h1 hn)
  have LR := Lib.hid (fun w1 hc => l03Draw_any B a len cap g w1 hc)
  have LS := Lib.hid (fun w1 hc => l04Season_any B a len cap g n opn w1 hc (by omega) h1 ho)
  have LB := Lib.hid (fun w1 hc => l01Below_small B a len cap g 4 w1 hc (by omega) (by omega))
  have LP := Lib.hid (fun v w1 hc hv hB => l01Pick_any B a len cap g v 4 pick4 w1 hc (by omega) (by omega) hv hB)
  have HC := Lib.hid hc
  clear hc
  go_enter Tryz.func29, Tryz.ntmps29
  go_wp2_with fail
  refine (LF.out _ (HC.out.belowW ((Below.refl _ _).alloc (Nat.le_refl _) _) hlB)).mono ?_
  rintro e w1 ⟨vf, GF, turn, xf, rfl, hturn, hmade, of1, hxf, c1, g1⟩
  have R1 : Hid (w1.heap[w.heap.size]? = some (.cells #[.slice none 0 0, .int .i64 0, .int .i64 0, .int .i64 0, .slice none 0 0, .bool false, .slice none 0 0, .slice none 0 0, .slice none 0 0] 29 (0, 0))) := by
    show _ = _
    rw [g1.block _ (by simp) (by intro e; simp at e; omega)]; exact heap_alloc_new w _
  have G1 : Hid (w.grownBy w1 (some B)) := grown_trans (World.grownBy_alloc w _ _) g1
  have z1 : w.heap.size + 1 ≤ w1.heap.size := by have := g1.size; simpa using this
  have OF := Lib.hid (owns_mono of1 (base' := w.heap.size + 1) (by simp))
  have C1 := Lib.hid c1
  have HT := Lib.hid (And.intro hturn hmade)
  have HX := Lib.hid hxf
  clear c1 g1 of1 hturn hmade hxf HC LF
  go_wp2_with fail
  refine (LR.out _ C1.out).mono ?_
  rintro e w2 ⟨vl, win, ag, LL, rfl, hgood, ol2, c2, g2⟩
  have hvf := OF.out.lt
  have R2 : Hid (w2.heap[w.heap.size]? = some (.cells #[.slice none 0 0, .int .i64 0, .int .i64 0, .int .i64 0, .slice none 0 0, .bool false, .slice none 0 0, .slice none 0 0, .slice none 0 0] 29 (0, 0))) := (g2.block _ (by omega) (by intro e; simp at e; omega)).trans R1.out
  have G2 := Lib.hid (grown_trans G1.out g2)
  have z2 := g2.size
  have OF2 := Lib.hid (owns_drawn OF.out (by omega) g2)
  have OL := Lib.hid (owns_mono ol2 (base' := w.heap.size + 1) z1)
  have C2 := Lib.hid c2
  have HGd := Lib.hid hgood
  clear c2 g2 ol2 hgood C1 G1 R1 OF LR
  go_wp2_with fail
  refine (LS.out _ C2.out).mono ?_
  rintro e w3 ⟨vg, LG, m, rfl, hLG, hm, hLGl, og3, c3, g3⟩
  have hvl := OL.out.lt
  have R3 : Hid (w3.heap[w.heap.size]? = some (.cells #[.slice none 0 0, .int .i64 0, .int .i64 0, .int .i64 0, .slice none 0 0, .bool false, .slice none 0 0, .slice none 0 0, .slice none 0 0] 29 (0, 0))) := (g3.block _ (by omega) (by intro e; simp at e; omega)).trans R2.out
  have G3 := Lib.hid (grown_trans G2.out g3)
  have z3 := g3.size
  have OF3 := Lib.hid (owns_drawn OF2.out (by omega) g3)
  have OL3 := Lib.hid (owns_drawn OL.out (by omega) g3)
  have OG3 := Lib.hid (owns_mono og3 (base' := w.heap.size + 1) (by omega))
  have hvg := OG3.out.lt
  have C3 := Lib.hid c3
  have HLG := Lib.hid hLG
  clear c3 g3 og3 hLG C2 G2 R2 OF2 OL LS
  have FX : BkFix B a len cap g w w3.heap.size n vf xf vl LL vg LG (w3.alloc (.cells #[vf, .int .i64 win, .int .i64 1, .int .i64 0, vl, .bool ag, vg, .slice none 0 0, .slice none 0 0] 29)) :=
    have hb := (Below.refl w3.heap.size w3).alloc (Nat.le_refl _) (.cells #[vf, .int .i64 win, .int .i64 1, .int .i64 0, vl, .bool ag, vg, .slice none 0 0, .slice none 0 0] 29)
    ⟨C3.out.belowW hb C3.out.ltW, owns_below OF3.out hb (Nat.le_refl _), owns_below OL3.out hb (Nat.le_refl _), owns_below OG3.out hb (Nat.le_refl _), (hb.block _ (by omega)).trans R3.out, grown_to G3.out hb, hlB, by omega, by simp, fun k hk => by have := (hvf k hk).2; omega, fun k hk => by have := (hvl k hk).2; omega, fun k hk => (hvg k hk).2⟩
  have BX : BkBox B a len cap g w w3.heap.size n vf xf vl LL vg LG win ag (.slice none 0 0) [] (.slice none 0 0) [] (w3.alloc (.cells #[vf, .int .i64 win, .int .i64 1, .int .i64 0, vl, .bool ag, vg, .slice none 0 0, .slice none 0 0] 29)) :=
    ⟨FX, heap_alloc_new w3 _, World.ownsRow_nil _ _ _ _, World.ownsRow_nil _ _ _ _, fun k hk => by simp [Value.ownBlock] at hk⟩
  obtain ⟨saf, scf, rfl⟩ := owns_form OF3.out
  obtain ⟨sal, scl, rfl⟩ := owns_form OL3.out
  obtain ⟨sag, scg, rfl⟩ := owns_form OG3.out
  have HBX := Lib.hid BX
  clear BX FX OF3 OL3 OG3 hvf hvl hvg C3 G3 R3
  go_wp2
  generalize hD : w3.heap.size = D at *
  clear hD z1 z2 z3
  go_loopw [8] (fun i wr => ∃ (k : Nat) (F T : List Int) (vfa vta : Value), k ≤ n ∧ i = .int .i64 k ∧ F.length = k ∧ T.length = k ∧ Hid ((∀ x ∈ F, 0 ≤ x ∧ x ≤ 3) ∧ ∀ x ∈ T, x = 0 ∨ x = 1) ∧ Hid (BkBox B a len cap g w D n (.slice saf n scf) xf (.slice sal LL.length scl) LL (.slice sag LG.length scg) LG win ag vfa F vta T wr)) (fun i _ => n - (intOf i).toNat)
  case atStart => exact ⟨0, [], [], _, _, Nat.zero_le _, rfl, rfl, rfl, ⟨fun x hx => by simp at hx, fun x hx => by simp at hx⟩, HBX.out⟩
  case round =>
    clear HBX
    obtain ⟨k, F, T, vfa, vta, hk, rfl, hFl, hTl, hFT, hBX⟩ := hrel
    have HFl := Lib.hid hFl
    have HTl := Lib.hid hTl
    obtain ⟨s7a, s7c, rfl⟩ := owns_form hBX.out.2.2.1
    obtain ⟨s8a, s8c, rfl⟩ := owns_form hBX.out.2.2.2.1
    by_cases hlt : k < n
    · have hF6 : F.length ≤ 6 := by omega
      have hT6 : T.length ≤ 6 := by omega
      clear hFl hTl
      have k7 := hBX.out.cell 7
      go_wp2_with fail
      refine Await.begin (S := Until 7 fun w' => w'.cell? ⟨D, 7, none⟩ = some (.slice s7a F.length s7c)) (by kernel_rfl) ?_ (fun hS => ?_)
      · exact Until.of k7
      have FE : Hid (∀ wa : World, wa.cell? ⟨D, 7, none⟩ = some (.slice s7a F.length s7c) → wa.cell? ⟨D, 7, none⟩ = some (.slice s7a F.length s7c)) := fun _ h => h
      have hBX0 := Lib.hid (hBX.out.below (Below.refl _ _).drew)
      clear k7
      generalize wr.drew = wd at *
      refine Await.pure (i := 0) (v := ?_) rfl (by kernel_rfl) (by kernel_rfl) (by kernel_rfl) (by kernel_rfl) (fun _ _ _ h => h) (Or.inl ⟨by rfl, ?_⟩) (by assumption) ?_
      rotate_left
      · (intro wa _; go_simp; try with_reducible rfl)
      simp only [Act.put, List.getElem_toArray, List.getElem_cons_zero, List.setIfInBounds_toArray, List.set_cons_zero, List.set_cons_succ]
      refine Await.take (i := 1) (p := 5) (v := ?_) rfl (by kernel_rfl) (by kernel_rfl) (by kernel_rfl) (by kernel_rfl) (fun _ _ _ h => h) (Or.inl ⟨by rfl, ?_⟩) (by assumption) ?_
      rotate_left
      · (intro wa hSw; have hSw2 := FE.out wa hSw; go_simp; try with_reducible rfl)
      simp only [Act.put, List.getElem_toArray, List.getElem_cons_zero, List.getElem_cons_succ, List.setIfInBounds_toArray, List.set_cons_zero, List.set_cons_succ]
      refine Await.pure (i := 2) (v := ?_) rfl (by kernel_rfl) (by kernel_rfl) (by kernel_rfl) (by kernel_rfl) (fun _ _ _ h => h) (Or.inl ⟨by rfl, ?_⟩) (by assumption) ?_
      rotate_left
      · (intro wa _; go_simp; try with_reducible rfl)
      simp only [Act.put, List.getElem_toArray, List.getElem_cons_zero, List.getElem_cons_succ, List.setIfInBounds_toArray, List.set_cons_zero, List.set_cons_succ]
      refine Await.step (i := 3) (o := _) (by kernel_rfl) rfl (fun K1 hK1' => ?_)
      go_simp
      refine (LB.out _ hBX0.out.cur).mono ?_
      rintro e wa ⟨y, hy, rfl, cy, gy⟩
      have hBX1 := Lib.hid (hBX0.out.drawn cy gy)
      clear cy gy hBX0
      (try go_wp2_with fail)
      refine hK1'.out _ _ ?_ (fun hS => ?_)
      · exact Until.of (hBX1.out.cell 7)
      clear hK1' K1
      refine Await.step (i := 4) (o := _) (by kernel_rfl) rfl (fun K1 hK1' => ?_)
      have hBX1b := Lib.hid (hBX1.out.below ((Below.refl _ _).alloc (Nat.le_refl _) (.cells #[.int .i64 (y : Int)] 3)))
      have hn8 := heap_alloc_new wa (.cells #[.int .i64 (y : Int)] 3)
      go_simp
      refine hK1'.out _ _ ?_ (fun hS => ?_)
      · exact Until.of (hBX1b.out.cell 7)
      clear hK1' K1
      generalize hX8 : wa.heap.size = X8 at *
      generalize wa.alloc (.cells #[.int .i64 (y : Int)] 3) = wb at *
      refine Await.step (i := 5) (o := _) (by kernel_rfl) rfl (fun K1 hK1' => ?_)
      refine step_append_lies _ (by rfl) (.tmp 25) (.tmp 28) 24 (by rfl) (D + 1) 3 i0 (.int .i64 0) 1 8 Tryz.underlying24 hi hz0 hz1 hz2 rfl (by decide) (.slice s7a F.length s7c) F.length (F.map (Value.int .i64)) (by rfl) hBX1b.out.2.2.1 ⟨_, 0, none⟩ 1 1 [.int .i64 (y : Int)] (by rfl) (by simp) (by simpa using World.news_of_block hn8) (by intro u hu; simp at hu; subst hu; rfl) (by omega) (by unfold maxLen; omega) (by omega) hBX1b.out.size _ rfl ?_
      intro gg cc wc5 og gg5 at5 lt5
      obtain ⟨⟨e7, f7⟩, hBX2'⟩ := hBX1b.out.fair og gg5 rfl (at5.imp id fun e => Nat.le_of_eq e.symm)
      have hBXf := Lib.hid hBX2'
      clear hBX2' og gg5 at5 hn8
      refine hK1'.out _ _ ?_ (fun hS => ?_)
      · exact Until.of e7
      clear hK1' K1
      refine Await.pure (i := 6) (v := ?_) rfl (by kernel_rfl) (by kernel_rfl) (by kernel_rfl) (by kernel_rfl) (fun _ _ _ h => h) (Or.inl ⟨by rfl, ?_⟩) (by assumption) ?_
      rotate_left
      · (intro wa _; go_simp; try with_reducible rfl)
      simp only [Act.put, List.getElem_toArray, List.getElem_cons_zero, List.getElem_cons_succ, List.setIfInBounds_toArray, List.set_cons_zero, List.set_cons_succ]
      refine Await.step (i := 7) (o := _) (by kernel_rfl) rfl (fun K1 hK1' => ?_)
      go_simp
      refine hK1'.out _ _ ?_ (fun hS => ?_)
      · exact Until.over (by kernel_rfl)
      clear hK1' K1
      refine Await.done (by kernel_rfl) ?_ _
      generalize wc5.setCell ⟨D, 7, none⟩ (.slice (some ⟨gg, 0, none⟩) (F.length + 1) cc) = we at *
      clear e7 f7 hS FE hBX1 hBX1b hBX lt5
      have k8 := hBXf.out.cell 8
      go_wp2_with fail
      refine Await.begin (S := Until 8 fun w' => w'.cell? ⟨D, 8, none⟩ = some (.slice s8a T.length s8c)) (by kernel_rfl) ?_ (fun hS => ?_)
      · exact Until.of k8
      have FE : Hid (∀ wa : World, wa.cell? ⟨D, 8, none⟩ = some (.slice s8a T.length s8c) → wa.cell? ⟨D, 8, none⟩ = some (.slice s8a T.length s8c)) := fun _ h => h
      have hBX0 := Lib.hid (hBXf.out.below (Below.refl _ _).drew)
      clear k8
      generalize we.drew = wd2 at *
      refine Await.pure (i := 0) (v := ?_) rfl (by kernel_rfl) (by kernel_rfl) (by kernel_rfl) (by kernel_rfl) (fun _ _ _ h => h) (Or.inl ⟨by rfl, ?_⟩) (by assumption) ?_
      rotate_left
      · (intro wa _; go_simp; try with_reducible rfl)
      simp only [Act.put, List.getElem_toArray, List.getElem_cons_zero, List.setIfInBounds_toArray, List.set_cons_zero, List.set_cons_succ]
      refine Await.take (i := 1) (p := 6) (v := ?_) rfl (by kernel_rfl) (by kernel_rfl) (by kernel_rfl) (by kernel_rfl) (fun _ _ _ h => h) (Or.inl ⟨by rfl, ?_⟩) (by assumption) ?_
      rotate_left
      · (intro wa hSw; have hSw2 := FE.out wa hSw; go_simp; try with_reducible rfl)
      simp only [Act.put, List.getElem_toArray, List.getElem_cons_zero, List.getElem_cons_succ, List.setIfInBounds_toArray, List.set_cons_zero, List.set_cons_succ]
      refine Await.pure (i := 2) (v := ?_) rfl (by kernel_rfl) (by kernel_rfl) (by kernel_rfl) (by kernel_rfl) (fun _ _ _ h => h) (Or.inl ⟨by rfl, ?_⟩) (by assumption) ?_
      rotate_left
      · (intro wa _; go_simp; try with_reducible rfl)
      simp only [Act.put, List.getElem_toArray, List.getElem_cons_zero, List.getElem_cons_succ, List.setIfInBounds_toArray, List.set_cons_zero, List.set_cons_succ]
      refine Await.step (i := 3) (o := _) (by kernel_rfl) rfl (fun K1 hK1' => ?_)
      have hBX0b := Lib.hid (hBX0.out.below ((Below.refl _ _).alloc (Nat.le_refl _) (.cells #[.int .i64 0, .int .i64 0, .int .i64 0, .int .i64 1] 3)))
      have hpr := pick4_row wd2
      have hnB : (Value.slice (some ⟨wd2.heap.size, 0, none⟩) 4 4).ownBlock ≠ some B := by have := hBX0.out.size; have := hBX0.out.1.2.2.2.2.2.2.1; have := hBX0.out.1.2.2.2.2.2.2.2.1; simp [Value.ownBlock]; omega
      go_simp
      refine hK1'.out _ _ ?_ (fun hS => ?_)
      · exact Until.of (hBX0b.out.cell 8)
      clear hK1' K1
      generalize wd2.heap.size = X7 at *
      generalize wd2.alloc (.cells #[.int .i64 0, .int .i64 0, .int .i64 0, .int .i64 1] 3) = wg at *
      refine Await.step (i := 4) (o := _) (by kernel_rfl) rfl (fun K1 hK1' => ?_)
      go_simp
      refine (LP.out _ _ hBX0b.out.cur hpr hnB).mono ?_
      rintro e wh ⟨⟨z, hz, rfl⟩, cy, gy⟩
      have hBX1 := Lib.hid (hBX0b.out.drawn cy gy)
      clear cy gy hBX0 hBX0b hpr hnB
      generalize hpz : pick4 z = pz at *
      have HPZ := Lib.hid hpz
      clear hpz
      (try go_wp2_with fail)
      refine hK1'.out _ _ ?_ (fun hS => ?_)
      · exact Until.of (hBX1.out.cell 8)
      clear hK1' K1
      refine Await.step (i := 5) (o := _) (by kernel_rfl) rfl (fun K1 hK1' => ?_)
      have hBX1b := Lib.hid (hBX1.out.below ((Below.refl _ _).alloc (Nat.le_refl _) (.cells #[.int .i64 pz] 3)))
      have hn8 := heap_alloc_new wh (.cells #[.int .i64 pz] 3)
      go_simp
      refine hK1'.out _ _ ?_ (fun hS => ?_)
      · exact Until.of (hBX1b.out.cell 8)
      clear hK1' K1
      generalize hX9 : wh.heap.size = X9 at *
      generalize wh.alloc (.cells #[.int .i64 pz] 3) = wi at *
      refine Await.step (i := 6) (o := _) (by kernel_rfl) rfl (fun K1 hK1' => ?_)
      refine step_append_lies _ (by rfl) (.tmp 32) (.tmp 36) 24 (by rfl) (D + 1) 3 i0 (.int .i64 0) 1 8 Tryz.underlying24 hi hz0 hz1 hz2 rfl (by decide) (.slice s8a T.length s8c) T.length (T.map (Value.int .i64)) (by rfl) hBX1b.out.2.2.2.1 ⟨_, 0, none⟩ 1 1 [.int .i64 pz] (by rfl) (by simp) (by simpa using World.news_of_block hn8) (by intro u hu; simp at hu; subst hu; rfl) (by omega) (by unfold maxLen; omega) (by omega) hBX1b.out.size _ rfl ?_
      intro gg2 cc2 wc6 og gg6 at6 lt6
      obtain ⟨⟨e8, f8⟩, hBX2'⟩ := hBX1b.out.taken og gg6 rfl (at6.imp id fun e => Nat.le_of_eq e.symm)
      have hBX2 := Lib.hid hBX2'
      clear hBX2' og gg6 at6 hn8
      refine hK1'.out _ _ ?_ (fun hS => ?_)
      · exact Until.of e8
      clear hK1' K1
      refine Await.pure (i := 7) (v := ?_) rfl (by kernel_rfl) (by kernel_rfl) (by kernel_rfl) (by kernel_rfl) (fun _ _ _ h => h) (Or.inl ⟨by rfl, ?_⟩) (by assumption) ?_
      rotate_left
      · (intro wa _; go_simp; try with_reducible rfl)
      simp only [Act.put, List.getElem_toArray, List.getElem_cons_zero, List.getElem_cons_succ, List.setIfInBounds_toArray, List.set_cons_zero, List.set_cons_succ]
      refine Await.step (i := 8) (o := _) (by kernel_rfl) rfl (fun K1 hK1' => ?_)
      go_simp
      refine hK1'.out _ _ ?_ (fun hS => ?_)
      · exact Until.over (by kernel_rfl)
      clear hK1' K1
      refine Await.done (by kernel_rfl) ?_ _
      generalize wc6.setCell ⟨D, 8, none⟩ (.slice (some ⟨gg2, 0, none⟩) (T.length + 1) cc2) = wj at *
      clear e8 f8 hS FE hBX1 hBX1b hBXf lt6
      rw [← HPZ.out] at hBX2
      go_wp2
      go_roundw
      case rel => exact ⟨k + 1, F ++ [(y : Int)], T ++ [pick4 z], _, _, by omega, by go_num, by simp; exact HFl.out, by simp; exact HTl.out, ⟨fun x hx => by
        rw [List.mem_append, List.mem_singleton] at hx
        rcases hx with hx | rfl
        · exact hFT.out.1 x hx
        · omega, fun x hx => by
        rw [List.mem_append, List.mem_singleton] at hx
        rcases hx with hx | rfl
        · exact hFT.out.2 x hx
        · unfold pick4; split <;> omega⟩, hBX2⟩
      case measure => simp [intOf]; omega
    · obtain rfl : k = n := by omega
      obtain ⟨hfx, hbx, hfa, hta, hdis⟩ := hBX.out
      have hRlt : w.heap.size < wr.heap.size := (Array.getElem?_eq_some_iff.1 hfx.2.2.2.2.1).1
      have hDlt : D < wr.heap.size := (Array.getElem?_eq_some_iff.1 hbx).1
      have hRD : w.heap.size < D := hfx.2.2.2.2.2.2.2.1
      have n1 : ¬ (w.heap.size = D) := by omega
      have n2 : ¬ (D = w.heap.size) := by omega
      have k0 : wr.cell? ⟨D, 0, none⟩ = some (.slice saf k scf) := cell_of_row wr D 0 _ _ (0, 0) hbx
      have k1 : wr.cell? ⟨D, 1, none⟩ = some (.int .i64 win) := cell_of_row wr D 1 _ _ (0, 0) hbx
      have k2 : wr.cell? ⟨D, 2, none⟩ = some (.int .i64 1) := cell_of_row wr D 2 _ _ (0, 0) hbx
      have k3 : wr.cell? ⟨D, 3, none⟩ = some (.int .i64 0) := cell_of_row wr D 3 _ _ (0, 0) hbx
      have k4 : wr.cell? ⟨D, 4, none⟩ = some (.slice sal LL.length scl) := cell_of_row wr D 4 _ _ (0, 0) hbx
      have k5 : wr.cell? ⟨D, 5, none⟩ = some (.bool ag) := cell_of_row wr D 5 _ _ (0, 0) hbx
      have k6 : wr.cell? ⟨D, 6, none⟩ = some (.slice sag LG.length scg) := cell_of_row wr D 6 _ _ (0, 0) hbx
      have k7 : wr.cell? ⟨D, 7, none⟩ = some (.slice s7a F.length s7c) := cell_of_row wr D 7 _ _ (0, 0) hbx
      have k8 : wr.cell? ⟨D, 8, none⟩ = some (.slice s8a T.length s8c) := cell_of_row wr D 8 _ _ (0, 0) hbx
      have q0 : wr.cell? ⟨w.heap.size, 0, none⟩ = some (.slice none 0 0) := cell_of_row wr w.heap.size 0 _ _ (0, 0) hfx.2.2.2.2.1
      have r0 := frozen_of_row wr w.heap.size 0 _ _ hfx.2.2.2.2.1
      have q1 : wr.cell? ⟨w.heap.size, 1, none⟩ = some (.int .i64 0) := cell_of_row wr w.heap.size 1 _ _ (0, 0) hfx.2.2.2.2.1
      have r1 := frozen_of_row wr w.heap.size 1 _ _ hfx.2.2.2.2.1
      have q2 : wr.cell? ⟨w.heap.size, 2, none⟩ = some (.int .i64 0) := cell_of_row wr w.heap.size 2 _ _ (0, 0) hfx.2.2.2.2.1
      have r2 := frozen_of_row wr w.heap.size 2 _ _ hfx.2.2.2.2.1
      have q3 : wr.cell? ⟨w.heap.size, 3, none⟩ = some (.int .i64 0) := cell_of_row wr w.heap.size 3 _ _ (0, 0) hfx.2.2.2.2.1
      have r3 := frozen_of_row wr w.heap.size 3 _ _ hfx.2.2.2.2.1
      have q4 : wr.cell? ⟨w.heap.size, 4, none⟩ = some (.slice none 0 0) := cell_of_row wr w.heap.size 4 _ _ (0, 0) hfx.2.2.2.2.1
      have r4 := frozen_of_row wr w.heap.size 4 _ _ hfx.2.2.2.2.1
      have q5 : wr.cell? ⟨w.heap.size, 5, none⟩ = some (.bool false) := cell_of_row wr w.heap.size 5 _ _ (0, 0) hfx.2.2.2.2.1
      have r5 := frozen_of_row wr w.heap.size 5 _ _ hfx.2.2.2.2.1
      have q6 : wr.cell? ⟨w.heap.size, 6, none⟩ = some (.slice none 0 0) := cell_of_row wr w.heap.size 6 _ _ (0, 0) hfx.2.2.2.2.1
      have r6 := frozen_of_row wr w.heap.size 6 _ _ hfx.2.2.2.2.1
      have q7 : wr.cell? ⟨w.heap.size, 7, none⟩ = some (.slice none 0 0) := cell_of_row wr w.heap.size 7 _ _ (0, 0) hfx.2.2.2.2.1
      have r7 := frozen_of_row wr w.heap.size 7 _ _ hfx.2.2.2.2.1
      have q8 : wr.cell? ⟨w.heap.size, 8, none⟩ = some (.slice none 0 0) := cell_of_row wr w.heap.size 8 _ _ (0, 0) hfx.2.2.2.2.1
      have r8 := frozen_of_row wr w.heap.size 8 _ _ hfx.2.2.2.2.1
      clear hfx hbx hfa hta hdis hFl hTl
      go_wp2
      refine bodyPost_ret (v := .agg #[.slice saf k scf, .int .i64 win, .int .i64 1, .int .i64 0, .slice sal LL.length scl, .bool ag, .slice sag LG.length scg, .slice s7a F.length s7c, .slice s8a T.length s8c]) (by simp [results, Tryz.results29, go_sem, q0, q1, q2, q3, q4, q5, q6, q7, q8]) rfl ?_
      refine book_end (b := ⟨turn, GF, win, ag, LL, LG, m, F, T⟩) HT.out.1 HT.out.2 HGd.out ⟨HLG.out, hm, hLGl⟩ ⟨HFl.out, hFT.out.1⟩ ⟨HTl.out, hFT.out.2⟩ HX.out hBX.out ?_
      iterate 9 (refine Touch.setCell ?_ _ _ (by simp) (by simp))
      exact Touch.refl _ _ _
/-- a book has been made: n teams -/
def BookIs (w : World) (e : Ending) (w' : World) : Prop :=
  ∃ n b vf vl vg vfa vta, (3 ≤ n ∧ n ≤ 5) ∧ e = .returned (.agg #[vf, .int .i64 b.win, .int .i64 1, .int .i64 0, vl, .bool b.ag, vg, vfa, vta]) ∧ BookI.good n 3 b ∧ BookOwn w.heap.size n b vf vl vg vfa vta w' ∧ Below w.heap.size w w'
theorem BookOwn.form {base n : Nat} {b : BookI} {vf vl vg vfa vta : Value} {w : World} (h : BookOwn base n b vf vl vg vfa vta w) :
    ∃ a1 c1 a2 c2 a3 c3 a4 c4 a5 c5, vf = .slice a1 n c1 ∧ vl = .slice a2 b.lad.length c2 ∧ vg = .slice a3 b.games.length c3 ∧ vfa = .slice a4 b.fair.length c4 ∧ vta = .slice a5 b.taken.length c5 := by
  obtain ⟨⟨xf, h1, _⟩, h2, h3, h4, h5⟩ := h
  obtain ⟨a1, c1, e1⟩ := owns_form h1
  obtain ⟨a2, c2, e2⟩ := owns_form h2
  obtain ⟨a3, c3, e3⟩ := owns_form h3
  obtain ⟨a4, c4, e4⟩ := owns_form h4
  obtain ⟨a5, c5, e5⟩ := owns_form h5
  exact ⟨a1, c1, a2, c2, a3, c3, a4, c4, a5, c5, e1, e2, e3, e4, e5⟩
theorem BookOwn.touch {base lo n : Nat} {b : BookI} {vf vl vg vfa vta : Value} {w w' : World} (h : BookOwn base n b vf vl vg vfa vta w) (T : Touch lo (lo + 1) w w') (hlo : lo + 1 ≤ base) : BookOwn lo n b vf vl vg vfa vta w' := by
  have key : ∀ {e : TypeId} {size m : Nat} {v : Value} {xs : List Value}, w.ownsRow base e size v m xs → w'.ownsRow lo e size v m xs := fun {e size m v xs} ho => owns_mono (owns_touch ho T (InW.of_owns ho) (.inr hlo)) (by omega)
  obtain ⟨⟨xf, h1, h0⟩, h2, h3, h4, h5⟩ := h
  exact ⟨⟨xf, key h1, h0⟩, key h2, key h3, key h4, key h5⟩
set_option maxRecDepth 100000 in
set_option maxHeartbeats 2000000 in
theorem makeBook_any (a : Option Addr) (len cap : Nat) (g : Nat → Nat) (w : World) (hr : ByteRow w a len g) (hg : ∀ i, g i ≤ 255) (hl : len ≤ 1048576) :
    Calls Tryz.prog 7 #[.slice a len cap] w (BookIs w) := by
  have C := Lib.hid (fun w1 hr => l01New_any a len cap g w1 hr hg hl)
  have L1 := Lib.hid (fun B w1 hc => l01Below_small B a len cap g 3 w1 hc (by omega) (by omega))
  have L2 := Lib.hid (fun B n w1 hc (h1 : 1 ≤ n) (h2 : n ≤ 6) => l07Book_any B a len cap g n 3 w1 hc h1 h2 (by omega))
  have HR := Lib.hid hr
  clear hr hg hl
  go_enter Tryz.func7, Tryz.ntmps7
  go_wp2_with fail
  refine (C.out _ (HR.out.below ((Below.refl _ w).alloc (Nat.le_refl _) _) (Nat.le_refl _))).mono ?_
  rintro e w1 ⟨B, rfl, hB, hc, hb⟩
  have hs := hb.size
  have HB := Lib.hid hb
  have HC := Lib.hid hc
  have hBs : w.heap.size + 1 ≤ B := by simpa using hB
  clear C hc hb HR hB
  go_wp2_with fail
  refine (L1.out B _ HC.out).mono ?_
  rintro e w2 ⟨x, hx, rfl, c2, g2⟩
  have C2 := Lib.hid c2
  have HB2 : Hid (Below (w.heap.size + 1) (w.alloc (.cells #[.slice none 0 0, .int .i64 0, .int .i64 0, .int .i64 0, .slice none 0 0, .bool false, .slice none 0 0, .slice none 0 0, .slice none 0 0] 29)) w2) := by
    have h1 := HB.out.grown g2 hs fun k hk => by cases hk; simpa using hBs
    show Below _ _ _
    simpa using h1
  have z2 := g2.size
  clear c2 g2 L1 HC
  go_wp2_with fail
  rw [show (3 : Int) + (x : Int) = ((3 + x : Nat) : Int) by omega]
  refine (L2.out B (3 + x) _ C2.out (by omega) (by omega)).mono ?_
  rintro e w3 ⟨b, vf, vl, vg, vfa, vta, rfl, hgood, hown, c3, g3⟩
  have hz1 : (w.alloc (.cells #[.slice none 0 0, .int .i64 0, .int .i64 0, .int .i64 0, .slice none 0 0, .bool false, .slice none 0 0, .slice none 0 0, .slice none 0 0] 29)).heap.size = w.heap.size + 1 := by simp
  have b3 : Below (w.heap.size + 1) (w.alloc (.cells #[.slice none 0 0, .int .i64 0, .int .i64 0, .int .i64 0, .slice none 0 0, .bool false, .slice none 0 0, .slice none 0 0, .slice none 0 0] 29)) w3 := HB2.out.grown g3 (by omega) fun k hk => by cases hk; exact hBs
  have bz := BoxN.made (u := w) (by rw [hz1]; exact b3) (B := w.heap.size) rfl
  have hlt : w.heap.size < w3.heap.size := bz.1
  have q0 := bz.2 0 _ rfl
  have q1 := bz.2 1 _ rfl
  have q2 := bz.2 2 _ rfl
  have q3 := bz.2 3 _ rfl
  have q4 := bz.2 4 _ rfl
  have q5 := bz.2 5 _ rfl
  have q6 := bz.2 6 _ rfl
  have q7 := bz.2 7 _ rfl
  have q8 := bz.2 8 _ rfl
  have f0 := fun j => BoxN.free (u := w) (by rw [hz1]; exact b3) (B := w.heap.size) rfl j
  have hs2 : w.heap.size + 1 ≤ w2.heap.size := by omega
  obtain ⟨a1, c1, a2, c2, a3, c3', a4, c4, a5, c5, rfl, rfl, rfl, rfl, rfl⟩ := hown.form
  have HO := Lib.hid hown
  have HG := Lib.hid hgood
  have B3 := Lib.hid b3
  clear hown hgood c3 g3 b3 bz hz1 HB HB2 C2 L2 hs
  go_wp2
  refine bodyPost_ret (v := .agg #[.slice a1 (3 + x) c1, .int .i64 b.win, .int .i64 1, .int .i64 0, .slice a2 b.lad.length c2, .bool b.ag, .slice a3 b.games.length c3', .slice a4 b.fair.length c4, .slice a5 b.taken.length c5]) (by simp [results, Tryz.results7, go_sem, q0, q1, q2, q3, q4, q5, q6, q7, q8]) rfl ?_
  refine ⟨3 + x, b, _, _, _, _, _, by omega, rfl, HG.out, HO.out.touch (lo := w.heap.size) ?_ hs2, ?_⟩
  · iterate 9 (refine Touch.setCell ?_ _ _ (by simp) (by simp))
    exact Touch.refl _ _ _
  · iterate 9 (refine Below.setCell ?_ (by simp) _)
    exact ((Below.refl _ w).alloc (Nat.le_refl _) _).trans (B3.out.mono (by omega))
end Go.Proofs.YteciobkjfmddcaaGreat
set_option linter.unusedVariables false
namespace Go.Proofs.YteciobkjfmddcaaGreat
open Go.RowKit

theorem idxL_mem (p : Nat → Bool) (k : Nat) : ∀ n, (k : Int) ∈ idxL p n ↔ k < n ∧ p k = true := by
  intro n
  induction n with
  | zero => simp [idxL]
  | succ n ih =>
    unfold idxL
    by_cases h : p n = true
    · rw [if_pos h, List.mem_append, ih, List.mem_singleton]
      constructor
      · rintro (⟨h1, h2⟩ | h1)
        · exact ⟨by omega, h2⟩
        · obtain rfl : k = n := by omega
          exact ⟨by omega, h⟩
      · rintro ⟨h1, h2⟩
        by_cases e : k = n
        · exact .inr (by rw [e])
        · exact .inl ⟨by omega, h2⟩
    · rw [if_neg h, ih]
      constructor
      · rintro ⟨h1, h2⟩; exact ⟨by omega, h2⟩
      · rintro ⟨h1, h2⟩
        have : k ≠ n := fun e => h (e ▸ h2)
        exact ⟨by omega, h2⟩
theorem has_any (v : Value) (n : Nat) (g : Nat → Int) (x : Int) (R : Bool) (w : World) (hR : R = true ↔ hasP g x n) (h : IntRow w v n g) :
    Calls Tryz.prog 12 #[v, .int .i64 x] w fun e w' => e = .returned (.bool R) ∧ Below w.heap.size w w' := by
  obtain ⟨a, cap, rfl, hn, hv⟩ := h.form
  have HV := Lib.hid hv
  have HN : Hid (∀ k, k < n → g k = x → R = true) := fun k hk he => hR.2 ⟨k, hk, he⟩
  have HE : Hid ((∀ j, j < n → g j ≠ x) → R = false) := fun hno => by
    cases R with
    | false => rfl
    | true => obtain ⟨j, hj, he⟩ := hR.1 rfl; exact absurd he (hno j hj)
  clear hv h hR
  go_enter Tryz.func12, Tryz.ntmps12
  go_wp2
  go_loop [9] (fun i => ∃ k : Nat, k ≤ n ∧ i = .int .i64 k ∧ Hid (∀ j, j < k → g j ≠ x)) (fun i => n - (intOf i).toNat)
  case atStart => exact ⟨0, Nat.zero_le _, rfl, fun j hj => absurd hj (by omega)⟩
  case round =>
    obtain ⟨k, hk, rfl, hno⟩ := hrel
    by_cases hlt : k < n
    · obtain ⟨b, off, rfl, hc⟩ := HV.out (by omega)
      have c1 := hc k hlt
      have H1 := Lib.hid (HN.out k hlt)
      have H2 : Hid (g k ≠ x → ∀ j, j < k + 1 → g j ≠ x) := fun h j hj => by
        by_cases hjk : j = k
        · rw [hjk]; exact h
        · exact hno.out j (by omega)
      clear hc HV hno HN HE
      generalize g k = y at *
      by_cases hx : y = x
      · obtain rfl := H1.out hx
        have g1 : (y == x) = true := by simpa using hx
        have HX := Lib.hid hx
        clear H1 H2 hx
        go_wp2
        go_ret
        exact ⟨rfl, Below.refl _ _⟩
      · have g1 : (y == x) = false := beq_eq_false_iff_ne.2 hx
        have HX := Lib.hid (H2.out hx)
        clear H1 H2 hx
        go_wp2
        go_round
        case rel => exact ⟨k + 1, by omega, by go_num, HX.out⟩
        case measure => simp [intOf]; omega
    · obtain rfl : k = n := by omega
      obtain rfl := HE.out hno.out
      clear hno HN HE
      go_wp2
      go_ret
      exact ⟨rfl, Below.refl _ _⟩
/-- the games of a list -/
def getG (L : List GameD) (i : Nat) : GameD := L.getD i default
theorem getG_mem {L : List GameD} {i : Nat} (h : i < L.length) : getG L i ∈ L := by
  simp only [getG, List.getD_eq_getElem?_getD, List.getElem?_eq_getElem h, Option.getD_some]; exact List.getElem_mem h
theorem gcells_at (L : List GameD) : RecCells 5 L.length (gcells L) fun i => (getG L i).cells := by
  have hrec : ∀ (M : List GameD) (i : Nat), i < M.length → ∀ j u, (getG M i).cells[j]? = some u → (gcells M)[i * 5 + j]? = some u := by
    intro M
    induction M with
    | nil => intro i hi; simp at hi
    | cons x l ih =>
      intro i hi j u hu
      have hj : j < 5 := (List.getElem?_eq_some_iff.1 hu).1
      cases i with
      | zero =>
        have : gcells (x :: l) = x.cells ++ gcells l := by simp [gcells]
        rw [this, List.getElem?_append_left (by show 0 * 5 + j < 5; omega), Nat.zero_mul, Nat.zero_add]
        exact hu
      | succ i =>
        have : gcells (x :: l) = x.cells ++ gcells l := by simp [gcells]
        rw [this, List.getElem?_append_right (by show 5 ≤ (i + 1) * 5 + j; omega), show (i + 1) * 5 + j - x.cells.length = i * 5 + j by show (i + 1) * 5 + j - 5 = _; omega]
        exact ih i (by simpa using hi) j u hu
  exact hrec L
theorem GameRow.of_list {w : World} {base : Nat} {e : TypeId} {v : Value} {L : List GameD} (h : w.ownsRow base e 5 v L.length (gcells L)) (hn : L.length ≤ 9223372036854775807) : GameRow w v L.length (getG L) :=
  GameRow.of_owns h hn (gcells_at L)
theorem sea_game {n : Nat} {L : List GameD} {m : Nat} (h : SeaL 0 n L m) (hn : 2 ≤ n) (hn8 : n ≤ 8) (i : Nat) (hi : i < L.length) : gameP n (getG L i) := by
  obtain ⟨h1, h2, h3⟩ := h.1 _ (getG_mem hi)
  exact ⟨by omega, by omega, by omega, by omega, h2, by omega⟩
theorem sea_first {n : Nat} {L : List GameD} {m : Nat} (h : SeaL 0 n L m) (i : Nat) (hi : i < L.length) : firstI (atG (getG L) (getG L i).home (getG L i).away) L.length 0 = (i : Int) := by
  refine (firstI_eq L.length 0 i).2 ⟨by omega, by simp [atG], fun j _ hj => ?_⟩
  have hp := List.pairwise_iff_getElem.1 h.2.1 j i (by omega) hi hj
  have ej : getG L j = L[j]'(by omega) := by simp only [getG, List.getD_eq_getElem?_getD, List.getElem?_eq_getElem (show j < L.length by omega), Option.getD_some]
  have ei : getG L i = L[i] := by simp only [getG, List.getD_eq_getElem?_getD, List.getElem?_eq_getElem hi, Option.getD_some]
  unfold atG
  rw [ej, ei]
  rw [Bool.and_eq_false_iff, beq_eq_false_iff_ne, beq_eq_false_iff_ne]
  by_cases e : (L[j]'(by omega)).home = L[i].home
  · exact .inr fun e2 => hp.1 ⟨e, e2⟩
  · exact .inl e
theorem sea_season {n : Nat} {L : List GameD} {m : Nat} (h : SeaL 0 n L m) (hn : 2 ≤ n) (hn8 : n ≤ 8) (hl : L.length ≤ 60) : seasonP n L.length (getG L) :=
  ⟨hl, fun i hi => ⟨sea_game h hn hn8 i hi, sea_first h i hi⟩⟩
theorem play_outcome (t : GameD) (o : Int) (h : 1 ≤ o ∧ o ≤ 3) : outcomeD (playD t o) = o := by
  have : o = 1 ∨ o = 2 ∨ o = 3 := by omega
  unfold outcomeD playD
  rcases this with rfl | rfl | rfl <;> simp [goalsD]
theorem play_game {n : Int} {t : GameD} (o : Int) (h : 1 ≤ o ∧ o ≤ 3) (hg : gameP n t) : gameP n (playD t o) := by
  obtain ⟨h1, h2, h3, h4, h5, h6⟩ := hg
  have : o = 1 ∨ o = 2 ∨ o = 3 := by omega
  unfold playD
  rw [if_pos h]
  exact ⟨h1, h2, h3, h4, by simp, .inl ⟨rfl, by simp only; split <;> omega, by simp only; split <;> omega⟩⟩
theorem play_teams (t : GameD) (o : Int) : (playD t o).home = t.home ∧ (playD t o).away = t.away := by
  unfold playD
  split <;> exact ⟨rfl, rfl⟩
theorem play_closed (t : GameD) (o : Int) (h : 1 ≤ o ∧ o ≤ 3) : ((playD t o).st == 0) = false := by
  unfold playD; rw [if_pos h]; rfl
theorem play_none (t : GameD) : playD t 0 = t := by unfold playD; rw [if_neg (by omega)]
end Go.Proofs.YteciobkjfmddcaaGreat
set_option linter.unusedVariables false
namespace Go.Proofs.YteciobkjfmddcaaGreat
open Go.RowKit

theorem insP_perm (v t : Int) : ∀ L : List (Int × List Int), ((insP v t L).flatMap Prod.snd).Perm (t :: L.flatMap Prod.snd)
  | [] => by simp [insP]
  | (u, p) :: r => by
    unfold insP
    split
    · simp only [List.flatMap_cons]
      exact ((insP_perm v t r).append_left p).trans List.perm_middle
    · split
      · simp only [List.flatMap_cons]
        rw [List.append_assoc]
        exact List.perm_middle
      · simp
theorem splitP_perm (V gg : Nat → Int) : ∀ k, ((splitP V gg k).flatMap Prod.snd).Perm ((List.range k).map gg)
  | 0 => by simp [splitP]
  | k + 1 => by
    unfold splitP
    rw [List.range_succ, List.map_append]
    exact (insP_perm _ _ _).trans (((splitP_perm V gg k).cons _).trans (List.perm_append_singleton _ _).symm)
theorem range_getI (G : List Int) : (List.range G.length).map (getI G) = G := by
  apply List.ext_getElem?
  intro j
  rw [List.getElem?_map]
  by_cases hj : j < G.length
  · rw [List.getElem?_range hj]; simp [getI, hj]
  · rw [List.getElem?_eq_none (by simp; omega), List.getElem?_eq_none (by omega)]; rfl
theorem parts_perm (b : BookD) (key : Int) (G : List Int) : (partsL b key (getI G) G.length).flatten.Perm G := by
  have h := splitP_perm (bookV b key (getI G) G.length) (getI G) G.length
  rw [range_getI] at h
  unfold partsL
  rw [← List.flatMap_def]
  exact h
theorem insP_val {V : Nat → Int} {v t : Int} (ht : V t.toNat = v) : ∀ L : List (Int × List Int), (∀ x ∈ L, ∀ u ∈ x.2, V u.toNat = x.1) → ∀ x ∈ insP v t L, ∀ u ∈ x.2, V u.toNat = x.1
  | [], _, x, hx, u, hu => by
    unfold insP at hx
    rw [List.mem_singleton.1 hx] at hu ⊢
    rw [List.mem_singleton.1 hu]; exact ht
  | (q, p) :: r, h, x, hx, u, hu => by
    have hr : ∀ x ∈ r, ∀ u ∈ x.2, V u.toNat = x.1 := fun x hx => h x (List.mem_cons_of_mem _ hx)
    have h0 := h (q, p) (List.mem_cons_self ..)
    unfold insP at hx
    split at hx
    · rcases List.mem_cons.1 hx with rfl | hx
      · exact h0 u hu
      · exact insP_val ht r hr x hx u hu
    · split at hx
      · next hq =>
        rcases List.mem_cons.1 hx with rfl | hx
        · rcases List.mem_append.1 hu with hu | hu
          · exact h0 u hu
          · rw [List.mem_singleton.1 hu, ht]; exact hq.symm
        · exact hr x hx u hu
      · rcases List.mem_cons.1 hx with rfl | hx
        · rw [List.mem_singleton.1 hu]; exact ht
        · exact h x hx u hu
theorem splitP_val (V gg : Nat → Int) : ∀ k, ∀ x ∈ splitP V gg k, ∀ u ∈ x.2, V u.toNat = x.1
  | 0, x, hx => by cases hx
  | k + 1, x, hx => insP_val rfl _ (splitP_val V gg k) x hx
theorem insP_fst {v t : Int} : ∀ L : List (Int × List Int), ∀ x ∈ insP v t L, x.1 = v ∨ ∃ y ∈ L, y.1 = x.1
  | [], x, hx => by unfold insP at hx; rw [List.mem_singleton.1 hx]; exact .inl rfl
  | (q, p) :: r, x, hx => by
    unfold insP at hx
    split at hx
    · rcases List.mem_cons.1 hx with rfl | hx
      · exact .inr ⟨_, List.mem_cons_self .., rfl⟩
      · rcases insP_fst r x hx with h | ⟨y, hy, h⟩
        · exact .inl h
        · exact .inr ⟨y, List.mem_cons_of_mem _ hy, h⟩
    · split at hx
      · rcases List.mem_cons.1 hx with rfl | hx
        · exact .inr ⟨_, List.mem_cons_self .., rfl⟩
        · exact .inr ⟨x, List.mem_cons_of_mem _ hx, rfl⟩
      · rcases List.mem_cons.1 hx with rfl | hx
        · exact .inl rfl
        · exact .inr ⟨x, hx, rfl⟩
theorem insP_desc {v t : Int} : ∀ L : List (Int × List Int), L.Pairwise (fun a b => b.1 < a.1) → (insP v t L).Pairwise (fun a b => b.1 < a.1)
  | [], _ => by simp [insP]
  | (q, p) :: r, h => by
    have h1 := List.pairwise_cons.1 h
    unfold insP
    split
    · next hv =>
      refine List.pairwise_cons.2 ⟨fun x hx => ?_, insP_desc r h1.2⟩
      rcases insP_fst r x hx with e | ⟨y, hy, e⟩
      · rw [e]; exact hv
      · rw [← e]; exact h1.1 y hy
    · split
      · exact List.pairwise_cons.2 ⟨h1.1, h1.2⟩
      · next hv hq =>
        refine List.pairwise_cons.2 ⟨fun x hx => ?_, h⟩
        rcases List.mem_cons.1 hx with rfl | hx
        · show q < v; omega
        · have := h1.1 x hx
          show x.1 < v
          have h3 : x.1 < q := this
          omega
theorem splitP_desc (V gg : Nat → Int) : ∀ k, (splitP V gg k).Pairwise (fun a b => b.1 < a.1)
  | 0 => List.Pairwise.nil
  | k + 1 => insP_desc _ (splitP_desc V gg k)
theorem flat_flat {α β : Type} (f : α → List (List β)) : ∀ L : List α, (L.flatMap f).flatten = L.flatMap fun x => (f x).flatten
  | [] => rfl
  | x :: L => by rw [List.flatMap_cons, List.flatten_append, List.flatMap_cons, flat_flat f L]
theorem flat_perm {f : List Int → List Int} : ∀ L : List (List Int), (∀ p ∈ L, (f p).Perm p) → (L.flatMap f).Perm L.flatten
  | [], _ => List.Perm.refl _
  | p :: L, h => by
    rw [List.flatMap_cons, List.flatten_cons]
    exact (h p (List.mem_cons_self ..)).append (flat_perm L fun q hq => h q (List.mem_cons_of_mem _ hq))
theorem rank_perm (b : BookD) : ∀ G s, (rankP b G s).flatten.Perm G := by
  refine rankP_ind b (P := fun G _ L => L.flatten.Perm G) (fun s => by simp) (fun G s _ _ => by simp) fun G s hG h1 hs ih => ?_
  show (rankP b G s).flatten.Perm G
  rw [rankP_step b hG h1 hs, flat_flat]
  exact (flat_perm _ fun p hp => ih p hp).trans (parts_perm b _ G)
/-- the seeds part any two teams -/
def seedI (b : BookD) : Prop := ∀ i j, i < b.nf → j < b.nf → ∀ gg n, bookV b 8 gg n i = bookV b 8 gg n j → i = j
theorem same_one {p : List Int} {V : Nat → Int} {v : Int} {n : Nat} (hne : p ≠ []) (hnd : p.Nodup) (hv : ∀ u ∈ p, V u.toNat = v) (hin : ∀ u ∈ p, 0 ≤ u ∧ u < (n : Int)) (hV : ∀ i j, i < n → j < n → V i = V j → i = j) : p.length = 1 := by
  match p, hne, hnd, hv, hin with
  | [], h, _, _, _ => exact absurd rfl h
  | [x], _, _, _, _ => rfl
  | x :: y :: r, _, hnd, hv, hin =>
    have hx := hin x (List.mem_cons_self ..)
    have hy := hin y (List.mem_cons_of_mem _ (List.mem_cons_self ..))
    have e := hV x.toNat y.toNat (by omega) (by omega) ((hv x (List.mem_cons_self ..)).trans (hv y (List.mem_cons_of_mem _ (List.mem_cons_self ..))).symm)
    have : x = y := by omega
    subst this
    simp at hnd
theorem parts_in {b : BookD} {key : Int} {G p : List Int} (hp : p ∈ partsL b key (getI G) G.length) : ∀ u ∈ p, u ∈ G := fun u hu => by
  have h := parts_perm b key G
  exact h.mem_iff.1 (List.mem_flatten.2 ⟨p, hp, hu⟩)
theorem parts_nodup {b : BookD} {key : Int} {G p : List Int} (hG : G.Nodup) (hp : p ∈ partsL b key (getI G) G.length) : p.Nodup := by
  have h := (parts_perm b key G).nodup_iff.2 hG
  exact (List.pairwise_flatten.1 h).1 p hp
theorem rank_ones (b : BookD) (hsd : seedI b) : ∀ G s, G.Nodup → (∀ u ∈ G, 0 ≤ u ∧ u < (b.nf : Int)) → (∃ j, s ≤ j ∧ j < b.nl ∧ b.l j = 8) → ∀ p ∈ rankP b G s, p.length = 1 := by
  refine rankP_ind b (P := fun G s L => G.Nodup → (∀ u ∈ G, 0 ≤ u ∧ u < (b.nf : Int)) → (∃ j, s ≤ j ∧ j < b.nl ∧ b.l j = 8) → ∀ p ∈ L, p.length = 1) (fun s _ _ _ p hp => by cases hp) (fun G s hG h1 _ _ hj p hp => ?_) fun G s hG h1 hs ih hnd hin hj => ?_
  · obtain ⟨j, hj1, hj2, _⟩ := hj
    rw [List.mem_singleton.1 hp]
    rcases h1 with h1 | h1
    · exact h1
    · omega
  · show ∀ p ∈ rankP b G s, p.length = 1
    rw [rankP_step b hG h1 hs]
    intro q hq
    obtain ⟨p, hp, hqp⟩ := List.mem_flatMap.1 hq
    have hpn := parts_nodup hnd hp
    have hpi : ∀ u ∈ p, 0 ≤ u ∧ u < (b.nf : Int) := fun u hu => hin u (parts_in hp u hu)
    by_cases h8 : b.l s = 8
    · have hp1 : p.length = 1 := by
        obtain ⟨x, hx, rfl⟩ := List.mem_map.1 hp
        rw [h8] at hx
        exact same_one (partsL_ne hp) hpn (splitP_val _ _ _ x hx) hpi fun i j hi hj => hsd i j hi hj _ _
      rw [rankP_one b (partsL_ne hp) (.inl hp1)] at hqp
      rw [List.mem_singleton.1 hqp]; exact hp1
    · refine ih p hp hpn hpi ?_ q hqp
      obtain ⟨j, hj1, hj2, hj3⟩ := hj
      refine ⟨j, ?_, hj2, hj3⟩
      unfold nextS
      split
      · exact Nat.zero_le _
      · rcases Nat.lt_or_ge s j with h | h
        · exact h
        · have : s = j := by omega
          subst this
          exact absurd hj3 h8
theorem flat_desc {V : Nat → Int} {f : List Int → List Int} : ∀ L : List (Int × List Int), L.Pairwise (fun a b => b.1 < a.1) → (∀ x ∈ L, ∀ u ∈ f x.2, V u.toNat = x.1) → (L.flatMap fun x => f x.2).Pairwise (fun a b => V b.toNat ≤ V a.toNat)
  | [], _, _ => List.Pairwise.nil
  | x :: L, h, hv => by
    have h1 := List.pairwise_cons.1 h
    rw [List.flatMap_cons]
    refine List.pairwise_append.2 ⟨?_, flat_desc L h1.2 fun y hy => hv y (List.mem_cons_of_mem _ hy), fun a ha c hc => ?_⟩
    · have hx := hv x (List.mem_cons_self ..)
      refine List.Pairwise.imp_of_mem (R := fun _ _ => True) (fun ha hb _ => ?_) (List.pairwise_of_forall fun _ _ => trivial)
      rw [hx _ ha, hx _ hb]
      exact Int.le_refl _
    · obtain ⟨y, hy, hcy⟩ := List.mem_flatMap.1 hc
      rw [hv x (List.mem_cons_self ..) a ha, hv y (List.mem_cons_of_mem _ hy) c hcy]
      exact Int.le_of_lt (h1.1 y hy)
/-- the teams of a ranking from the first key on are in descending order of its values -/
theorem rank_desc (b : BookD) (G : List Int) (h0 : 0 < b.nl) : (rankP b G 0).flatten.Pairwise fun x y => bookV b (b.l 0) (getI G) G.length y.toNat ≤ bookV b (b.l 0) (getI G) G.length x.toNat := by
  by_cases hG : G = []
  · subst hG; rw [rankP_nil]; exact List.Pairwise.nil
  by_cases h1 : G.length = 1
  · rw [rankP_one b hG (.inl h1)]
    obtain ⟨x, rfl⟩ := List.length_eq_one_iff.1 h1
    simp
  · rw [rankP_step b hG h1 h0, flat_flat]
    generalize hn : nextS b (partsL b (b.l 0) (getI G) G.length).length 0 = nx
    unfold partsL
    rw [List.flatMap_map]
    refine flat_desc (f := fun p => (rankP b p nx).flatten) _ (splitP_desc _ _ _) fun x hx u hu => ?_
    exact splitP_val _ _ _ x hx u ((rank_perm b x.2 nx).mem_iff.1 hu)
/-- the number of a part that holds a team, teams counted from n on -/
def rankAt (t : Int) : List (List Int) → Nat → Int
  | [], _ => 0
  | p :: L, n => if t ∈ p then n else rankAt t L (n + p.length)
theorem rankAt_ones {t : Int} : ∀ (L : List (List Int)) (i n : Nat), (∀ p ∈ L, p.length = 1) → L.flatten.Nodup → L.flatten[i]? = some t → rankAt t L n = ((n + i : Nat) : Int)
  | [], i, n, _, _, h => by simp at h
  | p :: L, i, n, h1, hnd, h => by
    obtain ⟨x, rfl⟩ := List.length_eq_one_iff.1 (h1 p (List.mem_cons_self ..))
    unfold rankAt
    rw [List.flatten_cons] at h hnd
    cases i with
    | zero =>
      simp at h
      subst h
      simp
    | succ i =>
      have h2 : L.flatten[i]? = some t := by simpa using h
      have hm := List.mem_of_getElem? h2
      have hx : t ∉ [x] := fun e => by
        rw [List.mem_singleton.1 e] at hm
        simp at hnd
        exact absurd hm (by simpa using hnd.1)
      rw [if_neg hx, rankAt_ones L i _ (fun q hq => h1 q (List.mem_cons_of_mem _ hq)) (by simp at hnd; exact hnd.2) h2]
      show (((n + [x].length + i : Nat)) : Int) = _
      simp
      omega
/-- rows added up in any order -/
theorem addW_swap (a b c : RowD) : addW (addW a b) c = addW (addW a c) b := by
  have h : ∀ x y z : Int, wrap64 (wrap64 (x + y) + z) = wrap64 (wrap64 (x + z) + y) := fun x y z => by unfold wrap64; omega
  unfold addW
  simp only [h _ b.played c.played, h _ b.wins c.wins, h _ b.draws c.draws, h _ b.losses c.losses, h _ b.scored c.scored, h _ b.against c.against, h _ b.points c.points]
def addAt (win draw loss : Int) (x : GameD) (i : Nat) (r : RowD) : RowD :=
  if (goalsD x).2.2 = true then if i = x.home.toNat then addW r (homeR win draw loss x) else if i = x.away.toNat then addW r (awayR win draw loss x) else r else r
theorem addG_pt {win draw loss : Int} {x : GameD} (hne : x.home.toNat ≠ x.away.toNat) (r : Nat → RowD) (i : Nat) : addG win draw loss r x i = addAt win draw loss x i (r i) := by
  unfold addG addAt putR
  split
  · by_cases h1 : i = x.away.toNat
    · subst h1
      simp only [if_true, if_neg (Ne.symm hne)]
    · by_cases h2 : i = x.home.toNat
      · subst h2; simp [h1]
      · simp [h1, h2]
  · rfl
theorem addAt_swap {win draw loss : Int} (x y : GameD) (i : Nat) (r : RowD) : addAt win draw loss y i (addAt win draw loss x i r) = addAt win draw loss x i (addAt win draw loss y i r) := by
  unfold addAt
  repeat' split
  all_goals first | rfl | exact addW_swap _ _ _
/-- the table of a list of games -/
def tabF (win draw loss : Int) (sel : GameD → Bool) (i : Nat) (L : List GameD) (r : RowD) : RowD := L.foldl (fun r x => if sel x = true then addAt win draw loss x i r else r) r
theorem tabR_list {win draw loss : Int} {sel : GameD → Bool} {L : List GameD} (hL : ∀ x ∈ L, x.home.toNat ≠ x.away.toNat) (i : Nat) : ∀ k, k ≤ L.length → tabR win draw loss sel (getG L) k i = tabF win draw loss sel i (L.take k) zeroR
  | 0, _ => rfl
  | k + 1, hk => by
    have hx : L[k]? = some (getG L k) := by simp [getG, List.getD_eq_getElem?_getD, List.getElem?_eq_getElem (show k < L.length by omega)]
    have ht : L.take (k + 1) = L.take k ++ [getG L k] := by
      obtain ⟨h1, h2⟩ := List.getElem?_eq_some_iff.1 hx
      rw [← List.take_append_getElem h1, h2]
    have ih := tabR_list (win := win) (draw := draw) (loss := loss) (sel := sel) hL i k (by omega)
    unfold tabF at ih ⊢
    rw [ht, List.foldl_append]
    simp only [List.foldl_cons, List.foldl_nil]
    show (if sel (getG L k) = true then addG win draw loss (tabR win draw loss sel (getG L) k) (getG L k) else tabR win draw loss sel (getG L) k) i = _
    split
    · rw [addG_pt (hL _ (List.mem_of_getElem? hx)), ih]
    · exact ih
theorem tabF_perm {win draw loss : Int} {sel : GameD → Bool} {i : Nat} {L L' : List GameD} (h : L.Perm L') (r : RowD) : tabF win draw loss sel i L r = tabF win draw loss sel i L' r := by
  unfold tabF
  refine h.foldl_eq' (fun x _ y _ z => ?_) r
  by_cases h1 : sel x = true <;> by_cases h2 : sel y = true <;> simp [h1, h2, addAt_swap x y]
theorem tab_perm {win draw loss : Int} {sel : GameD → Bool} {L L' : List GameD} (h : L.Perm L') (hL : ∀ x ∈ L, x.home.toNat ≠ x.away.toNat) : tabR win draw loss sel (getG L) L.length = tabR win draw loss sel (getG L') L'.length := by
  funext i
  rw [tabR_list hL i _ (Nat.le_refl _), tabR_list (fun x hx => hL x (h.mem_iff.2 hx)) i _ (Nat.le_refl _), List.take_length, List.take_length]
  exact tabF_perm h _
end Go.Proofs.YteciobkjfmddcaaGreat
set_option linter.unusedVariables false
namespace Go.Proofs.YteciobkjfmddcaaGreat
open Go.RowKit Go.Maps

/-- the slice of the value s -/
def findI (T : List (Int × Value × List Int)) (s : Int) : Option Value := (T.find? fun x => x.1 == s).map fun x => x.2.1
def findT (T : List (Int × Value × List Int)) : Lit → Option Value
  | .int .i64 s => findI T s
  | _ => none
theorem findI_iff {s : Int} {u : Value} : ∀ {T : List (Int × Value × List Int)}, T.Pairwise (fun a b => b.1 < a.1) → (findI T s = some u ↔ ∃ x ∈ T, x.1 = s ∧ x.2.1 = u)
  | [], _ => by simp [findI]
  | y :: T, h => by
    have ih := findI_iff (s := s) (u := u) (List.pairwise_cons.1 h).2
    have hlt := (List.pairwise_cons.1 h).1
    unfold findI at ih ⊢
    by_cases e : y.1 = s
    · rw [List.find?_cons_of_pos (by simpa using e)]
      simp only [Option.map_some, Option.some.injEq]
      constructor
      · intro h2; exact ⟨y, List.mem_cons_self .., e, h2⟩
      · rintro ⟨x, hx, h1, h2⟩
        rcases List.mem_cons.1 hx with rfl | hx
        · exact h2
        · have := hlt x hx; omega
    · rw [List.find?_cons_of_neg (by simpa using e), ih]
      constructor
      · rintro ⟨x, hx, h1, h2⟩; exact ⟨x, List.mem_cons_of_mem _ hx, h1, h2⟩
      · rintro ⟨x, hx, h1, h2⟩
        rcases List.mem_cons.1 hx with rfl | hx
        · exact absurd h1 e
        · exact ⟨x, hx, h1, h2⟩
theorem findT_key {T : List (Int × Value × List Int)} {kl : Lit} {v : Value} (h : findT T kl = some v) : ∃ s, kl = .int .i64 s := by
  unfold findT at h
  split at h
  · exact ⟨_, rfl⟩
  · cases h
theorem opt_ext {α : Type} {a b : Option α} (h : ∀ u, a = some u ↔ b = some u) : a = b := by
  cases a with
  | some x => exact ((h x).1 rfl).symm
  | none => cases b with
    | none => rfl
    | some y => exact absurd ((h y).2 rfl) (by simp)
theorem datT_desc {T : List (Int × Value × List Int)} {V gg : Nat → Int} {k : Nat} (h : datT T = splitP V gg k) : T.Pairwise (fun a b => b.1 < a.1) := by
  have h1 := splitP_desc V gg k
  rw [← h] at h1
  unfold datT at h1
  rwa [List.pairwise_map] at h1
/-- a team is put in: what the map held of its value, and what it holds then -/
structure StepT (w : World) (B n : Nat) (T : List (Int × Value × List Int)) (v t : Int) (iv : Value) (p : List Int) (T' : Value → List (Int × Value × List Int)) : Prop where
  look : (findT T (.int .i64 v)).getD (.slice none 0 0) = iv
  own : w.ownsRow B 3 1 iv p.length (p.map (Value.int .i64))
  dat : ∀ s, datT (T' s) = insP v t (datT T)
  self : ∀ s, findT (T' s) (.int .i64 v) = some s
  other : ∀ s z, z ≠ .int .i64 v → findT (T' s) z = findT T z
  mem : ∀ s x, x ∈ T' s → x = (v, s, p ++ [t]) ∨ (x ∈ T ∧ x.1 ≠ v)
  apart : ∀ s, (∀ x ∈ T, x.1 ≠ v → ApartV s x.2.1) → ApartL ((T' s).map fun x => x.2.1)
  parted : ∀ x ∈ T, x.1 ≠ v → ApartV iv x.2.1
  len : p.length ≤ n
theorem StepT.ex {w : World} {B : Nat} {T : List (Int × Value × List Int)} {V gg : Nat → Int} {k : Nat} (hd : datT T = splitP V gg k) (hO : OwnT w B 3 T) (hA : ApartL (T.map fun x => x.2.1)) (v t : Int) :
    ∃ iv p T', StepT w B k T v t iv p T' := by
  have hdesc := datT_desc hd
  obtain ⟨j, hj⟩ : ∃ j, leadV Prod.fst v T = j := ⟨_, rfl⟩
  have hjd : leadV Prod.fst v (datT T) = j := by rw [datT_lead, hj]
  have hjl : j ≤ T.length := by rw [← hj]; exact leadV_le _
  have hlow : ∀ i x, j ≤ i → T[i]? = some x → x.1 ≤ v := fun i x hi hx => by
    have h1 : j < T.length := by have := (List.getElem?_eq_some_iff.1 hx).1; omega
    have h2 := leadV_ge (f := Prod.fst) (v := v) T (T[j]'h1) (by rw [hj]; exact List.getElem?_eq_getElem h1)
    by_cases e : i = j
    · subst e
      rw [List.getElem?_eq_getElem h1] at hx
      cases hx; omega
    · have := List.pairwise_iff_getElem.1 hdesc j i h1 (List.getElem?_eq_some_iff.1 hx).1 (by omega)
      have e2 := (List.getElem?_eq_some_iff.1 hx).2
      rw [e2] at this
      omega
  have hhigh : ∀ i x, i < j → T[i]? = some x → v < x.1 := fun i x hi hx => leadV_lt (f := Prod.fst) T i x (by rw [hj]; exact hi) hx
  have hap : ∀ (i i' : Nat) (x y : Int × Value × List Int), i ≠ i' → T[i]? = some x → T[i']? = some y → ApartV x.2.1 y.2.1 := fun i i' x y hne hx hy =>
    pairwise_at (fun a b h => h.symm) _ i i' x.2.1 y.2.1 hA (by rw [List.getElem?_map, hx]; rfl) (by rw [List.getElem?_map, hy]; rfl) hne
  by_cases hex : ∃ iv p, T[j]? = some (v, iv, p)
  · obtain ⟨iv, p, hx⟩ := hex
    have hjlt : j < T.length := (List.getElem?_eq_some_iff.1 hx).1
    have hne : ∀ i x, i ≠ j → T[i]? = some x → x.1 ≠ v := fun i x hi hxi e => by
      by_cases hlt : i < j
      · have := hhigh i x hlt hxi; omega
      · have := List.pairwise_iff_getElem.1 hdesc j i hjlt (List.getElem?_eq_some_iff.1 hxi).1 (by omega)
        rw [(List.getElem?_eq_some_iff.1 hxi).2, (List.getElem?_eq_some_iff.1 hx).2] at this
        simp only at this
        omega
    have hdat : ∀ s, datT (T.set j (v, s, p ++ [t])) = insP v t (datT T) := fun s => by
      rw [datT_set, insP_old v t (datT T) p (by rw [hjd]; exact datT_get hx), hjd]
    have hdesc' : ∀ s, (T.set j (v, s, p ++ [t])).Pairwise (fun a b => b.1 < a.1) := fun s => by
      have h1 := insP_desc (v := v) (t := t) (datT T) (by rw [hd]; exact splitP_desc V gg k)
      rw [← hdat s] at h1
      unfold datT at h1
      rwa [List.pairwise_map] at h1
    have hmem : ∀ s x, x ∈ T.set j (v, s, p ++ [t]) → x = (v, s, p ++ [t]) ∨ (x ∈ T ∧ x.1 ≠ v) := fun s x hxm => by
      obtain ⟨i, hi⟩ := List.mem_iff_getElem?.1 hxm
      by_cases e : i = j
      · subst e
        rw [List.getElem?_set_self hjlt] at hi
        exact .inl (Option.some.inj hi).symm
      · rw [List.getElem?_set_ne (Ne.symm e)] at hi
        exact .inr ⟨List.mem_iff_getElem?.2 ⟨i, hi⟩, hne i x e hi⟩
    have hmem' : ∀ s x, x ∈ T → x.1 ≠ v → x ∈ T.set j (v, s, p ++ [t]) := fun s x hxm hv => by
      obtain ⟨i, hi⟩ := List.mem_iff_getElem?.1 hxm
      have e : i ≠ j := fun e => by subst e; rw [hx] at hi; cases hi; exact hv rfl
      exact List.mem_iff_getElem?.2 ⟨i, by rw [List.getElem?_set_ne (Ne.symm e)]; exact hi⟩
    refine ⟨iv, p, fun s => T.set j (v, s, p ++ [t]), ?_, ?_, hdat, ?_, ?_, hmem, ?_, ?_, split_lens (V := V) (gg := gg) k (v, p) (by rw [← hd]; exact List.mem_iff_getElem?.2 ⟨j, datT_get hx⟩)⟩
    · have h1 : findI T v = some iv := (findI_iff hdesc).2 ⟨_, List.mem_iff_getElem?.2 ⟨j, hx⟩, rfl, rfl⟩
      show (findI T v).getD _ = iv
      rw [h1]; rfl
    · exact hO _ (List.mem_iff_getElem?.2 ⟨j, hx⟩)
    · intro s
      exact (findI_iff (hdesc' s)).2 ⟨(v, s, p ++ [t]), List.mem_iff_getElem?.2 ⟨j, List.getElem?_set_self hjlt⟩, rfl, rfl⟩
    · intro s z hz
      cases hz2 : z with
      | int kd s2 =>
        cases kd
        case i64 =>
          subst hz2
          have hsv : s2 ≠ v := fun e => hz (by rw [e])
          show findI _ s2 = findI _ s2
          refine opt_ext fun u => ?_
          rw [findI_iff (hdesc' s), findI_iff hdesc]
          constructor
          · rintro ⟨x, hxm, h1, h2⟩
            rcases hmem s x hxm with rfl | ⟨h3, _⟩
            · exact absurd h1.symm hsv
            · exact ⟨x, h3, h1, h2⟩
          · rintro ⟨x, hxm, h1, h2⟩
            exact ⟨x, hmem' s x hxm (by rw [h1]; exact hsv), h1, h2⟩
        all_goals rfl
      | _ => rfl
    · intro s hs
      rw [List.map_set]
      refine pairwise_set (fun a b h => h.symm) _ j s hA fun i y hi hy => ?_
      rw [List.getElem?_map] at hy
      obtain ⟨x, hx1, rfl⟩ := Option.map_eq_some_iff.1 hy
      exact hs x (List.mem_iff_getElem?.2 ⟨i, hx1⟩) (hne i x hi hx1)
    · intro x hxm hv
      obtain ⟨i, hi⟩ := List.mem_iff_getElem?.1 hxm
      exact hap j i _ x (fun e => by subst e; rw [hx] at hi; cases hi; exact hv rfl) hx hi
  · have hne : ∀ x ∈ T, x.1 ≠ v := fun x hxm e => by
      obtain ⟨i, hi⟩ := List.mem_iff_getElem?.1 hxm
      by_cases hlt : i < j
      · have := hhigh i x hlt hi; omega
      · by_cases e2 : i = j
        · subst e2; exact hex ⟨x.2.1, x.2.2, by rw [hi, ← e]⟩
        · have h1 : j < T.length := by have := (List.getElem?_eq_some_iff.1 hi).1; omega
          have h2 := hlow j _ (Nat.le_refl _) (List.getElem?_eq_getElem h1)
          have h3 := List.pairwise_iff_getElem.1 hdesc j i h1 (List.getElem?_eq_some_iff.1 hi).1 (by omega)
          rw [(List.getElem?_eq_some_iff.1 hi).2] at h3
          omega
    have hdat : ∀ s, datT (gapA T j (v, s, [t])) = insP v t (datT T) := fun s => by
      rw [datT_gap, insP_new v t (datT T) (by
        rw [hjd]; intro x hx e
        obtain ⟨iv, h1⟩ := datT_some (x := x) hx
        exact hex ⟨iv, x.2, by rw [h1, e]⟩), hjd]
    have hdesc' : ∀ s, (gapA T j (v, s, [t])).Pairwise (fun a b => b.1 < a.1) := fun s => by
      have h1 := insP_desc (v := v) (t := t) (datT T) (by rw [hd]; exact splitP_desc V gg k)
      rw [← hdat s] at h1
      unfold datT at h1
      rwa [List.pairwise_map] at h1
    have hin : ∀ s x, x ∈ T → x ∈ gapA T j (v, s, [t]) := fun s x hxm => by
      unfold gapA
      rw [List.mem_append, List.mem_cons]
      rw [← List.take_append_drop j T, List.mem_append] at hxm
      rcases hxm with h | h
      · exact .inl h
      · exact .inr (.inr h)
    have hself : ∀ s, (v, s, [t]) ∈ gapA T j (v, s, [t]) := fun s => by unfold gapA; simp
    refine ⟨.slice none 0 0, [], fun s => gapA T j (v, s, [t]), ?_, World.ownsRow_nil _ _ _ _, hdat, ?_, ?_, ?_, ?_, ?_, Nat.zero_le _⟩
    · have h1 : findI T v = none := by
        cases hf : findI T v with
        | none => rfl
        | some u =>
          obtain ⟨x, hx, h1, _⟩ := (findI_iff hdesc).1 hf
          exact absurd h1 (hne x hx)
      show (findI T v).getD _ = _
      rw [h1]; rfl
    · intro s
      exact (findI_iff (hdesc' s)).2 ⟨_, hself s, rfl, rfl⟩
    · intro s z hz
      cases hz2 : z with
      | int kd s2 =>
        cases kd
        case i64 =>
          subst hz2
          have hsv : s2 ≠ v := fun e => hz (by rw [e])
          show findI _ s2 = findI _ s2
          refine opt_ext fun u => ?_
          rw [findI_iff (hdesc' s), findI_iff hdesc]
          constructor
          · rintro ⟨x, hxm, h1, h2⟩
            rcases gapA_mem hxm with rfl | h3
            · exact absurd h1.symm hsv
            · exact ⟨x, h3, h1, h2⟩
          · rintro ⟨x, hxm, h1, h2⟩
            exact ⟨x, hin s x hxm, h1, h2⟩
        all_goals rfl
      | _ => rfl
    · intro s x hxm
      rcases gapA_mem hxm with h | h
      · exact .inl h
      · exact .inr ⟨h, hne x h⟩
    · intro s hs
      rw [gapA_map]
      refine gapA_pairwise hA (fun y hy => ?_) (fun y hy => ?_)
      · obtain ⟨x, hx, rfl⟩ := List.mem_map.1 hy
        exact (hs x hx (hne x hx)).symm
      · obtain ⟨x, hx, rfl⟩ := List.mem_map.1 hy
        exact hs x hx (hne x hx)
    · intro x hx hv k hk
      simp [Value.ownBlock] at hk
/-- at w: block m is the map, its slices lie from B on, each in a block of its own -/
def GroupSt (w : World) (B m k : Nat) (T : List (Int × Value × List Int)) : Prop := OwnT w B 3 T ∧ ApartL (T.map fun x => x.2.1) ∧ ValMap Tryz.prog w 3 m k (findT T) ∧ m < B
theorem GroupSt.below {w w' : World} {B m k : Nat} {T : List (Int × Value × List Int)} (h : GroupSt w B m k T) (hb : Below w.heap.size w w') : GroupSt w' B m k T :=
  ⟨h.1.below hb (Nat.le_refl _), h.2.1, h.2.2.1.below hb (Nat.le_refl _), h.2.2.2⟩
theorem GroupSt.made (w : World) (k : Nat) : GroupSt (w.alloc (.map #[] 0)) (w.heap.size + 1) w.heap.size k [] :=
  ⟨fun x hx => (by cases hx), List.Pairwise.nil, by
    refine ((ValMap.made w Tryz.prog 3).mono (Nat.zero_le k)).congr fun s => ?_
    unfold findT; split <;> rfl, Nat.lt_succ_self _⟩
theorem GroupSt.kept {w w' : World} {B m k : Nat} {T : List (Int × Value × List Int)} {iv : Value} {n : Nat} {xs : List Value} (h : GroupSt w B m k T) (ho : w.ownsRow B 3 1 iv n xs) (hg : w.grownBy w' iv.ownBlock) : ValMap Tryz.prog w' 3 m k (findT T) :=
  h.2.2.1.grown hg (fun e => by have := (ho.lt m e.symm).1; have := h.2.2.2; omega)
/-- behind the append and the store -/
theorem GroupSt.step {w w5 w6 : World} {B m k g c : Nat} {T : List (Int × Value × List Int)} {v t : Int} {iv : Value} {p : List Int} {T' : Value → List (Int × Value × List Int)} (h : GroupSt w B m k T) (hs : StepT w B k T v t iv p T')
    (hg5 : w.grownBy w5 iv.ownBlock) (ho5 : w5.ownsRow B 3 1 (.slice (some ⟨g, 0, none⟩) (p.length + 1) c) (p.length + 1) (p.map (Value.int .i64) ++ [.int .i64 t])) (hat : iv.ownBlock = some g ∨ w.heap.size ≤ g)
    (hg6 : w5.grownBy w6 (some m)) (hm6 : ValMap Tryz.prog w6 3 m (k + 1) (findT (T' (.slice (some ⟨g, 0, none⟩) (p.length + 1) c)))) : GroupSt w6 B m (k + 1) (T' (.slice (some ⟨g, 0, none⟩) (p.length + 1) c)) := by
  have hgB : B ≤ g := (ho5.lt g rfl).1
  have hmg : some m ≠ some g := by have := h.2.2.2; intro e; cases e; omega
  refine ⟨fun x hx => ?_, hs.apart _ fun x hx hne => ?_, hm6, h.2.2.2⟩
  · rcases hs.mem _ x hx with rfl | ⟨hxT, hne⟩
    · have := ho5.kept hg6 (.inr (by simpa [Value.ownBlock] using hmg.symm))
      simpa using this
    · have h1 := h.1 x hxT
      have h2 := kept_apart h1 (hs.parted x hxT hne) hg5
      refine h2.kept hg6 ?_
      cases hk : x.2.1.ownBlock with
      | none => exact .inl rfl
      | some q => exact .inr (by have := (h1.lt q hk).1; have := h.2.2.2; intro e; cases e; omega)
  · intro q hq e2
    have hq' : g = q := by simpa [Value.ownBlock] using hq
    subst hq'
    exact fresh_ne (h.1 x hx) (hs.parted x hx hne) hat e2
theorem desc_unique : ∀ (L L' : List Int), L.Pairwise (fun a b => b < a) → L'.Pairwise (fun a b => b < a) → (∀ s, s ∈ L ↔ s ∈ L') → L = L'
  | [], [], _, _, _ => rfl
  | [], y :: L', _, _, h => absurd ((h y).2 (List.mem_cons_self ..)) (by simp)
  | x :: L, [], _, _, h => absurd ((h x).1 (List.mem_cons_self ..)) (by simp)
  | x :: L, y :: L', h1, h2, h => by
    have a1 := List.pairwise_cons.1 h1
    have a2 := List.pairwise_cons.1 h2
    have e : x = y := by
      rcases List.mem_cons.1 ((h x).1 (List.mem_cons_self ..)) with e | e
      · exact e
      · rcases List.mem_cons.1 ((h y).2 (List.mem_cons_self ..)) with e' | e'
        · exact e'.symm
        · have := a2.1 x e; have := a1.1 y e'; omega
    subst e
    rw [desc_unique L L' a1.2 a2.2 fun s => ?_]
    constructor
    · intro hs
      rcases List.mem_cons.1 ((h s).1 (List.mem_cons_of_mem _ hs)) with e | e
      · have := a1.1 s hs; omega
      · exact e
    · intro hs
      rcases List.mem_cons.1 ((h s).2 (List.mem_cons_of_mem _ hs)) with e | e
      · have := a2.1 s hs; omega
      · exact e
end Go.Proofs.YteciobkjfmddcaaGreat
