/-
  Packed: NotesDraw, RankFacts.
-/
import Derived.Deep.DeepCutAuto
import Derived.Test.YtojkonhhaamodaaQ4
import Derived.Test.YtojkonhhaamodaaQ5
import Derived.Test.YtojkonhhaamodaaQ6
import Derived.Test.YtojkonhhaamodaaQ8
import Derived.Test.YtojkonhhaamodaaQ9
set_option linter.unusedVariables false
namespace Go.Proofs.Ytojkonhhaamodaa
open Go.RowKit

/-- a season and notes under way -/
def NtS (B : Nat) (a : Option Addr) (len cap : Nat) (g : Nat → Nat) (w0 : World) (vg : Value) (LG : List GameD) (nv : Value) (LN : List NoteD) (w : World) : Prop :=
  Cur B a len cap g w ∧ w.ownsRow w0.heap.size 37 5 vg LG.length (gcells LG) ∧ w.ownsRow w0.heap.size 39 7 nv LN.length (LN.flatMap NoteD.cells) ∧ w0.grownBy w (some B) ∧ B < w0.heap.size ∧ ApartV vg nv
/-- and a box in block X -/
def NtX (B : Nat) (a : Option Addr) (len cap : Nat) (g : Nat → Nat) (w0 : World) (vg : Value) (LG : List GameD) (nv : Value) (LN : List NoteD) (X : Nat) (cs : List Value) (w : World) : Prop :=
  NtS B a len cap g w0 vg LG nv LN w ∧ BoxF w X cs ∧ w0.heap.size ≤ X ∧ vg.ownBlock ≠ some X ∧ nv.ownBlock ≠ some X
/-- and while the notes are shifted -/
def NtG (B : Nat) (a : Option Addr) (len cap : Nat) (g : Nat → Nat) (w0 : World) (vg : Value) (LG : List GameD) (gg cc n : Nat) (ys : List Value) (X : Nat) (cs : List Value) (w : World) : Prop :=
  Cur B a len cap g w ∧ w.ownsRow w0.heap.size 37 5 vg LG.length (gcells LG) ∧ w.ownsRow w0.heap.size 39 7 (.slice (some ⟨gg, 0, none⟩) n cc) n ys ∧ w0.grownBy w (some B) ∧ B < w0.heap.size ∧ vg.ownBlock ≠ some gg ∧
    BoxF w X cs ∧ w0.heap.size ≤ X ∧ vg.ownBlock ≠ some X ∧ gg ≠ X
theorem BoxF.grown {w w' : World} {B : Nat} {cs : List Value} {row : Option Nat} (h : BoxF w B cs) (hg : w.grownBy w' row) (hne : row ≠ some B) : BoxF w' B cs := by
  have hb := hg.block B h.1 (fun e => hne e.symm)
  refine ⟨Nat.lt_of_lt_of_le h.1 hg.size, fun j v hv => ⟨(World.cell?_of_block (w := w) (a := ⟨B, j, none⟩) hb).trans (h.2 j v hv).1, ?_⟩⟩
  rw [← (h.2 j v hv).2]
  unfold World.frozen?
  simp only [hb]
theorem grown_below' {w0 w w' : World} {B : Nat} (h : w0.grownBy w (some B)) {C : Nat} (hb : Below C w w') (hC : w0.heap.size ≤ C) : w0.grownBy w' (some B) :=
  ⟨hb.os.trans h.os, hb.tape.trans h.tape, hb.output.trans h.output, Nat.le_trans h.size hb.size, fun k hk hne => (hb.block k (by omega)).trans (h.block k hk hne)⟩
theorem owns_drawnB {B : Nat} {w w' : World} {base : Nat} {e : TypeId} {size m : Nat} {v : Value} {xs : List Value} (ho : w.ownsRow base e size v m xs) (hB : B < base) (hg : w.grownBy w' (some B)) : w'.ownsRow base e size v m xs := owns_drawn ho hB hg
section
variable {B : Nat} {a : Option Addr} {len cap : Nat} {g : Nat → Nat} {w0 : World} {vg : Value} {LG : List GameD} {nv : Value} {LN : List NoteD} {w w' : World} {X : Nat} {cs : List Value} {gg cc n : Nat} {ys : List Value}
theorem NtS.below (h : NtS B a len cap g w0 vg LG nv LN w) (hb : Below w.heap.size w w') : NtS B a len cap g w0 vg LG nv LN w' :=
  ⟨h.1.belowW hb h.1.ltW, owns_below h.2.1 hb (Nat.le_refl _), owns_below h.2.2.1 hb (Nat.le_refl _), grown_below' h.2.2.2.1 hb h.2.2.2.1.size, h.2.2.2.2⟩
theorem NtS.drawn (h : NtS B a len cap g w0 vg LG nv LN w) (hc : Cur B a len cap g w') (hg : w.grownBy w' (some B)) : NtS B a len cap g w0 vg LG nv LN w' :=
  ⟨hc, owns_drawn h.2.1 h.2.2.2.2.1 hg, owns_drawn h.2.2.1 h.2.2.2.2.1 hg, grown_trans h.2.2.2.1 hg, h.2.2.2.2⟩
theorem NtS.size (h : NtS B a len cap g w0 vg LG nv LN w) : w0.heap.size ≤ w.heap.size := h.2.2.2.1.size
theorem NtX.below (h : NtX B a len cap g w0 vg LG nv LN X cs w) (hb : Below w.heap.size w w') : NtX B a len cap g w0 vg LG nv LN X cs w' := ⟨h.1.below hb, h.2.1.below hb, h.2.2⟩
theorem NtX.drawn (h : NtX B a len cap g w0 vg LG nv LN X cs w) (hc : Cur B a len cap g w') (hg : w.grownBy w' (some B)) : NtX B a len cap g w0 vg LG nv LN X cs w' :=
  ⟨h.1.drawn hc hg, h.2.1.grown hg (fun e => by have := h.2.2.1; have := h.1.2.2.2.2.1; simp at e; omega), h.2.2⟩
theorem NtS.start (h : NtS B a len cap g w0 vg LG nv LN w) (cs : Array Value) (T : TypeId) : NtX B a len cap g w0 vg LG nv LN w.heap.size cs.toList (w.alloc (.cells cs T)) :=
  ⟨h.below ((Below.refl _ _).alloc (Nat.le_refl _) _), BoxF.made (Below.refl _ _) rfl, h.size, fun e => by have := (h.2.1.lt _ e).2; omega, fun e => by have := (h.2.2.1.lt _ e).2; omega⟩
theorem NtX.set (h : NtX B a len cap g w0 vg LG nv LN X cs w) (j : Nat) (u : Value) (hj : j < cs.length) : NtX B a len cap g w0 vg LG nv LN X (cs.set j u) (w.setCell ⟨X, j, none⟩ u) := by
  have hb : Below X w (w.setCell ⟨X, j, none⟩ u) := (Below.refl _ _).setCell (Nat.le_refl X) u
  have h5 := h.1.2.2.2.2.1
  exact ⟨⟨h.1.1.belowW hb (by have := h.2.2.1; omega), ownsRow_setCell_other h.1.2.1 h.2.2.2.1 u, ownsRow_setCell_other h.1.2.2.1 h.2.2.2.2 u, grown_below' h.1.2.2.2.1 hb h.2.2.1, h.1.2.2.2.2⟩, h.2.1.set j u hj, h.2.2⟩
theorem NtX.push (h : NtX B a len cap g w0 vg LG nv LN X cs w) (ho : w'.ownsRow w0.heap.size 39 7 (.slice (some ⟨gg, 0, none⟩) n cc) n ys) (hg : w.grownBy w' nv.ownBlock) (hat : nv.ownBlock = some gg ∨ w.heap.size ≤ gg) : NtG B a len cap g w0 vg LG gg cc n ys X cs w' := by
  have hb : Below w0.heap.size w w' := (Below.refl _ _).grown hg h.1.size (fun k hk => (h.1.2.2.1.lt k hk).1)
  refine ⟨h.1.1.belowW hb h.1.2.2.2.2.1, kept_apart h.1.2.1 h.1.2.2.2.2.2.symm hg, ho, grown_below' h.1.2.2.2.1 hb (Nat.le_refl _), h.1.2.2.2.2.1, fresh_ne h.1.2.1 h.1.2.2.2.2.2.symm hat, h.2.1.grown hg h.2.2.2.2, h.2.2.1, h.2.2.2.1, ?_⟩
  rcases hat with h1 | h1
  · exact fun e => h.2.2.2.2 (by rw [h1, e])
  · have := h.2.1.1; omega
theorem NtG.set (h : NtG B a len cap g w0 vg LG gg cc n ys X cs w) (t : Nat) (u : Value) : NtG B a len cap g w0 vg LG gg cc n (ys.set t u) X cs (w.setCell ⟨gg, t, none⟩ u) := by
  obtain ⟨h1, h2, h3, h4, h5, h6, h7, h8, h9, h10⟩ := h
  have hgl := h3.lt gg rfl
  have hb : Below w0.heap.size w (w.setCell ⟨gg, t, none⟩ u) := (Below.refl _ _).setCell hgl.1 u
  exact ⟨h1.belowW hb h5, ownsRow_setCell_other h2 h6 u, (h3.stored t u).1, grown_below' h4 hb (Nat.le_refl _), h5, h6, h7.other t u (Ne.symm h10), h8, h9, h10⟩
theorem NtG.done (h : NtG B a len cap g w0 vg LG gg cc n ys X cs w) (hn : LN.length = n) (hy : LN.flatMap NoteD.cells = ys) : NtX B a len cap g w0 vg LG (.slice (some ⟨gg, 0, none⟩) n cc) LN X cs w := by
  obtain ⟨h1, h2, h3, h4, h5, h6, h7, h8, h9, h10⟩ := h
  exact ⟨⟨h1, h2, by rw [hn, hy]; exact h3, h4, h5, fun k e1 e2 => h6 (by rw [e1]; simpa [Value.ownBlock] using e2.symm)⟩, h7, h8, h9, by simpa [Value.ownBlock] using h10⟩
theorem NtX.box (h : NtX B a len cap g w0 vg LG nv LN X cs w) : BoxF w X cs := h.2.1
theorem nt_games {ga : Option Addr} {gc : Nat} (h : NtS B a len cap g w0 (.slice ga LG.length gc) LG nv LN w) {q : Nat} (hq : q < LG.length) : ∃ gb, ga = some ⟨gb, 0, none⟩ ∧ LG.length ≤ gc := by
  rcases h.2.1.2 with ⟨_, h0⟩ | ⟨b, c, cur, he, _, _, hnc, _⟩
  · omega
  · simp only [Value.slice.injEq, true_and] at he
    exact ⟨b, he.1, by omega⟩
theorem nt_game {gb gc : Nat} (h : NtS B a len cap g w0 (.slice (some ⟨gb, 0, none⟩) LG.length gc) LG nv LN w) {q : Nat} (hq : q < LG.length) :
    w.cell? ⟨gb, q * 5, none⟩ = some (.int .i64 (getG LG q).home) ∧ w.cell? ⟨gb, q * 5 + 1, none⟩ = some (.int .i64 (getG LG q).away) := by
  have h1 := gcells_at LG q hq
  have hl := h.2.1.1
  constructor
  · rw [h.2.1.cellAt (q * 5) (by omega)]; exact h1 0 _ rfl
  · rw [h.2.1.cellAt (q * 5 + 1) (by omega)]; exact h1 1 _ rfl
end
def pick6 (i : Nat) : Int := match i with | 3 => 2 | 4 => 3 | 5 => 4 | _ => 1
theorem pick6_in (i : Nat) (h : i < 6) : 1 ≤ pick6 i ∧ pick6 i ≤ 4 := by
  have : i = 0 ∨ i = 1 ∨ i = 2 ∨ i = 3 ∨ i = 4 ∨ i = 5 := by omega
  rcases this with rfl | rfl | rfl | rfl | rfl | rfl <;> decide
def six : Array Value := #[.int .i64 1, .int .i64 1, .int .i64 1, .int .i64 2, .int .i64 3, .int .i64 4]
theorem pick6_row (w : World) : IntRow (w.alloc (.cells #[.int .i64 1, .int .i64 1, .int .i64 1, .int .i64 2, .int .i64 3, .int .i64 4] 3)) (.slice (some ⟨w.heap.size, 0, none⟩) 6 6) 6 pick6 := by
  refine .inr ⟨w.heap.size, 0, 6, rfl, by omega, by omega, fun i hi => ?_, Nat.le_refl _⟩
  rw [Nat.zero_add, cell_of_row _ w.heap.size i _ _ (0, 0) (heap_alloc_new w _)]
  have : i = 0 ∨ i = 1 ∨ i = 2 ∨ i = 3 ∨ i = 4 ∨ i = 5 := by omega
  rcases this with rfl | rfl | rfl | rfl | rfl | rfl <;> rfl
/-- the notes that have been made: valid ones up to the number s, each number once -/
def NGood (n : Nat) (LG : List GameD) (s : Nat) (LN : List NoteD) : Prop :=
  (∀ y ∈ LN, noteP n LG.length (getG LG) y ∧ y.serial ≤ s) ∧ ∀ x ∈ LN, ∀ y ∈ LN, x.serial = y.serial → x = y
theorem NGood.more {n : Nat} {LG : List GameD} {s s' : Nat} {LN : List NoteD} (h : NGood n LG s LN) {x : NoteD} (hs : (s : Int) < x.serial) (hs' : x.serial = s') (hx : noteP n LG.length (getG LG) x) (j : Nat) : NGood n LG s' (gapL LN j x) := by
  have hm : ∀ y, y ∈ gapL LN j x → y = x ∨ y ∈ LN := fun y hy => by
    unfold gapL at hy
    rcases List.mem_append.1 hy with hy | hy
    · exact .inr (List.mem_of_mem_take hy)
    · rcases List.mem_cons.1 hy with hy | hy
      · exact .inl hy
      · exact .inr (List.mem_of_mem_drop hy)
  refine ⟨fun y hy => ?_, fun y hy z hz e => ?_⟩
  · rcases hm y hy with rfl | hy
    · exact ⟨hx, by omega⟩
    · exact ⟨(h.1 y hy).1, by have := (h.1 y hy).2; omega⟩
  · rcases hm y hy with e1 | h1 <;> rcases hm z hz with e2 | h2
    · rw [e1, e2]
    · subst e1; have := (h.1 z h2).2; omega
    · subst e2; have := (h.1 y h1).2; omega
    · exact h.2 y h1 z h2 e
theorem NGood.twice {n : Nat} {LG : List GameD} {s : Nat} {LN : List NoteD} (h : NGood n LG s LN) {x : NoteD} (hx : x ∈ LN) : NGood n LG s (LN ++ [x]) := by
  have hm : ∀ y, y ∈ LN ++ [x] → y ∈ LN := fun y hy => by
    rcases List.mem_append.1 hy with hy | hy
    · exact hy
    · rw [List.mem_singleton.1 hy]; exact hx
  exact ⟨fun y hy => h.1 y (hm y hy), fun y hy z hz e => h.2 y (hm y hy) z (hm z hz) e⟩
/-- a season with valid notes has been made -/
def NotesDrawn (B : Nat) (a : Option Addr) (len cap : Nat) (g : Nat → Nat) (w : World) (e : Ending) (w' : World) : Prop :=
  ∃ (n : Nat) (vg : Value) (LG : List GameD) (m : Nat) (nv : Value) (LN : List NoteD) (s : Nat), (2 ≤ n ∧ n ≤ 4) ∧ e = .returned (.tuple #[.int .i64 n, vg, nv]) ∧ SeaL 0 n LG m ∧ LG.length ≤ 8 * n ∧ NGood n LG s LN ∧ LN.length ≤ 12 ∧ NtS B a len cap g w vg LG nv LN w'
set_option maxRecDepth 100000 in
set_option maxHeartbeats 4000000 in
theorem l05Draw_any (B : Nat) (a : Option Addr) (len cap : Nat) (g : Nat → Nat) (w : World) (hc : Cur B a len cap g w) :
    Calls Try.prog 28 #[.pointer (some ⟨B, 0, none⟩)] w (NotesDrawn B a len cap g w) := by
  obtain ⟨i0, hi, hz0, hz1, hz2⟩ := info_parts Try.infoNote
  have hBw := hc.ltW
  have LB := Lib.hid (fun (m : Nat) w1 hc (h1 : 0 < m) (h2 : m ≤ 256) => l01Below_small B a len cap g m w1 hc h1 h2)
  have LS := Lib.hid (fun (n : Nat) w1 hc (h1 : n ≤ 8) (h2 : 1 ≤ n) => l04Season_any B a len cap g n 3 w1 hc h1 h2 (by omega))
  have LP := Lib.hid (fun v w1 hc hv hB => l01Pick_any B a len cap g v 6 pick6 w1 hc (by omega) (by omega) hv hB)
  have LO := Lib.hid (fun (m : Nat) w1 hc (h1 : 0 < m) (h2 : m ≤ 256) => l01Once_any B a len cap g m w1 hc h1 h2)
  have HC := Lib.hid hc
  clear hc
  go_enter Try.func28, Try.ntmps28
  go_wp2_with fail
  refine (LB.out 3 _ HC.out (by omega) (by omega)).mono ?_
  rintro e w1 ⟨x, hx, rfl, c1, g1⟩
  have C1 := Lib.hid c1
  have G1 := Lib.hid g1
  clear c1 g1 HC
  obtain ⟨n, hn⟩ : ∃ n : Nat, (2 : Int) + (x : Int) = n := ⟨2 + x, by omega⟩
  have hn2 : 2 ≤ n := by omega
  have hn4 : n ≤ 4 := by omega
  go_wp2_with fail
  clear hn hx
  refine (LS.out n _ C1.out (by omega) (by omega)).mono ?_
  rintro e w2 ⟨vg, LG, m, rfl, hL, hm, hLl, hown, c2, g2⟩
  have hne : LG ≠ [] := hL.2.2.2 (.inr (by omega))
  have hpos := List.length_pos_iff.2 hne
  have hL32 : LG.length ≤ 32 := by omega
  obtain ⟨ga, gc, hgf⟩ := owns_form hown
  subst hgf
  have hsz1 := G1.out.size
  have HL := Lib.hid hL
  have HLl := Lib.hid hLl
  have HS2 : Hid (Cur B a len cap g w2 ∧ w2.ownsRow w.heap.size 37 5 (.slice ga LG.length gc) LG.length (gcells LG) ∧ w.grownBy w2 (some B)) := ⟨c2, owns_mono hown hsz1, grown_trans G1.out g2⟩
  have hsz2 : w.heap.size ≤ w2.heap.size := HS2.out.2.2.size
  have al2 : Below w2.heap.size w2 (w2.alloc (.cells #[] 39)) := (Below.refl _ _).alloc (Nat.le_refl _) _
  have HSA : Hid (NtS B a len cap g w (.slice ga LG.length gc) LG (.slice (some ⟨w2.heap.size, 0, none⟩) 0 0) [] (w2.alloc (.cells #[] 39))) :=
    ⟨HS2.out.1.belowW al2 HS2.out.1.ltW, owns_below HS2.out.2.1 al2 (Nat.le_refl _), owns_mono (World.ownsRow_lit (e := 39) (size := 7) w2 #[] 0 (Nat.le_refl _) (by decide) rfl) hsz2, grown_below' HS2.out.2.2 al2 hsz2, hBw, fun k e1 e2 => by
      have h1 := (HS2.out.2.1.lt k e1).2
      have h2 : w2.heap.size = k := by simpa [Value.ownBlock] using e2
      omega⟩
  obtain ⟨gb, rfl, hgc⟩ := nt_games HSA.out hpos
  clear hL hLl hown c2 g2 HS2 al2 C1 G1 hne hsz1
  go_wp2_with fail
  refine (LB.out 7 _ HSA.out.1 (by omega) (by omega)).mono ?_
  rintro e w3 ⟨y0, hy0, rfl, c3, g3⟩
  have HS3 := Lib.hid (HSA.out.drawn c3 g3)
  clear c3 g3 HSA
  go_wp2
  clear hsz2
  go_loopw [7, 8, 9] (fun nv sv kv wr => ∃ (j : Nat) (LN : List NoteD) (s : Nat), j ≤ 6 ∧ s + 3 * j ≤ 18 ∧ LN.length + 2 * j ≤ 12 ∧ sv = .int .i64 s ∧ kv = .int .i64 j ∧ Hid (NGood n LG s LN) ∧ Hid (NtS B a len cap g w (.slice (some ⟨gb, 0, none⟩) LG.length gc) LG nv LN wr)) (fun _ _ kv _ => (intOf kv).toNat)
  case atStart => exact ⟨y0, [], 0, by omega, by omega, by simp; omega, by go_num, rfl, ⟨fun y hy => (by cases hy), fun y hy => (by cases hy)⟩, HS3⟩
  case round =>
    clear HS3 hy0
    obtain ⟨j, LN, s, hj6, hsj, hLj, rfl, rfl, HG, HS⟩ := hrel
    obtain ⟨na, nc, hnf⟩ := owns_form HS.out.2.2.1
    subst hnf
    by_cases hj0 : 0 < j
    case neg =>
      obtain rfl : j = 0 := by omega
      go_wp2
      go_ret3
      exact ⟨n, _, LG, m, _, LN, s, ⟨hn2, hn4⟩, rfl, HL.out, HLl.out, HG.out, by omega, HS.out⟩
    obtain ⟨j', rfl⟩ : ∃ j', j = j' + 1 := ⟨j - 1, by omega⟩
    go_wp2_with fail
    refine (LB.out 3 _ HS.out.1 (by omega) (by omega)).mono ?_
    rintro e w4 ⟨y, hy, rfl, c4, g4⟩
    have HS4 := Lib.hid (HS.out.drawn c4 g4)
    clear c4 g4 HS
    obtain ⟨s', hs'⟩ : ∃ s' : Nat, (s : Int) + 1 + (y : Int) = s' := ⟨s + 1 + y, by omega⟩
    have hsl : s < s' := by omega
    have hs3 : s' ≤ s + 3 := by omega
    go_wp2_with fail
    refine (LB.out LG.length _ HS4.out.1 hpos (by omega)).mono ?_
    rintro e w5 ⟨q, hq, rfl, c5, g5⟩
    have HS5 := Lib.hid (HS4.out.drawn c5 g5)
    have hq' : (q : Int) < LG.length := by omega
    clear c5 g5 HS4
    go_upto_region 10 with fail
    clear hs' hy
    go_cut [11] (fun s11 wx => ∃ (X : Nat) (st : Int), s11 = .pointer (some ⟨X, 0, none⟩) ∧ (1 ≤ st ∧ st ≤ 4) ∧ Hid (NtX B a len cap g w (.slice (some ⟨gb, 0, none⟩) LG.length gc) LG (.slice na LN.length nc) LN X [.int .i64 s', .int .i64 q, .int .i64 (getG LG q).home, .int .i64 (getG LG q).away, .int .i64 0, .int .i64 0, .int .i64 st] wx))
    case first =>
      obtain ⟨S, HSd⟩ : ∃ S : World → Prop, S = fun w' => NtS B a len cap g w (.slice (some ⟨gb, 0, none⟩) LG.length gc) LG (.slice na LN.length nc) LN w' := ⟨_, rfl⟩
      have OS : Hid (∀ wa, S wa → NtS B a len cap g w (.slice (some ⟨gb, 0, none⟩) LG.length gc) LG (.slice na LN.length nc) LN wa) := by subst HSd; exact fun _ h => h
      have SO : Hid (∀ wa, NtS B a len cap g w (.slice (some ⟨gb, 0, none⟩) LG.length gc) LG (.slice na LN.length nc) LN wa → S wa) := by subst HSd; exact fun _ h => h
      clear HSd
      have KS0 := Lib.hid (SO.out _ (HS5.out.below (Below.refl _ _).drew))
      clear HS5
      go_wp2_with fail
      refine wp_region_held_drew (S := S) (by kernel_rfl) ?_ (fun hH0 => ?_)
      · exact KS0.out
      clear KS0
      generalize w5.drew = wd at *
      refine wpAnyH_take (i := 0) (v := ?_) rfl (by kernel_rfl) (by kernel_rfl) (by kernel_rfl) (fun _ _ _ h => h) (Or.inl ⟨by rfl, ?_⟩) hH0 ?_
      rotate_left
      · (intro wa hSw; skip; go_simp; try with_reducible rfl)
      simp only [Act.put, List.getElem_toArray, List.getElem_cons_zero, List.setIfInBounds_toArray, List.set_cons_zero, List.set_cons_succ]
      refine wpAnyH_take (i := 1) (v := ?_) rfl (by kernel_rfl) (by kernel_rfl) (by kernel_rfl) (fun _ _ _ h => h) (Or.inl ⟨by rfl, ?_⟩) hH0 ?_
      rotate_left
      · (intro wa hSw; skip; go_simp; try with_reducible rfl)
      simp only [Act.put, List.getElem_toArray, List.getElem_cons_zero, List.getElem_cons_succ, List.setIfInBounds_toArray, List.set_cons_zero, List.set_cons_succ]
      refine wpAnyH_take (i := 2) (v := ?_) rfl (by kernel_rfl) (by kernel_rfl) (by kernel_rfl) (fun _ _ _ h => h) (Or.inl ⟨by rfl, ?_⟩) hH0 ?_
      rotate_left
      · (intro wa hSw; skip; go_simp; try with_reducible rfl)
      simp only [Act.put, List.getElem_toArray, List.getElem_cons_zero, List.getElem_cons_succ, List.setIfInBounds_toArray, List.set_cons_zero, List.set_cons_succ]
      refine wpAnyH_take (i := 3) (v := ?_) rfl (by kernel_rfl) (by kernel_rfl) (by kernel_rfl) (fun _ _ _ h => h) (Or.inl ⟨by rfl, ?_⟩) hH0 ?_
      rotate_left
      · (intro wa hSw; skip; go_simp; try with_reducible rfl)
      simp only [Act.put, List.getElem_toArray, List.getElem_cons_zero, List.getElem_cons_succ, List.setIfInBounds_toArray, List.set_cons_zero, List.set_cons_succ]
      refine wpAnyH_take (i := 4) (v := ?_) rfl (by kernel_rfl) (by kernel_rfl) (by kernel_rfl) (fun _ _ _ h => h) (Or.inl ⟨by rfl, ?_⟩) hH0 ?_
      rotate_left
      · (intro wa hSw; skip; go_simp; try with_reducible rfl)
      simp only [Act.put, List.getElem_toArray, List.getElem_cons_zero, List.getElem_cons_succ, List.setIfInBounds_toArray, List.set_cons_zero, List.set_cons_succ]
      refine wpAnyH_take (i := 5) (v := ?_) rfl (by kernel_rfl) (by kernel_rfl) (by kernel_rfl) (fun _ _ _ h => h) (Or.inl ⟨by rfl, ?_⟩) hH0 ?_
      rotate_left
      · (intro wa hSw; skip; go_simp; try with_reducible rfl)
      simp only [Act.put, List.getElem_toArray, List.getElem_cons_zero, List.getElem_cons_succ, List.setIfInBounds_toArray, List.set_cons_zero, List.set_cons_succ]
      refine wpAnyH_take (i := 6) (v := ?_) rfl (by kernel_rfl) (by kernel_rfl) (by kernel_rfl) (fun _ _ _ h => h) (Or.inl ⟨by rfl, ?_⟩) hH0 ?_
      rotate_left
      · (intro wa hSw; have hg1 := nt_game (OS.out _ hSw) hq; obtain ⟨hg1, hg2⟩ := hg1; go_simp; try with_reducible rfl)
      simp only [Act.put, List.getElem_toArray, List.getElem_cons_zero, List.getElem_cons_succ, List.setIfInBounds_toArray, List.set_cons_zero, List.set_cons_succ]
      refine wpAnyH_take (i := 7) (v := ?_) rfl (by kernel_rfl) (by kernel_rfl) (by kernel_rfl) (fun _ _ _ h => h) (Or.inl ⟨by rfl, ?_⟩) hH0 ?_
      rotate_left
      · (intro wa hSw; skip; go_simp; try with_reducible rfl)
      simp only [Act.put, List.getElem_toArray, List.getElem_cons_zero, List.getElem_cons_succ, List.setIfInBounds_toArray, List.set_cons_zero, List.set_cons_succ]
      refine wpAnyH_take (i := 8) (v := ?_) rfl (by kernel_rfl) (by kernel_rfl) (by kernel_rfl) (fun _ _ _ h => h) (Or.inl ⟨by rfl, ?_⟩) hH0 ?_
      rotate_left
      · (intro wa hSw; skip; go_simp; try with_reducible rfl)
      simp only [Act.put, List.getElem_toArray, List.getElem_cons_zero, List.getElem_cons_succ, List.setIfInBounds_toArray, List.set_cons_zero, List.set_cons_succ]
      refine wpAnyH_take (i := 9) (v := ?_) rfl (by kernel_rfl) (by kernel_rfl) (by kernel_rfl) (fun _ _ _ h => h) (Or.inl ⟨by rfl, ?_⟩) hH0 ?_
      rotate_left
      · (intro wa hSw; skip; go_simp; try with_reducible rfl)
      simp only [Act.put, List.getElem_toArray, List.getElem_cons_zero, List.getElem_cons_succ, List.setIfInBounds_toArray, List.set_cons_zero, List.set_cons_succ]
      refine wpAnyH_take (i := 10) (v := ?_) rfl (by kernel_rfl) (by kernel_rfl) (by kernel_rfl) (fun _ _ _ h => h) (Or.inl ⟨by rfl, ?_⟩) hH0 ?_
      rotate_left
      · (intro wa hSw; skip; go_simp; try with_reducible rfl)
      simp only [Act.put, List.getElem_toArray, List.getElem_cons_zero, List.getElem_cons_succ, List.setIfInBounds_toArray, List.set_cons_zero, List.set_cons_succ]
      refine wpAnyH_take (i := 11) (v := ?_) rfl (by kernel_rfl) (by kernel_rfl) (by kernel_rfl) (fun _ _ _ h => h) (Or.inl ⟨by rfl, ?_⟩) hH0 ?_
      rotate_left
      · (intro wa hSw; have hg1 := nt_game (OS.out _ hSw) hq; obtain ⟨hg1, hg2⟩ := hg1; go_simp; try with_reducible rfl)
      simp only [Act.put, List.getElem_toArray, List.getElem_cons_zero, List.getElem_cons_succ, List.setIfInBounds_toArray, List.set_cons_zero, List.set_cons_succ]
      refine wpAnyH_take (i := 12) (v := ?_) rfl (by kernel_rfl) (by kernel_rfl) (by kernel_rfl) (fun _ _ _ h => h) (Or.inl ⟨by rfl, ?_⟩) hH0 ?_
      rotate_left
      · (intro wa hSw; skip; go_simp; try with_reducible rfl)
      simp only [Act.put, List.getElem_toArray, List.getElem_cons_zero, List.getElem_cons_succ, List.setIfInBounds_toArray, List.set_cons_zero, List.set_cons_succ]
      refine wpAnyH_ready (rs := [13, 17]) (by kernel_rfl) (by simp) ?_
      refine AllReadyH.cons (o := _) rfl (fun K13 hK13 => ?_) (AllReadyH.cons (o := _) rfl (fun K17 hK17 => ?_) AllReadyH.nil)
      · have hal : Below wd.heap.size wd (wd.alloc (.cells #[.int .i64 1, .int .i64 1, .int .i64 1, .int .i64 2, .int .i64 3, .int .i64 4] 3)) := (Below.refl _ _).alloc (Nat.le_refl _) _
        have hS1 := SO.out _ ((OS.out _ hH0).below hal)
        have rk := pick6_row wd
        have hvB : (Value.slice (some ⟨wd.heap.size, 0, none⟩) 6 6).ownBlock ≠ some B := by have h7 := (OS.out _ hH0).1.ltW; simp [Value.ownBlock]; omega
        clear hal
        go_simp
        refine hK13.out _ _ ?_ (fun hH => ?_)
        · exact hS1
        clear hK13 K13 hH
        generalize wd.alloc (.cells #[.int .i64 1, .int .i64 1, .int .i64 1, .int .i64 2, .int .i64 3, .int .i64 4] 3) = wq1 at *
        generalize wd.heap.size = V6 at *
        refine wpAnyH_ready (rs := [14, 17]) (by kernel_rfl) (by simp) ?_
        refine AllReadyH.cons (o := _) rfl (fun K14 hK14 => ?_) (AllReadyH.cons (o := _) rfl (fun K17 hK17 => ?_) AllReadyH.nil)
        · go_simp
          refine (LP.out _ _ (OS.out _ hS1).1 rk hvB).mono ?_
          rintro e w22 ⟨⟨z, hz, rfl⟩, cy, gy⟩
          have hS2 := SO.out _ ((OS.out _ hS1).drawn cy gy)
          clear cy gy rk hvB
          (try go_wp2_with fail)
          refine hK14.out _ _ ?_ (fun hH => ?_)
          · exact hS2
          clear hK14 K14 hH
          refine wpAnyH_take (i := 15) (v := ?_) rfl (by kernel_rfl) (by kernel_rfl) (by kernel_rfl) (fun _ _ _ h => h) (Or.inl ⟨by rfl, ?_⟩) hS2 ?_
          rotate_left
          · (intro wa hSw; skip; go_simp; try with_reducible rfl)
          simp only [Act.put, List.getElem_toArray, List.getElem_cons_zero, List.getElem_cons_succ, List.setIfInBounds_toArray, List.set_cons_zero, List.set_cons_succ]
          refine wpAnyH_take (i := 16) (v := ?_) rfl (by kernel_rfl) (by kernel_rfl) (by kernel_rfl) (fun _ _ _ h => h) (Or.inl ⟨by rfl, ?_⟩) hS2 ?_
          rotate_left
          · (intro wa hSw; skip; go_simp; try with_reducible rfl)
          simp only [Act.put, List.getElem_toArray, List.getElem_cons_zero, List.getElem_cons_succ, List.setIfInBounds_toArray, List.set_cons_zero, List.set_cons_succ]
          refine wpAnyH_ready (rs := [17]) (by kernel_rfl) (by simp) ?_
          refine AllReadyH.cons (o := _) rfl (fun K17 hK17 => ?_) AllReadyH.nil
          have hz0 := NtS.start (OS.out _ hS2) #[.int .i64 0, .int .i64 0, .int .i64 0, .int .i64 0, .int .i64 0, .int .i64 0, .int .i64 0] 39
          have hS3 := SO.out _ hz0.1
          go_simp
          refine hK17.out _ _ ?_ (fun hH => ?_)
          · exact hS3
          clear hK17 K17 hH
          generalize w22.alloc (.cells #[.int .i64 0, .int .i64 0, .int .i64 0, .int .i64 0, .int .i64 0, .int .i64 0, .int .i64 0] 39) = wq3 at *
          generalize w22.heap.size = X at *
          have hx := hz0
          clear hz0
          have e0 := (hx.box.2 0 _ rfl)
          have e1 := (hx.box.2 1 _ rfl)
          have e2 := (hx.box.2 2 _ rfl)
          have e3 := (hx.box.2 3 _ rfl)
          have e4 := (hx.box.2 4 _ rfl)
          have e5 := (hx.box.2 5 _ rfl)
          have e6 := (hx.box.2 6 _ rfl)
          obtain ⟨c0, f0⟩ := e0
          obtain ⟨c1, f1⟩ := e1
          obtain ⟨c2, f2⟩ := e2
          obtain ⟨c3, f3⟩ := e3
          obtain ⟨c4, f4⟩ := e4
          obtain ⟨c5, f5⟩ := e5
          obtain ⟨c6, f6⟩ := e6
          have HR := Lib.hid (((((((hx.set 0 (.int .i64 s') (by simp)).set 1 (.int .i64 q) (by simp)).set 2 (.int .i64 (getG LG q).home) (by simp)).set 3 (.int .i64 (getG LG q).away) (by simp)).set 4 (.int .i64 0) (by simp)).set 5 (.int .i64 0) (by simp)).set 6 (.int .i64 (pick6 z)) (by simp))
          have hSst := SO.out _ HR.out.1
          refine wpAnyH_ready (rs := [18]) (by kernel_rfl) (by simp) ?_
          refine AllReadyH.cons (o := _) rfl (fun K hK => ?_) AllReadyH.nil
          go_simp
          refine hK.out _ _ ?_ (fun hH => ?_)
          · exact hSst
          clear hK K
          refine wpAnyH_done (by kernel_rfl) ?_ _
          clear c0 c1 c2 c3 c4 c5 c6 f0 f1 f2 f3 f4 f5 f6 hH hx hSst OS SO hH0 hS1 hS2 hS3
          go_wp2_with fail
          go_meet
          case rel => exact ⟨X, pick6 z, rfl, pick6_in z hz, HR⟩
        · have hz0 := NtS.start (OS.out _ hS1) #[.int .i64 0, .int .i64 0, .int .i64 0, .int .i64 0, .int .i64 0, .int .i64 0, .int .i64 0] 39
          have hS4 := SO.out _ hz0.1
          have rk2 := rk.below ((Below.refl _ wq1).alloc (Nat.le_refl _) (.cells #[.int .i64 0, .int .i64 0, .int .i64 0, .int .i64 0, .int .i64 0, .int .i64 0, .int .i64 0] 39)) (Nat.le_refl _)
          go_simp
          refine hK17.out _ _ ?_ (fun hH => ?_)
          · exact hS4
          clear hK17 K17 hH
          generalize wq1.alloc (.cells #[.int .i64 0, .int .i64 0, .int .i64 0, .int .i64 0, .int .i64 0, .int .i64 0, .int .i64 0] 39) = wq4 at *
          generalize wq1.heap.size = X at *
          have hx := hz0
          clear hz0
          have rk := rk2
          clear rk2
          refine wpAnyH_ready (rs := [14]) (by kernel_rfl) (by simp) ?_
          refine AllReadyH.cons (o := _) rfl (fun K14 hK14 => ?_) AllReadyH.nil
          go_simp
          refine (LP.out _ _ (OS.out _ hS4).1 rk hvB).mono ?_
          rintro e w25 ⟨⟨z, hz, rfl⟩, cy, gy⟩
          have hS5 := SO.out _ ((OS.out _ hS4).drawn cy gy)
          replace hx := hx.drawn cy gy
          clear cy gy rk hvB
          (try go_wp2_with fail)
          refine hK14.out _ _ ?_ (fun hH => ?_)
          · exact hS5
          clear hK14 K14 hH
          refine wpAnyH_take (i := 15) (v := ?_) rfl (by kernel_rfl) (by kernel_rfl) (by kernel_rfl) (fun _ _ _ h => h) (Or.inl ⟨by rfl, ?_⟩) hS5 ?_
          rotate_left
          · (intro wa hSw; skip; go_simp; try with_reducible rfl)
          simp only [Act.put, List.getElem_toArray, List.getElem_cons_zero, List.getElem_cons_succ, List.setIfInBounds_toArray, List.set_cons_zero, List.set_cons_succ]
          refine wpAnyH_take (i := 16) (v := ?_) rfl (by kernel_rfl) (by kernel_rfl) (by kernel_rfl) (fun _ _ _ h => h) (Or.inl ⟨by rfl, ?_⟩) hS5 ?_
          rotate_left
          · (intro wa hSw; skip; go_simp; try with_reducible rfl)
          simp only [Act.put, List.getElem_toArray, List.getElem_cons_zero, List.getElem_cons_succ, List.setIfInBounds_toArray, List.set_cons_zero, List.set_cons_succ]
          have e0 := (hx.box.2 0 _ rfl)
          have e1 := (hx.box.2 1 _ rfl)
          have e2 := (hx.box.2 2 _ rfl)
          have e3 := (hx.box.2 3 _ rfl)
          have e4 := (hx.box.2 4 _ rfl)
          have e5 := (hx.box.2 5 _ rfl)
          have e6 := (hx.box.2 6 _ rfl)
          obtain ⟨c0, f0⟩ := e0
          obtain ⟨c1, f1⟩ := e1
          obtain ⟨c2, f2⟩ := e2
          obtain ⟨c3, f3⟩ := e3
          obtain ⟨c4, f4⟩ := e4
          obtain ⟨c5, f5⟩ := e5
          obtain ⟨c6, f6⟩ := e6
          have HR := Lib.hid (((((((hx.set 0 (.int .i64 s') (by simp)).set 1 (.int .i64 q) (by simp)).set 2 (.int .i64 (getG LG q).home) (by simp)).set 3 (.int .i64 (getG LG q).away) (by simp)).set 4 (.int .i64 0) (by simp)).set 5 (.int .i64 0) (by simp)).set 6 (.int .i64 (pick6 z)) (by simp))
          have hSst := SO.out _ HR.out.1
          refine wpAnyH_ready (rs := [18]) (by kernel_rfl) (by simp) ?_
          refine AllReadyH.cons (o := _) rfl (fun K hK => ?_) AllReadyH.nil
          go_simp
          refine hK.out _ _ ?_ (fun hH => ?_)
          · exact hSst
          clear hK K
          refine wpAnyH_done (by kernel_rfl) ?_ _
          clear c0 c1 c2 c3 c4 c5 c6 f0 f1 f2 f3 f4 f5 f6 hH hx hSst OS SO hH0 hS1 hS4 hS5
          go_wp2_with fail
          go_meet
          case rel => exact ⟨X, pick6 z, rfl, pick6_in z hz, HR⟩
      · have hz0 := NtS.start (OS.out _ hH0) #[.int .i64 0, .int .i64 0, .int .i64 0, .int .i64 0, .int .i64 0, .int .i64 0, .int .i64 0] 39
        have hS6 := SO.out _ hz0.1
        go_simp
        refine hK17.out _ _ ?_ (fun hH => ?_)
        · exact hS6
        clear hK17 K17 hH
        generalize wd.alloc (.cells #[.int .i64 0, .int .i64 0, .int .i64 0, .int .i64 0, .int .i64 0, .int .i64 0, .int .i64 0] 39) = wq6 at *
        generalize wd.heap.size = X at *
        have hx := hz0
        clear hz0
        refine wpAnyH_ready (rs := [13]) (by kernel_rfl) (by simp) ?_
        refine AllReadyH.cons (o := _) rfl (fun K13 hK13 => ?_) AllReadyH.nil
        have hal : Below wq6.heap.size wq6 (wq6.alloc (.cells #[.int .i64 1, .int .i64 1, .int .i64 1, .int .i64 2, .int .i64 3, .int .i64 4] 3)) := (Below.refl _ _).alloc (Nat.le_refl _) _
        have hS7 := SO.out _ ((OS.out _ hS6).below hal)
        have rk := pick6_row wq6
        have hvB : (Value.slice (some ⟨wq6.heap.size, 0, none⟩) 6 6).ownBlock ≠ some B := by have h7 := (OS.out _ hS6).1.ltW; simp [Value.ownBlock]; omega
        replace hx := hx.below hal
        clear hal
        go_simp
        refine hK13.out _ _ ?_ (fun hH => ?_)
        · exact hS7
        clear hK13 K13 hH
        generalize wq6.alloc (.cells #[.int .i64 1, .int .i64 1, .int .i64 1, .int .i64 2, .int .i64 3, .int .i64 4] 3) = wq7 at *
        generalize wq6.heap.size = V6 at *
        refine wpAnyH_ready (rs := [14]) (by kernel_rfl) (by simp) ?_
        refine AllReadyH.cons (o := _) rfl (fun K14 hK14 => ?_) AllReadyH.nil
        go_simp
        refine (LP.out _ _ (OS.out _ hS7).1 rk hvB).mono ?_
        rintro e w28 ⟨⟨z, hz, rfl⟩, cy, gy⟩
        have hS8 := SO.out _ ((OS.out _ hS7).drawn cy gy)
        replace hx := hx.drawn cy gy
        clear cy gy rk hvB
        (try go_wp2_with fail)
        refine hK14.out _ _ ?_ (fun hH => ?_)
        · exact hS8
        clear hK14 K14 hH
        refine wpAnyH_take (i := 15) (v := ?_) rfl (by kernel_rfl) (by kernel_rfl) (by kernel_rfl) (fun _ _ _ h => h) (Or.inl ⟨by rfl, ?_⟩) hS8 ?_
        rotate_left
        · (intro wa hSw; skip; go_simp; try with_reducible rfl)
        simp only [Act.put, List.getElem_toArray, List.getElem_cons_zero, List.getElem_cons_succ, List.setIfInBounds_toArray, List.set_cons_zero, List.set_cons_succ]
        refine wpAnyH_take (i := 16) (v := ?_) rfl (by kernel_rfl) (by kernel_rfl) (by kernel_rfl) (fun _ _ _ h => h) (Or.inl ⟨by rfl, ?_⟩) hS8 ?_
        rotate_left
        · (intro wa hSw; skip; go_simp; try with_reducible rfl)
        simp only [Act.put, List.getElem_toArray, List.getElem_cons_zero, List.getElem_cons_succ, List.setIfInBounds_toArray, List.set_cons_zero, List.set_cons_succ]
        have e0 := (hx.box.2 0 _ rfl)
        have e1 := (hx.box.2 1 _ rfl)
        have e2 := (hx.box.2 2 _ rfl)
        have e3 := (hx.box.2 3 _ rfl)
        have e4 := (hx.box.2 4 _ rfl)
        have e5 := (hx.box.2 5 _ rfl)
        have e6 := (hx.box.2 6 _ rfl)
        obtain ⟨c0, f0⟩ := e0
        obtain ⟨c1, f1⟩ := e1
        obtain ⟨c2, f2⟩ := e2
        obtain ⟨c3, f3⟩ := e3
        obtain ⟨c4, f4⟩ := e4
        obtain ⟨c5, f5⟩ := e5
        obtain ⟨c6, f6⟩ := e6
        have HR := Lib.hid (((((((hx.set 0 (.int .i64 s') (by simp)).set 1 (.int .i64 q) (by simp)).set 2 (.int .i64 (getG LG q).home) (by simp)).set 3 (.int .i64 (getG LG q).away) (by simp)).set 4 (.int .i64 0) (by simp)).set 5 (.int .i64 0) (by simp)).set 6 (.int .i64 (pick6 z)) (by simp))
        have hSst := SO.out _ HR.out.1
        refine wpAnyH_ready (rs := [18]) (by kernel_rfl) (by simp) ?_
        refine AllReadyH.cons (o := _) rfl (fun K hK => ?_) AllReadyH.nil
        go_simp
        refine hK.out _ _ ?_ (fun hH => ?_)
        · exact hSst
        clear hK K
        refine wpAnyH_done (by kernel_rfl) ?_ _
        clear c0 c1 c2 c3 c4 c5 c6 f0 f1 f2 f3 f4 f5 f6 hH hx hSst OS SO hH0 hS6 hS7 hS8
        go_wp2_with fail
        go_meet
        case rel => exact ⟨X, pick6 z, rfl, pick6_in z hz, HR⟩
    case rest =>
      obtain ⟨X, st, rfl, hst, HX⟩ := hcut
      clear HS5
      have k6 := (HX.out.box.2 6 _ rfl).1
      go_upto_if 56 with fail
      clear k6
      go_cut [] (fun wx => ∃ hg ag : Int, Hid (NtX B a len cap g w (.slice (some ⟨gb, 0, none⟩) LG.length gc) LG (.slice na LN.length nc) LN X [.int .i64 s', .int .i64 q, .int .i64 (getG LG q).home, .int .i64 (getG LG q).away, .int .i64 hg, .int .i64 ag, .int .i64 st] wx) ∧ Hid ((st = 1 ∧ (0 ≤ hg ∧ hg ≤ 99) ∧ (0 ≤ ag ∧ ag ≤ 99)) ∨ (st ≠ 1 ∧ hg = 0 ∧ ag = 0)))
      case first =>
        by_cases h1 : st = 1
        · have t1 : (st == 1) = true := beq_iff_eq.2 h1
          have H1 := Lib.hid h1
          clear h1
          go_wp2_with fail
          refine (LB.out 4 _ HX.out.1.1 (by omega) (by omega)).mono ?_
          rintro e w7 ⟨y1, hy1, rfl, c7, g7⟩
          have HX7 := Lib.hid (HX.out.drawn c7 g7)
          clear c7 g7 HX
          have k4 := (HX7.out.box.2 4 _ rfl).1
          have f4 := (HX7.out.box.2 4 _ rfl).2
          have HX8 := Lib.hid (HX7.out.set 4 (.int .i64 y1) (by simp))
          clear HX7
          go_wp2_with fail
          refine (LB.out 4 _ HX8.out.1.1 (by omega) (by omega)).mono ?_
          rintro e w9 ⟨y2, hy2, rfl, c9, g9⟩
          have HX9 := Lib.hid (HX8.out.drawn c9 g9)
          clear c9 g9 HX8 k4 f4
          have k5 := (HX9.out.box.2 5 _ rfl).1
          have f5 := (HX9.out.box.2 5 _ rfl).2
          have HX10 := Lib.hid (HX9.out.set 5 (.int .i64 y2) (by simp))
          clear HX9
          go_wp2_with fail
          go_meet
          case rel => exact ⟨y1, y2, HX10, Or.inl ⟨H1.out, by omega, by omega⟩⟩
        · have t1 : (st == 1) = false := beq_eq_false_iff_ne.2 h1
          have H1 := Lib.hid h1
          clear h1
          go_wp2_with fail
          go_meet
          case rel => exact ⟨0, 0, HX, Or.inr ⟨H1.out, rfl, rfl⟩⟩
      case rest =>
        obtain ⟨hg, ag, HXa, hres⟩ := hcut
        clear HX
        obtain ⟨x, hx⟩ : ∃ x : NoteD, x = (⟨s', q, ⟨(getG LG q).home, (getG LG q).away, hg, ag, st⟩⟩ : NoteD) := ⟨_, rfl⟩
        have HXb : Hid (NtX B a len cap g w (.slice (some ⟨gb, 0, none⟩) LG.length gc) LG (.slice na LN.length nc) LN X x.cells wc) := by rw [hx]; exact HXa.out
        have HXS : Hid (x.serial = (s' : Int)) := by rw [hx]; rfl
        have HVAL : Hid (noteP n LG.length (getG LG) x) := by
          have hgm := sea_game HL.out hn2 (by omega) q hq
          rw [hx]
          refine ⟨⟨by show (1 : Int) ≤ s'; omega, by show (s' : Int) ≤ 100000; omega⟩, ⟨by show (0 : Int) ≤ q; omega, by show (q : Int) ≤ LG.length - 1; omega⟩, ⟨hgm.1, hgm.2.1, hgm.2.2.1, hgm.2.2.2.1, ⟨by show (0 : Int) ≤ st; omega, hst.2⟩, hres.out⟩, ?_, ?_, ?_⟩
          · show st ≠ 0
            omega
          · show (getG LG q).home = (getG LG ((q : Int)).toNat).home
            rw [Int.toNat_natCast]
          · show (getG LG q).away = (getG LG ((q : Int)).toNat).away
            rw [Int.toNat_natCast]
        clear HXa hres hx hst
        obtain ⟨la, hla⟩ : ∃ la : Nat, ((LN.length : Int) + 1) = la := ⟨LN.length + 1, by omega⟩
        have hla' : la = LN.length + 1 := by omega
        have HLA := Lib.hid hla'
        have hla2 : la ≤ 256 := by omega
        have hla0 : 0 < la := by omega
        clear hla'
        go_wp2_with fail
        clear hla
        refine (LB.out la _ HXb.out.1.1 hla0 hla2).mono ?_
        rintro e w10 ⟨at', hat, rfl, c10, g10⟩
        have HX10 := Lib.hid (HXb.out.drawn c10 g10)
        have hat2 : at' ≤ LN.length := by have := HLA.out; omega
        clear c10 g10 HXb HLA hla2 hla0 hat
        have hsz10 : w.heap.size ≤ w10.heap.size := HX10.out.1.size
        go_wp2_with (at_builtin; refine wpList_pushL rfl (.tmp 70) (.tmp 72) 30 rfl w.heap.size 39 Try.underlying30 hi hz0 hz1 hz2 rfl (by decide) [.int .i64 0, .int .i64 0, .int .i64 0, .int .i64 0, .int .i64 0, .int .i64 0, .int .i64 0] rfl (by intro u hu; simp at hu; subst hu; rfl) rfl (by first | rfl | (show Value.slice (some ⟨_, 0, none⟩) 1 1 = _; simp)) HX10.out.1.2.2.1 (by unfold maxLen; omega) (by omega) hsz10 ?_; intro gg cc w11 o11 g11 at11 lt11; have HG11 := Lib.hid (HX10.out.push o11 g11 at11); clear o11 g11 at11 lt11 HX10)
        go_loopw [13] (fun kk wr => ∃ (i : Nat) (u : NoteD), at' ≤ i ∧ i ≤ LN.length ∧ kk = .int .i64 i ∧ Hid (NtG B a len cap g w (.slice (some ⟨gb, 0, none⟩) LG.length gc) LG gg cc (LN.length + 1) ((gapL LN i u).flatMap NoteD.cells) X x.cells wr)) (fun kk _ => (intOf kk).toNat)
        case atStart => exact ⟨LN.length, (⟨0, 0, ⟨0, 0, 0, 0, 0⟩⟩ : NoteD), hat2, Nat.le_refl _, by go_num, Lib.hid (by have := HG11.out; rw [gap_end, List.flatMap_append]; simpa [NoteD.cells] using this)⟩
        case round =>
          clear HG11
          obtain ⟨i, u, hai, hiL, rfl, HGi⟩ := hrel
          have hGi := HGi.out
          have hML := gap_len LN i u hiL
          have HCc := Lib.hid (notes_cells (gapL LN i u))
          rw [hML] at HCc
          have hrow := NoteRow.of_owns hGi.2.2.1 (by omega) HCc.out
          obtain ⟨aa2, cap2, he2, _, hcr⟩ := hrow.form
          obtain ⟨ob2, off2, rfl, hcap2, hcc⟩ := hcr (by omega)
          simp only [Value.slice.injEq, Option.some.injEq, Addr.mk.injEq, and_true, true_and] at he2
          obtain ⟨⟨rfl, rfl⟩, rfl⟩ := he2
          by_cases hij : at' < i
          · obtain ⟨i', rfl⟩ : ∃ i', i = i' + 1 := ⟨i - 1, by omega⟩
            have hcy := hcc i' (by omega)
            simp only [gap_get LN (i' + 1) u i' (by omega) hiL, Nat.zero_add] at hcy
            have HFIN : Hid (setsFrom ((gapL LN (i' + 1) u).flatMap NoteD.cells) ((i' + 1) * 7) (getN' LN i').cells = (gapL LN i' (getN' LN i')).flatMap NoteD.cells) := by
              show _ = _
              rw [flat_set _ _ _ (by omega), gap_set _ _ _ _ hiL, gap_step LN i' (by omega)]
            generalize getN' LN i' = y at *
            obtain ⟨r0, r1, r2, r3, r4, r5, r6⟩ := note_cells hcy
            obtain ⟨u0, e0⟩ := owns_cellR hGi.2.2.1 ((i' + 1) * 7) (by omega)
            have v0 := hGi.2.2.1.frozenAt ((i' + 1) * 7)
            obtain ⟨u1, e1⟩ := owns_cellR hGi.2.2.1 ((i' + 1) * 7 + 1) (by omega)
            have v1 := hGi.2.2.1.frozenAt ((i' + 1) * 7 + 1)
            obtain ⟨u2, e2⟩ := owns_cellR hGi.2.2.1 ((i' + 1) * 7 + 2) (by omega)
            have v2 := hGi.2.2.1.frozenAt ((i' + 1) * 7 + 2)
            obtain ⟨u3, e3⟩ := owns_cellR hGi.2.2.1 ((i' + 1) * 7 + 3) (by omega)
            have v3 := hGi.2.2.1.frozenAt ((i' + 1) * 7 + 3)
            obtain ⟨u4, e4⟩ := owns_cellR hGi.2.2.1 ((i' + 1) * 7 + 4) (by omega)
            have v4 := hGi.2.2.1.frozenAt ((i' + 1) * 7 + 4)
            obtain ⟨u5, e5⟩ := owns_cellR hGi.2.2.1 ((i' + 1) * 7 + 5) (by omega)
            have v5 := hGi.2.2.1.frozenAt ((i' + 1) * 7 + 5)
            obtain ⟨u6, e6⟩ := owns_cellR hGi.2.2.1 ((i' + 1) * 7 + 6) (by omega)
            have v6 := hGi.2.2.1.frozenAt ((i' + 1) * 7 + 6)
            have HNEXT := Lib.hid (((((((hGi.set ((i' + 1) * 7) (.int .i64 y.serial)).set ((i' + 1) * 7 + 1) (.int .i64 y.game)).set ((i' + 1) * 7 + 2) (.int .i64 y.res.home)).set ((i' + 1) * 7 + 3) (.int .i64 y.res.away)).set ((i' + 1) * 7 + 4) (.int .i64 y.res.hg)).set ((i' + 1) * 7 + 5) (.int .i64 y.res.ag)).set ((i' + 1) * 7 + 6) (.int .i64 y.res.st))
            clear hcy hcc hcr hrow HCc hML hGi HGi
            go_wp2
            go_roundw
            case rel => exact ⟨i', y, by omega, by omega, by go_num, Lib.hid (by rw [← HFIN.out]; exact HNEXT.out)⟩
            case measure => simp [intOf]
          · have hij' : at' = i := by omega
            subst hij'
            have HFIN : Hid (setsFrom ((gapL LN at' u).flatMap NoteD.cells) (at' * 7) x.cells = (gapL LN at' x).flatMap NoteD.cells) := by
              show _ = _
              rw [flat_set _ _ _ (by omega), gap_set _ _ _ _ hiL]
            have hGL := gap_len LN at' x hiL
            have HGL := Lib.hid hGL
            have q0 := (hGi.2.2.2.2.2.2.1.2 0 _ rfl).1
            have p0 := (hGi.2.2.2.2.2.2.1.2 0 _ rfl).2
            have q1 := (hGi.2.2.2.2.2.2.1.2 1 _ rfl).1
            have p1 := (hGi.2.2.2.2.2.2.1.2 1 _ rfl).2
            have q2 := (hGi.2.2.2.2.2.2.1.2 2 _ rfl).1
            have p2 := (hGi.2.2.2.2.2.2.1.2 2 _ rfl).2
            have q3 := (hGi.2.2.2.2.2.2.1.2 3 _ rfl).1
            have p3 := (hGi.2.2.2.2.2.2.1.2 3 _ rfl).2
            have q4 := (hGi.2.2.2.2.2.2.1.2 4 _ rfl).1
            have p4 := (hGi.2.2.2.2.2.2.1.2 4 _ rfl).2
            have q5 := (hGi.2.2.2.2.2.2.1.2 5 _ rfl).1
            have p5 := (hGi.2.2.2.2.2.2.1.2 5 _ rfl).2
            have q6 := (hGi.2.2.2.2.2.2.1.2 6 _ rfl).1
            have p6 := (hGi.2.2.2.2.2.2.1.2 6 _ rfl).2
            obtain ⟨u0, e0⟩ := owns_cellR hGi.2.2.1 (at' * 7) (by omega)
            have v0 := hGi.2.2.1.frozenAt (at' * 7)
            obtain ⟨u1, e1⟩ := owns_cellR hGi.2.2.1 (at' * 7 + 1) (by omega)
            have v1 := hGi.2.2.1.frozenAt (at' * 7 + 1)
            obtain ⟨u2, e2⟩ := owns_cellR hGi.2.2.1 (at' * 7 + 2) (by omega)
            have v2 := hGi.2.2.1.frozenAt (at' * 7 + 2)
            obtain ⟨u3, e3⟩ := owns_cellR hGi.2.2.1 (at' * 7 + 3) (by omega)
            have v3 := hGi.2.2.1.frozenAt (at' * 7 + 3)
            obtain ⟨u4, e4⟩ := owns_cellR hGi.2.2.1 (at' * 7 + 4) (by omega)
            have v4 := hGi.2.2.1.frozenAt (at' * 7 + 4)
            obtain ⟨u5, e5⟩ := owns_cellR hGi.2.2.1 (at' * 7 + 5) (by omega)
            have v5 := hGi.2.2.1.frozenAt (at' * 7 + 5)
            obtain ⟨u6, e6⟩ := owns_cellR hGi.2.2.1 (at' * 7 + 6) (by omega)
            have v6 := hGi.2.2.1.frozenAt (at' * 7 + 6)
            have HNEXT : Hid (NtG B a len cap g w (.slice (some ⟨gb, 0, none⟩) LG.length gc) LG gg cc (LN.length + 1) (setsFrom ((gapL LN at' u).flatMap NoteD.cells) (at' * 7) x.cells) X x.cells _) := Lib.hid (((((((hGi.set (at' * 7) (.int .i64 x.serial)).set (at' * 7 + 1) (.int .i64 x.game)).set (at' * 7 + 2) (.int .i64 x.res.home)).set (at' * 7 + 3) (.int .i64 x.res.away)).set (at' * 7 + 4) (.int .i64 x.res.hg)).set (at' * 7 + 5) (.int .i64 x.res.ag)).set (at' * 7 + 6) (.int .i64 x.res.st))
            have HX12 := Lib.hid (NtG.done (LN := gapL LN at' x) HNEXT.out hGL (by rw [← HFIN.out]))
            have HG2 := Lib.hid (HG.out.more (x := x) (s' := s') (by have := HXS.out; omega) HXS.out HVAL.out at')
            have HXM : Hid (x ∈ gapL LN at' x) := by show x ∈ LN.take at' ++ x :: LN.drop at'; simp
            clear hcc hcr hrow HCc hML hGi HGi HNEXT hGL HG
            go_wp2_with fail
            clear q0 q1 q2 q3 q4 q5 q6 p0 p1 p2 p3 p4 p5 p6 e0 e1 e2 e3 e4 e5 e6 v0 v1 v2 v3 v4 v5 v6
            refine (LO.out 5 _ HX12.out.1.1 (by omega) (by omega)).mono ?_
            rintro e w14 ⟨⟨r, rfl⟩, c14, g14⟩
            have HX14 := Lib.hid (HX12.out.drawn c14 g14)
            clear c14 g14 HX12
            cases r with
            | false =>
              go_wp2
              go_roundw
              case rel => exact ⟨j', gapL LN at' x, s', by omega, by omega, by rw [HGL.out]; omega, by first | rfl | go_num, by go_num, HG2, Lib.hid HX14.out.1⟩
              case measure => simp [intOf]
            | true =>
              have q0 := (HX14.out.box.2 0 _ rfl).1
              have q1 := (HX14.out.box.2 1 _ rfl).1
              have q2 := (HX14.out.box.2 2 _ rfl).1
              have q3 := (HX14.out.box.2 3 _ rfl).1
              have q4 := (HX14.out.box.2 4 _ rfl).1
              have q5 := (HX14.out.box.2 5 _ rfl).1
              have q6 := (HX14.out.box.2 6 _ rfl).1
              have hsz14 : w.heap.size ≤ w14.heap.size := HX14.out.1.size
              have hGL2 : (gapL LN at' x).length ≤ 12 := by rw [HGL.out]; omega
              have hX14 : X < w14.heap.size := HX14.out.box.1
              have HO14 : Hid (w14.ownsRow w.heap.size 39 7 (.slice (some ⟨gg, 0, none⟩) (LN.length + 1) cc) (LN.length + 1) ((gapL LN at' x).flatMap NoteD.cells)) := by have := HX14.out.1.2.2.1; rw [HGL.out] at this; exact this
              go_wp2_with (at_builtin; refine wpList_pushL rfl (.tmp 96) (.tmp 98) 30 rfl w.heap.size 39 Try.underlying30 hi hz0 hz1 hz2 rfl (by decide) (NoteD.cells x) rfl (by intro u hu; simp [NoteD.cells] at hu; rcases hu with rfl | rfl | rfl | rfl | rfl | rfl | rfl <;> rfl) rfl (by first | rfl | (show Value.slice (some ⟨_, 0, none⟩) 1 1 = _; simp)) HO14.out (by unfold maxLen; omega) (by omega) hsz14 ?_; intro gg2 cc2 w15 o15 g15 at15 lt15; have HG15 := Lib.hid (HX14.out.push o15 g15 at15); clear o15 g15 at15 lt15)
              have HX15 := Lib.hid (NtG.done (LN := gapL LN at' x ++ [x]) HG15.out (by rw [List.length_append, HGL.out]; rfl) (by rw [List.flatMap_append]; simp))
              go_roundw
              case rel => exact ⟨j', gapL LN at' x ++ [x], s', by omega, by omega, by rw [List.length_append, HGL.out]; simp; omega, by first | rfl | go_num, by go_num, Lib.hid (HG2.out.twice HXM.out), Lib.hid HX15.out.1⟩
              case measure => simp [intOf]
end Go.Proofs.Ytojkonhhaamodaa
set_option linter.unusedVariables false
namespace Go.Proofs.Ytojkonhhaamodaa
open Go.RowKit

theorem leadV_map {α β : Type} (h : α → β) (f : β → Int) (v : Int) : ∀ L : List α, leadV f v (L.map h) = leadV (fun x => f (h x)) v L
  | [] => rfl
  | y :: L => by
    rw [List.map_cons]
    unfold leadV
    rw [leadV_map h f v L]
def lenS (L : List (Int × List Int)) : Nat := (L.map fun x => x.2.length).sum
theorem insP_sum (v t : Int) : ∀ L, lenS (insP v t L) = lenS L + 1
  | [] => rfl
  | (u, p) :: r => by
    have ih := insP_sum v t r
    unfold lenS at ih ⊢
    unfold insP
    split
    · simp only [List.map_cons, List.sum_cons, ih]; omega
    · split
      · simp only [List.map_cons, List.sum_cons, List.length_append, List.length_cons, List.length_nil]; omega
      · simp only [List.map_cons, List.sum_cons, List.length_cons, List.length_nil]; omega
theorem insP_ne (v t : Int) : ∀ L : List (Int × List Int), (∀ x ∈ L, x.2 ≠ []) → ∀ x ∈ insP v t L, x.2 ≠ []
  | [], _, x, hx => by
    unfold insP at hx
    rw [List.mem_singleton.1 hx]; simp
  | (u, p) :: r, h, x, hx => by
    unfold insP at hx
    have hr : ∀ x ∈ r, x.2 ≠ [] := fun x hx => h x (List.mem_cons_of_mem _ hx)
    split at hx
    · rcases List.mem_cons.1 hx with rfl | hx
      · exact h _ (List.mem_cons_self ..)
      · exact insP_ne v t r hr x hx
    · split at hx
      · rcases List.mem_cons.1 hx with rfl | hx
        · simp
        · exact hr x hx
      · rcases List.mem_cons.1 hx with rfl | hx
        · simp
        · exact h x hx
theorem insP_mem (v t : Int) : ∀ L : List (Int × List Int), ∀ x ∈ insP v t L, ∀ u ∈ x.2, u = t ∨ ∃ y ∈ L, u ∈ y.2
  | [], x, hx, u, hu => by
    unfold insP at hx
    rw [List.mem_singleton.1 hx] at hu
    exact .inl (List.mem_singleton.1 hu)
  | (q, p) :: r, x, hx, u, hu => by
    unfold insP at hx
    split at hx
    · rcases List.mem_cons.1 hx with rfl | hx
      · exact .inr ⟨_, List.mem_cons_self .., hu⟩
      · rcases insP_mem v t r x hx u hu with h | ⟨y, hy, h⟩
        · exact .inl h
        · exact .inr ⟨y, List.mem_cons_of_mem _ hy, h⟩
    · split at hx
      · rcases List.mem_cons.1 hx with rfl | hx
        · rcases List.mem_append.1 hu with h | h
          · exact .inr ⟨_, List.mem_cons_self .., h⟩
          · exact .inl (List.mem_singleton.1 h)
        · exact .inr ⟨x, List.mem_cons_of_mem _ hx, hu⟩
      · rcases List.mem_cons.1 hx with rfl | hx
        · exact .inl (List.mem_singleton.1 hu)
        · exact .inr ⟨x, hx, hu⟩
theorem insP_len (v t : Int) : ∀ L, (insP v t L).length ≤ L.length + 1
  | [] => Nat.le_refl _
  | (u, p) :: r => by
    have ih := insP_len v t r
    unfold insP
    split
    · simp only [List.length_cons]; omega
    · split
      · simp only [List.length_cons]; omega
      · simp only [List.length_cons]; omega
section
variable (V gg : Nat → Int)
theorem splitP_sum : ∀ k, lenS (splitP V gg k) = k
  | 0 => rfl
  | k + 1 => by unfold splitP; rw [insP_sum, splitP_sum k]
theorem splitP_ne : ∀ k, ∀ x ∈ splitP V gg k, x.2 ≠ []
  | 0, x, hx => by cases hx
  | k + 1, x, hx => insP_ne _ _ _ (splitP_ne k) x hx
theorem splitP_mem : ∀ k, ∀ x ∈ splitP V gg k, ∀ u ∈ x.2, ∃ i, i < k ∧ u = gg i
  | 0, x, hx => by cases hx
  | k + 1, x, hx => fun u hu => by
    rcases insP_mem _ _ _ x hx u hu with h | ⟨y, hy, h⟩
    · exact ⟨k, Nat.lt_succ_self _, h⟩
    · obtain ⟨i, hi, e⟩ := splitP_mem k y hy u h
      exact ⟨i, by omega, e⟩
theorem splitP_len : ∀ k, (splitP V gg k).length ≤ k
  | 0 => Nat.le_refl _
  | k + 1 => by unfold splitP; have := insP_len (V (gg k).toNat) (gg k) (splitP V gg k); have := splitP_len k; omega
theorem splitP_congr {V' gg' : Nat → Int} : ∀ k, (∀ i, i < k → gg i = gg' i) → (∀ i, V i = V' i) → splitP V gg k = splitP V' gg' k
  | 0, _, _ => rfl
  | k + 1, h, hV => by
    unfold splitP
    rw [splitP_congr k (fun i hi => h i (by omega)) hV, h k (Nat.lt_succ_self _), hV]
end
theorem part_le {L : List (Int × List Int)} {x : Int × List Int} (h : x ∈ L) : x.2.length ≤ lenS L := by
  induction L with
  | nil => cases h
  | cons y L ih =>
    unfold lenS at ih ⊢
    rw [List.map_cons, List.sum_cons]
    rcases List.mem_cons.1 h with rfl | h
    · omega
    · have := ih h; omega
theorem sum_pos {L : List (Int × List Int)} (hne : ∀ x ∈ L, x.2 ≠ []) (h : L ≠ []) : 0 < lenS L := by
  cases L with
  | nil => exact absurd rfl h
  | cons y L =>
    unfold lenS
    rw [List.map_cons, List.sum_cons]
    have := List.length_pos_iff.2 (hne y (List.mem_cons_self ..))
    omega
theorem part_lt {L : List (Int × List Int)} {x : Int × List Int} (hne : ∀ x ∈ L, x.2 ≠ []) (h : x ∈ L) (hl : 1 < L.length) : x.2.length < lenS L := by
  cases L with
  | nil => cases h
  | cons y L =>
    have hL : L ≠ [] := by intro e; subst e; simp at hl
    have hp := sum_pos (fun x hx => hne x (List.mem_cons_of_mem _ hx)) hL
    have hy := List.length_pos_iff.2 (hne y (List.mem_cons_self ..))
    rcases List.mem_cons.1 h with rfl | h
    · unfold lenS at hp ⊢; rw [List.map_cons, List.sum_cons]; omega
    · have := part_le h
      unfold lenS at this ⊢; rw [List.map_cons, List.sum_cons]; omega
/-- the parts of a group with equal values of a key -/
def partsL (b : BookD) (key : Int) (gg : Nat → Int) (n : Nat) : List (List Int) := (splitP (bookV b key gg n) gg n).map Prod.snd
theorem partsL_le {b : BookD} {key : Int} {gg : Nat → Int} {n : Nat} {p : List Int} (h : p ∈ partsL b key gg n) : p.length ≤ n := by
  obtain ⟨x, hx, rfl⟩ := List.mem_map.1 h
  have := part_le hx
  rw [splitP_sum] at this
  exact this
theorem partsL_lt {b : BookD} {key : Int} {gg : Nat → Int} {n : Nat} {p : List Int} (h : p ∈ partsL b key gg n) (hl : 1 < (partsL b key gg n).length) : p.length < n := by
  obtain ⟨x, hx, rfl⟩ := List.mem_map.1 h
  have := part_lt (splitP_ne _ _ _) hx (by unfold partsL at hl; rwa [List.length_map] at hl)
  rw [splitP_sum] at this
  exact this
theorem partsL_ne {b : BookD} {key : Int} {gg : Nat → Int} {n : Nat} {p : List Int} (h : p ∈ partsL b key gg n) : p ≠ [] := by
  obtain ⟨x, hx, rfl⟩ := List.mem_map.1 h
  exact splitP_ne _ _ _ x hx
theorem partsL_mem {b : BookD} {key : Int} {gg : Nat → Int} {n : Nat} {p : List Int} (h : p ∈ partsL b key gg n) : ∀ u ∈ p, ∃ i, i < n ∧ u = gg i := by
  obtain ⟨x, hx, rfl⟩ := List.mem_map.1 h
  exact splitP_mem _ _ _ x hx
theorem partsL_len {b : BookD} {key : Int} {gg : Nat → Int} {n : Nat} : (partsL b key gg n).length ≤ n := by
  unfold partsL; rw [List.length_map]; exact splitP_len _ _ _
/-- what a ranking from a step on has before it -/
def rankM (nl n s : Nat) : Nat := n * (nl + 1) + (nl - s)
/-- the step from which the parts of a group are ranked -/
def nextS (b : BookD) (m s : Nat) : Nat := if 1 < m ∧ b.again = true ∧ mutualB (b.l s) = true then 0 else s + 1
/-- the ranking of a group by the keys from a step on -/
def rankF (b : BookD) : Nat → List Int → Nat → List (List Int)
  | 0, _, _ => []
  | f + 1, G, s => if G = [] then [] else if G.length = 1 ∨ b.nl ≤ s then [G] else
      (partsL b (b.l s) (getI G) G.length).flatMap fun p => rankF b f p (nextS b (partsL b (b.l s) (getI G) G.length).length s)
theorem rankM_lt {b : BookD} {G p : List Int} {s : Nat} (hs : s < b.nl) (h : p ∈ partsL b (b.l s) (getI G) G.length) :
    rankM b.nl p.length (nextS b (partsL b (b.l s) (getI G) G.length).length s) < rankM b.nl G.length s := by
  unfold rankM nextS
  have h1 := partsL_le h
  split
  · next hh =>
    have h2 := partsL_lt h hh.1
    have h3 : (p.length + 1) * (b.nl + 1) ≤ G.length * (b.nl + 1) := Nat.mul_le_mul_right _ h2
    have h4 : (p.length + 1) * (b.nl + 1) = p.length * (b.nl + 1) + (b.nl + 1) := Nat.succ_mul _ _
    omega
  · have h3 : p.length * (b.nl + 1) ≤ G.length * (b.nl + 1) := Nat.mul_le_mul_right _ h1
    omega
theorem rankF_fuel (b : BookD) : ∀ f f' G s, rankM b.nl G.length s < f → rankM b.nl G.length s < f' → rankF b f G s = rankF b f' G s
  | 0, _, _, _, h, _ => absurd h (Nat.not_lt_zero _)
  | _ + 1, 0, _, _, _, h => absurd h (Nat.not_lt_zero _)
  | f + 1, f' + 1, G, s, h, h' => by
    unfold rankF
    by_cases hG : G = []
    · rw [if_pos hG, if_pos hG]
    · rw [if_neg hG, if_neg hG]
      by_cases hs : G.length = 1 ∨ b.nl ≤ s
      · rw [if_pos hs, if_pos hs]
      · rw [if_neg hs, if_neg hs, List.flatMap_def, List.flatMap_def]
        congr 1
        refine List.map_congr_left fun p hp => ?_
        have := rankM_lt (b := b) (s := s) (by omega) hp
        exact rankF_fuel b f f' p _ (by omega) (by omega)
/-- the ranking of a group -/
def rankP (b : BookD) (G : List Int) (s : Nat) : List (List Int) := rankF b (rankM b.nl G.length s + 1) G s
theorem rankP_nil (b : BookD) (s : Nat) : rankP b [] s = [] := by
  unfold rankP rankF; rw [if_pos rfl]
theorem rankP_one (b : BookD) {G : List Int} {s : Nat} (hG : G ≠ []) (h : G.length = 1 ∨ b.nl ≤ s) : rankP b G s = [G] := by
  unfold rankP rankF; rw [if_neg hG, if_pos h]
theorem rankP_step (b : BookD) {G : List Int} {s : Nat} (hG : G ≠ []) (h1 : G.length ≠ 1) (hs : s < b.nl) :
    rankP b G s = (partsL b (b.l s) (getI G) G.length).flatMap fun p => rankP b p (nextS b (partsL b (b.l s) (getI G) G.length).length s) := by
  unfold rankP
  conv => lhs; unfold rankF
  rw [if_neg hG, if_neg (by omega), List.flatMap_def, List.flatMap_def]
  congr 1
  refine List.map_congr_left fun p hp => ?_
  exact rankF_fuel b _ _ p _ (rankM_lt hs hp) (Nat.lt_succ_self _)
end Go.Proofs.Ytojkonhhaamodaa
