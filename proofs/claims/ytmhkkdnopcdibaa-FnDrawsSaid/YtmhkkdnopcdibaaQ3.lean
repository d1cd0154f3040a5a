/-
  Packed: Draw1, First, TyIntS, Push, Push2, TextA, Orders, HasMem.
-/
import Derived.BigRegion
import Derived.Deep.AppendLies
import Derived.Laws.AppendOwnNone
import Derived.Test.YtmhkkdnopcdibaaProg
import Derived.WalkKit
import Derived.BigQuiet
import Derived.Deep.QuietTactic
import Derived.Lib.Hide
import Derived.Outline
import Derived.Test.YtmhkkdnopcdibaaQ1
import Derived.Test.YtmhkkdnopcdibaaQ2
set_option linter.unusedVariables false
namespace Go.Proofs.Ytmhkkdnopcdibaa
open Go.RowKit

structure DrwD where
  (fb fo nf fc tb to tc pb po pc gb gcap cb ccap N G NP : Nat)
  (r rc q qc team pot cl : Nat → Nat)
  most : Int
structure DrwAt (w : World) (lo hi X : Nat) (d : DrwD) (P : Nat → Nat → Bool) (C : Nat → Nat → Int) : Prop where
  box : BoxN w X [.slice (some ⟨d.fb, d.fo, none⟩) d.nf d.fc, .int .i64 d.most, .slice (some ⟨d.tb, d.to, none⟩) d.N d.tc, .slice (some ⟨d.pb, d.po, none⟩) d.N d.pc, .slice (some ⟨d.gb, 0, none⟩) d.G d.gcap, .slice (some ⟨d.cb, 0, none⟩) d.G d.ccap]
  low : X < lo ∧ d.fb < lo ∧ d.tb < lo ∧ d.pb < lo
  caps : d.nf ≤ d.fc ∧ d.N ≤ d.tc ∧ d.N ≤ d.pc ∧ d.N ≤ 12 ∧ d.G ≤ 4 ∧ d.nf ≤ 8 ∧ d.NP ≤ 3
  team : ∀ i, i < d.N → w.cell? ⟨d.tb, d.to + i, none⟩ = some (.int .i64 (d.team i)) ∧ d.team i < d.nf
  pot : ∀ i, i < d.N → w.cell? ⟨d.pb, d.po + i, none⟩ = some (.int .i64 (d.pot i)) ∧ d.pot i < d.NP
  club : ∀ i, i < d.N → w.cell? ⟨d.fb, d.fo + d.team i * 3 + 1, none⟩ = some (.int .i64 (d.cl i)) ∧ d.cl i < 6
  mp : Mat w lo hi d.gb d.gcap d.r d.rc d.G d.NP (fun g j => .bool (P g j))
  mc : Mat w lo hi d.cb d.ccap d.q d.qc d.G 6 (fun g j => .int .i64 (C g j))
  apart : d.gb ≠ d.cb ∧ (∀ g, g < d.G → d.r g ≠ d.cb ∧ d.q g ≠ d.gb) ∧ ∀ g h, g < d.G → h < d.G → d.r g ≠ d.q h
theorem DrwAt.below {w w' : World} {lo hi X : Nat} {d : DrwD} {P : Nat → Nat → Bool} {C : Nat → Nat → Int} (h : DrwAt w lo hi X d P C) (b : Below w.heap.size w w') : DrwAt w' lo hi X d P C :=
  ⟨h.box.below b, h.low, h.caps, fun i hi => ⟨(b.cell (p := ⟨d.tb, d.to + i, none⟩) (World.block_lt_of_cell? w _ (h.team i hi).1)).trans (h.team i hi).1, (h.team i hi).2⟩,
    fun i hi => ⟨(b.cell (p := ⟨d.pb, d.po + i, none⟩) (World.block_lt_of_cell? w _ (h.pot i hi).1)).trans (h.pot i hi).1, (h.pot i hi).2⟩,
    fun i hi => ⟨(b.cell (p := ⟨d.fb, d.fo + d.team i * 3 + 1, none⟩) (World.block_lt_of_cell? w _ (h.club i hi).1)).trans (h.club i hi).1, (h.club i hi).2⟩, h.mp.below b, h.mc.below b, h.apart⟩
theorem DrwAt.stays {w : World} {lo hi X : Nat} {d : DrwD} {P P' : Nat → Nat → Bool} {C C' : Nat → Nat → Int} (h : DrwAt w lo hi X d P C) {p : Addr} {u : Value} (hp : lo ≤ p.block)
    (h1 : Mat (w.setCell p u) lo hi d.gb d.gcap d.r d.rc d.G d.NP (fun g j => .bool (P' g j))) (h2 : Mat (w.setCell p u) lo hi d.cb d.ccap d.q d.qc d.G 6 (fun g j => .int .i64 (C' g j))) : DrwAt (w.setCell p u) lo hi X d P' C' := by
  have key : ∀ (b o : Nat) (v : Value), b < lo → w.cell? ⟨b, o, none⟩ = some v → (w.setCell p u).cell? ⟨b, o, none⟩ = some v := fun b o v hb hc => by
    rw [World.cell?_setCell_other _ _ _ _ (by intro e; subst e; exact absurd hp (by simp; omega))]
    exact hc
  have hl := h.low
  exact ⟨⟨by simpa [World.setCell] using h.box.1, fun j v hv => key _ _ _ hl.1 (h.box.2 j v hv)⟩, h.low, h.caps, fun i hi => ⟨key _ _ _ hl.2.2.1 (h.team i hi).1, (h.team i hi).2⟩, fun i hi => ⟨key _ _ _ hl.2.2.2 (h.pot i hi).1, (h.pot i hi).2⟩,
    fun i hi => ⟨key _ _ _ hl.2.1 (h.club i hi).1, (h.club i hi).2⟩, h1, h2, h.apart⟩
def putP (d : DrwD) (P : Nat → Nat → Bool) (i g : Nat) (on : Bool) : Nat → Nat → Bool := fun a b => if a = g ∧ b = d.pot i then on else P a b
def putC (d : DrwD) (C : Nat → Nat → Int) (i g : Nat) (on : Bool) : Nat → Nat → Int := fun a b => if a = g ∧ b = d.cl i then (if on = true then C g (d.cl i) + 1 else C g (d.cl i) - 1) else C a b
def fitB (d : DrwD) (P : Nat → Nat → Bool) (C : Nat → Nat → Int) (i g : Nat) : Bool := !P g (d.pot i) && decide (C g (d.cl i) < d.most)
set_option maxRecDepth 100000 in
set_option maxHeartbeats 8000000 in
theorem l12Fits_spec (w : World) (lo hi X : Nat) (d : DrwD) (P : Nat → Nat → Bool) (C : Nat → Nat → Int) (i g : Nat) (h : DrwAt w lo hi X d P C) (hi9 : i < d.N) (hg9 : g < d.G) :
    Calls Try.prog 71 #[.pointer (some ⟨X, 0, none⟩), .int .i64 i, .int .i64 g] w fun e w' => e = .returned (.bool (fitB d P C i g)) ∧ Below w.heap.size w w' := by
  unfold fitB
  have c0 := h.box.2 0 _ rfl
  have c1 := h.box.2 1 _ rfl
  have c2 := h.box.2 2 _ rfl
  have c3 := h.box.2 3 _ rfl
  have c4 := h.box.2 4 _ rfl
  have c5 := h.box.2 5 _ rfl
  obtain ⟨k1, k2, k3, k4, k5, k6, k7⟩ := h.caps
  obtain ⟨t1, t2⟩ := h.team i hi9
  obtain ⟨p1, p2⟩ := h.pot i hi9
  obtain ⟨u1, u2⟩ := h.club i hi9
  have g1 := h.mp.cell g hg9
  have g2 := (h.mp.val g _ hg9 p2).1
  have g3 := h.mc.cell g hg9
  have g4 := (h.mc.val g _ hg9 u2).1
  have g5 := h.mp.rcap g hg9
  have g6 := h.mc.rcap g hg9
  have g7 := h.mp.cap
  have g8 := h.mc.cap
  clear h
  generalize d.team i = tm at *
  generalize d.pot i = pt at *
  generalize d.cl i = cl at *
  generalize d.r g = rg at *
  generalize d.q g = qg at *
  generalize d.rc g = rcg at *
  generalize d.qc g = qcg at *
  generalize P g pt = pv at *
  generalize C g cl = cv at *
  obtain ⟨fb, fo, nf, fc, tb, to, tc, pb, po, pc, gb, gcap, cb, ccap, N, G, NP, _, _, _, _, _, _, _, most⟩ := d
  simp only at *
  have i1 : (i : Int) < (N : Int) := by omega
  have i2 : (g : Int) < (G : Int) := by omega
  have i3 : (pt : Int) < (NP : Int) := by omega
  have i4 : (tm : Int) < (nf : Int) := by omega
  have i5 : (cl : Int) < 6 := by omega
  cases pv with
  | true =>
    go_enter Try.func71, Try.ntmps71
    go_wp2_with (go_quiet (fail))
    go_ret
    exact ⟨rfl, below_drewN (Below.refl _ _) _⟩
  | false =>
    cases hx : decide (cv < most) with
    | true =>
      go_enter Try.func71, Try.ntmps71
      go_wp2_with (go_quiet (fail))
      go_ret
      exact ⟨rfl, below_drewN (Below.refl _ _) _⟩
    | false =>
      go_enter Try.func71, Try.ntmps71
      go_wp2_with (go_quiet (fail))
      go_ret
      exact ⟨rfl, below_drewN (Below.refl _ _) _⟩
theorem DrwAt.putPot {w : World} {lo hi X : Nat} {d : DrwD} {P : Nat → Nat → Bool} {C : Nat → Nat → Int} (h : DrwAt w lo hi X d P C) {i g : Nat} (hi9 : i < d.N) (hg9 : g < d.G) (on : Bool) : DrwAt (w.setCell ⟨d.r g, d.pot i, none⟩ (.bool on)) lo hi X d (putP d P i g on) C := by
  refine h.stays (h.mp.row g hg9).1 ((h.mp.put hg9 (h.pot i hi9).2 (.bool on)).congr fun a b _ _ => ?_) (h.mc.other _ _ (h.apart.2.1 g hg9).1 fun k hk => h.apart.2.2 g k hg9 hk)
  unfold putP
  by_cases e : a = g ∧ b = d.pot i
  · rw [if_pos e, if_pos e]
  · rw [if_neg e, if_neg e]
theorem DrwAt.putClub {w : World} {lo hi X : Nat} {d : DrwD} {P : Nat → Nat → Bool} {C : Nat → Nat → Int} (h : DrwAt w lo hi X d P C) {i g : Nat} (hi9 : i < d.N) (hg9 : g < d.G) (on : Bool) {z : Int} (hz : z = if on = true then C g (d.cl i) + 1 else C g (d.cl i) - 1) : DrwAt (w.setCell ⟨d.q g, d.cl i, none⟩ (.int .i64 z)) lo hi X d P (putC d C i g on) := by
  refine h.stays (h.mc.row g hg9).1 (h.mp.other _ _ (h.apart.2.1 g hg9).2 fun k hk e => h.apart.2.2 k g hk hg9 e.symm) ((h.mc.put hg9 (h.club i hi9).2 (.int .i64 z)).congr fun a b _ _ => ?_)
  unfold putC
  by_cases e : a = g ∧ b = d.cl i
  · rw [if_pos e, if_pos e, hz]
  · rw [if_neg e, if_neg e]
theorem DrwAt.putClubD {w1 : World} {n : Nat} {lo hi X : Nat} {d : DrwD} {P : Nat → Nat → Bool} {C : Nat → Nat → Int} (h : DrwAt w1 lo hi X d P C) {i g qg cl : Nat} {cv : Int} (hi9 : i < d.N) (hg9 : g < d.G) (hq : d.q g = qg) (hc : d.cl i = cl) (hv : C g cl = cv) (on : Bool) {z : Int} (hz : z = if on = true then cv + 1 else cv - 1) :
    DrwAt ((w1.drewN n).setCell ⟨qg, cl, none⟩ (.int .i64 z)) lo hi X d P (putC d C i g on) := by
  subst hq hc hv
  exact (h.below (below_drewN (Below.refl _ _) n)).putClub hi9 hg9 on hz
theorem touch_club {w w1 : World} {lo hi n : Nat} (h : Touch lo hi w w1) {b o : Nat} {u : Value} (h1 : lo ≤ b) (h2 : b < hi) : Touch lo hi w ((w1.drewN n).setCell ⟨b, o, none⟩ u) :=
  (h.trans (Touch.of_below (below_drewN (Below.refl _ _) n))).setCell ⟨b, o, none⟩ u h1 h2
set_option maxRecDepth 100000 in
set_option maxHeartbeats 8000000 in
theorem l12Put_spec (w : World) (lo hi X : Nat) (d : DrwD) (P : Nat → Nat → Bool) (C : Nat → Nat → Int) (i g : Nat) (on : Bool) (h : DrwAt w lo hi X d P C) (hi9 : i < d.N) (hg9 : g < d.G) (hC : -100 ≤ C g (d.cl i) ∧ C g (d.cl i) ≤ 100) :
    Calls Try.prog 72 #[.pointer (some ⟨X, 0, none⟩), .int .i64 i, .int .i64 g, .bool on] w fun e w' => e = .returned (.tuple #[]) ∧ DrwAt w' lo hi X d (putP d P i g on) (putC d C i g on) ∧ Touch lo hi w w' := by
  have HH := Lib.hid h
  have H1 : Hid (DrwAt (w.setCell ⟨d.r g, d.pot i, none⟩ (.bool on)).drew lo hi X d (putP d P i g on) C) := (h.putPot hi9 hg9 on).below (Below.refl _ _).drew
  have T1 : Hid (Touch lo hi w (w.setCell ⟨d.r g, d.pot i, none⟩ (.bool on)).drew) := ((Touch.refl lo hi w).setCell ⟨d.r g, d.pot i, none⟩ _ (h.mp.row g hg9).1 (h.mp.row g hg9).2.1).trans (Touch.of_below (Below.refl _ _).drew)
  have HQR := Lib.hid (h.mc.row g hg9)
  have c0 := h.box.2 0 _ rfl
  have c2 := h.box.2 2 _ rfl
  have c3 := h.box.2 3 _ rfl
  have c4 := h.box.2 4 _ rfl
  have c5 := h.box.2 5 _ rfl
  obtain ⟨k1, k2, k3, k4, k5, k6, k7⟩ := h.caps
  obtain ⟨t1, t2⟩ := h.team i hi9
  obtain ⟨p1, p2⟩ := h.pot i hi9
  obtain ⟨u1, u2⟩ := h.club i hi9
  have g1 := h.mp.cell g hg9
  have g2 := (h.mp.val g _ hg9 p2).1
  have f2 := (h.mp.val g _ hg9 p2).2
  have g3 := h.mc.cell g hg9
  have g4 := (h.mc.val g _ hg9 u2).1
  have f4 := (h.mc.val g _ hg9 u2).2
  have g5 := h.mp.rcap g hg9
  have g6 := h.mc.rcap g hg9
  have g7 := h.mp.cap
  have g8 := h.mc.cap
  have hc1 := hC.1
  have hc2 := hC.2
  clear h hC
  obtain ⟨tm, htm⟩ : ∃ x, d.team i = x := ⟨_, rfl⟩
  obtain ⟨pt, hpt⟩ : ∃ x, d.pot i = x := ⟨_, rfl⟩
  obtain ⟨cl, hcl⟩ : ∃ x, d.cl i = x := ⟨_, rfl⟩
  obtain ⟨rg, hrg⟩ : ∃ x, d.r g = x := ⟨_, rfl⟩
  obtain ⟨qg, hqg⟩ : ∃ x, d.q g = x := ⟨_, rfl⟩
  rw [htm] at t1 t2 u1
  rw [hpt] at p1 p2 g2 f2
  rw [hcl] at u1 u2 g4 f4 hc1 hc2
  rw [hrg] at g1 g2 f2 H1 T1
  rw [hpt] at H1 T1
  rw [hqg] at g3 g4 f4
  generalize d.rc g = rcg at *
  generalize d.qc g = qcg at *
  generalize P g pt = pv at *
  obtain ⟨cv, hcv⟩ : ∃ x, C g cl = x := ⟨_, rfl⟩
  rw [hcv] at g4 hc1 hc2
  have i1 : (i : Int) < (d.N : Int) := by omega
  have i2 : (g : Int) < (d.G : Int) := by omega
  have i3 : (pt : Int) < (d.NP : Int) := by omega
  have i4 : (tm : Int) < (d.nf : Int) := by omega
  have i5 : (cl : Int) < 6 := by omega
  have HTM := Lib.hid htm
  have HPT := Lib.hid hpt
  have HCL := Lib.hid hcl
  have HRG := Lib.hid hrg
  have HQG := Lib.hid hqg
  have HCV := Lib.hid hcv
  clear htm hpt hcl hrg hqg hcv
  go_enter Try.func72, Try.ntmps72
  go_wp2_with fail
  go_region
  clear c0 c2 c3 c4 c5 t1 p1 u1 g1 g2 f2 g3 g4 f4
  generalize (w.setCell ⟨rg, pt, none⟩ (.bool on)).drew = w1 at *
  have c0 := H1.out.box.2 0 _ rfl
  have c2 := H1.out.box.2 2 _ rfl
  have c5 := H1.out.box.2 5 _ rfl
  have t1 := (H1.out.team i hi9).1
  have u1 := (H1.out.club i hi9).1
  have g3 := H1.out.mc.cell g hg9
  have g4 := (H1.out.mc.val g cl hg9 u2).1
  have f4 := (H1.out.mc.val g cl hg9 u2).2
  rw [HTM.out] at t1 u1
  rw [HCL.out] at u1
  rw [HQG.out] at g3 g4 f4
  rw [HCV.out] at g4
  obtain ⟨rc9, hrc9⟩ : ∃ x, d.qc g = x := ⟨_, rfl⟩
  have g6' : 6 ≤ rc9 := by rw [← hrc9]; exact H1.out.mc.rcap g hg9
  rw [hrc9] at g3
  clear hrc9
  have r1 : lo ≤ qg ∧ qg < hi := by have h9 := HQR.out; rw [HQG.out] at h9; exact ⟨h9.1, h9.2.1⟩
  cases on with
  | true =>
    go_wp2_with (go_quiet (fail))
    refine bodyPost_end (results_none rfl _ _ _) rfl ?_
    exact ⟨rfl, H1.out.putClubD hi9 hg9 HQG.out HCL.out HCV.out true (by rw [if_pos rfl]), touch_club T1.out r1.1 r1.2⟩
  | false =>
    go_wp2_with (go_quiet (fail))
    refine bodyPost_end (results_none rfl _ _ _) rfl ?_
    exact ⟨rfl, H1.out.putClubD hi9 hg9 HQG.out HCL.out HCV.out false (by rw [if_neg (by simp)]), touch_club T1.out r1.1 r1.2⟩
end Go.Proofs.Ytmhkkdnopcdibaa
set_option linter.unusedVariables false
namespace Go.Proofs.Ytmhkkdnopcdibaa
open Go.RowKit

def firstI (p : Nat → Bool) : Nat → Nat → Int
  | 0, _ => -1
  | r + 1, k => if p k = true then (k : Int) else firstI p r (k + 1)
theorem firstI_pos (p : Nat → Bool) (r : Nat) : ∀ k, 0 ≤ firstI p r k ↔ ∃ j, k ≤ j ∧ j < k + r ∧ p j = true := by
  induction r with
  | zero => intro k; unfold firstI; constructor
            · intro h; omega
            · rintro ⟨j, h1, h2, _⟩; omega
  | succ r ih =>
    intro k
    unfold firstI
    by_cases h : p k = true
    · rw [if_pos h]
      exact ⟨fun _ => ⟨k, Nat.le_refl _, by omega, h⟩, fun _ => by omega⟩
    · rw [if_neg h, ih (k + 1)]
      constructor
      · rintro ⟨j, h1, h2, h3⟩; exact ⟨j, by omega, by omega, h3⟩
      · rintro ⟨j, h1, h2, h3⟩
        refine ⟨j, ?_, by omega, h3⟩
        rcases Nat.lt_or_ge k j with h4 | h4
        · omega
        · obtain rfl : j = k := by omega
          exact absurd h3 h
theorem firstI_step {p : Nat → Bool} {k n : Nat} (h : k < n) : firstI p (n - k) k = if p k = true then (k : Int) else firstI p (n - (k + 1)) (k + 1) := by
  rw [show n - k = n - (k + 1) + 1 by omega]; rfl
theorem firstI_ge (p : Nat → Bool) (r : Nat) : ∀ k, firstI p r k = -1 ∨ (k : Int) ≤ firstI p r k ∧ firstI p r k < (k : Int) + r := by
  induction r with
  | zero => intro k; exact .inl rfl
  | succ r ih =>
    intro k
    unfold firstI
    by_cases h : p k = true
    · rw [if_pos h]; right; omega
    · rw [if_neg h]
      rcases ih (k + 1) with h1 | h1
      · exact .inl h1
      · right; omega
theorem firstI_congr {p q : Nat → Bool} (r : Nat) : ∀ k, (∀ i, k ≤ i → i < k + r → p i = q i) → firstI p r k = firstI q r k := by
  induction r with
  | zero => intro k _; rfl
  | succ r ih =>
    intro k h
    unfold firstI
    rw [h k (Nat.le_refl _) (by omega), ih (k + 1) fun i h1 h2 => h i (by omega) (by omega)]
theorem firstI_eq {p : Nat → Bool} (r : Nat) : ∀ k j, firstI p r k = (j : Nat) ↔ (k ≤ j ∧ j < k + r) ∧ p j = true ∧ ∀ i, k ≤ i → i < j → p i = false := by
  induction r with
  | zero => intro k j; unfold firstI; constructor
            · intro h; omega
            · rintro ⟨h, _⟩; omega
  | succ r ih =>
    intro k j
    unfold firstI
    by_cases h : p k = true
    · rw [if_pos h]
      constructor
      · intro e
        obtain rfl : k = j := by omega
        exact ⟨by omega, h, fun i h1 h2 => by omega⟩
      · rintro ⟨h1, h2, h3⟩
        by_cases e : k = j
        · rw [e]
        · have := h3 k (Nat.le_refl _) (by omega)
          rw [h] at this; cases this
    · rw [if_neg h, ih (k + 1) j]
      have hk : p k = false := by simpa using h
      constructor
      · rintro ⟨h1, h2, h3⟩
        refine ⟨by omega, h2, fun i h4 h5 => ?_⟩
        by_cases e : i = k
        · rw [e]; exact hk
        · exact h3 i (by omega) h5
      · rintro ⟨h1, h2, h3⟩
        have : k ≠ j := fun e => by rw [e] at hk; rw [hk] at h2; cases h2
        exact ⟨by omega, h2, fun i h4 h5 => h3 i (by omega) h5⟩
def idxL (p : Nat → Bool) : Nat → List Int
  | 0 => []
  | k + 1 => if p k = true then idxL p k ++ [(k : Int)] else idxL p k
theorem idxL_yes {p : Nat → Bool} {k : Nat} (h : p k = true) : idxL p (k + 1) = idxL p k ++ [(k : Int)] := if_pos h
theorem idxL_no {p : Nat → Bool} {k : Nat} (h : p k = false) : idxL p (k + 1) = idxL p k := if_neg (by rw [h]; simp)
theorem idxL_len (p : Nat → Bool) : ∀ k, (idxL p k).length ≤ k := by
  intro k
  induction k with
  | zero => exact Nat.le_refl _
  | succ k ih =>
    unfold idxL
    split
    · simp; omega
    · omega
theorem idxL_congr {p q : Nat → Bool} : ∀ k, (∀ i, i < k → p i = q i) → idxL p k = idxL q k := by
  intro k
  induction k with
  | zero => intro _; rfl
  | succ k ih => intro h; unfold idxL; rw [h k (by omega), ih fun i hi => h i (by omega)]
def IntsL (w : World) (L : List Int) (e : Ending) (w' : World) : Prop :=
  ∃ v, e = .returned v ∧ w'.ownsRow w.heap.size 3 1 v L.length (L.map (Value.int .i64)) ∧ Below w.heap.size w w'
theorem IntsL.made {w w' : World} {L : List Int} {e : Ending} (h : IntsL w L e w') (hl : L.length ≤ 9223372036854775807) :
    ∃ v, e = .returned v ∧ IntRow w' v L.length (getI L) ∧ (∃ xs, w'.ownsRow w.heap.size 3 1 v L.length xs) ∧ Below w.heap.size w w' := by
  obtain ⟨v, he, ho, hb⟩ := h
  exact ⟨v, he, IntRow.of_list ho (by omega), ⟨_, ho⟩, hb⟩
end Go.Proofs.Ytmhkkdnopcdibaa
set_option linter.unusedVariables false
namespace Go.Proofs.Ytmhkkdnopcdibaa
open Go.RowKit

def tIntS : Ty := tSl 3 tInt
theorem opens_IntS : Opens Try.prog 31 tIntS := opens_sl Try.underlying31 (by kernel_rfl) (opens_int Try.underlying3 (by kernel_rfl))
theorem cells_int {d : List Int} {i : Nat} (hi : i < d.length) : cellsAt (fun z : Int => [Value.int .i64 z]) d i = [.int .i64 (getI d i)] := by
  refine (cellsAt_lt (List.getElem?_eq_getElem hi)).trans ?_
  unfold getI; simp [hi]
theorem rd_IntS {w : World} {v : Value} {d : List Int} : RdA tIntS w [v] d ↔ IntRow w v d.length (getI d) := by
  have e := fun i (hi : i < d.length) => cells_int hi
  exact flat_int.rdA.trans ⟨fun h => RecRow.ints (RecRow.congr h e), fun h => RecRow.congr h.rec fun i hi => (e i hi).symm⟩
theorem rdN_IntS {w : World} {lo hi : Nat} {v : Value} {d : List Int} (h : IntRow w v d.length (getI d)) (hi2 : InW lo hi v) : RdN tIntS w lo hi [v] d :=
  flat_int.reads (flat_int.row (rd_IntS.2 h)) fun _ q hq => hi2 q hq
theorem own_ints {w : World} {lo hi : Nat} {v : Value} {d : List Int} (h : w.ownsRow lo 3 1 v d.length (d.map (Value.int .i64))) (h1 : ∀ q, v.ownBlock = some q → q < hi) (hh : hi ≤ w.heap.size) : OwN tIntS w lo hi [v] d :=
  flat_int.made h (rd_IntS.2 (IntRow.of_list h (owns_max h))) h1 hh
theorem IntsL.owN {w w' : World} {L : List Int} {e : Ending} (h : IntsL w L e w') : MadeT tIntS L w e w' := by
  obtain ⟨v, he, ho, hb⟩ := h
  exact ⟨v, he, own_ints ho (fun q hq => (ho.lt q hq).2) (Nat.le_refl _), hb⟩
theorem wt_IntS (d : List Int) : tIntS.wt d = d.length := by
  show d.length + (d.map fun _ => 0).sum = d.length
  have := sum_zero (f := fun _ : Int => 0) (fun _ => rfl) d
  omega
theorem mks_IntS (d : List Int) : tIntS.mks d = d.length := (sum_const (f := fun _ : Int => 1) (fun _ => rfl) d).trans (Nat.one_mul _)
theorem mkl_IntS (d : List Int) (k : Int) : List.length (α := Int) (tIntS.mkd k d) = d.length := mkList_len _ _ _ _
theorem mk_IntS (d : List Int) (k : Int) (i : Nat) (hi : i < d.length) : getI (tIntS.mkd k d) i = k + (i : Int) := by
  have h := mkList_get (mks := tInt.mks) (mkd := tInt.mkd) (m := 1) (fun _ => rfl) d k i
  have h2 : (mkList tInt.mks tInt.mkd k d)[i]? = some (k + ((1 : Nat) : Int) * i) := by
    rw [h]
    have : d[i]? = some d[i] := List.getElem?_eq_getElem hi
    exact congrArg (Option.map (tInt.mkd (k + ((1 : Nat) : Int) * i))) this
  unfold getI
  show List.getD (α := Int) (mkList tInt.mks tInt.mkd k d) i 0 = _
  refine (List.getD_eq_getElem?_getD (α := Int)).trans ?_
  refine (congrArg (fun o => Option.getD (α := Int) o 0) h2).trans ?_
  show k + ((1 : Nat) : Int) * i = _
  omega
theorem y_sz_IntS (v : Value) (d : List Int) (left : Int) (w : World) (hl0 : 0 ≤ left) (hl : left ≤ 1048576) (h : RdA tIntS w [v] d) : Calls Try.prog 88 #[v, .int .i64 left] w (SzT tIntS d left w) :=
  (x_sz_IntS v d.length (getI d) left w hl0 hl (rd_IntS.1 h)).mono fun e w' ⟨⟨r, he, hr⟩, hb⟩ => ⟨⟨r, he, by rw [wt_IntS]; exact hr⟩, hb⟩
theorem y_to_IntS (v : Value) (d : List Int) (w : World) (h : RdA tIntS w [v] d) (hw : tIntS.wt d ≤ 1048576) : Calls Try.prog 30 #[v] w (MadeT tIntS d w) :=
  (x_to_IntS v d.length (getI d) w (rd_IntS.1 h) (by rw [wt_IntS] at hw; exact hw)).mono fun e w' ⟨v', he, hr, ⟨xs, ho⟩, hb⟩ => ⟨v', he, flat_int.made ho (rd_IntS.2 hr) (fun q hq => (ho.lt q hq).2) (Nat.le_refl _), hb⟩
theorem y_eq_IntS (v v' : Value) (d : List Int) (w : World) (h : RdA tIntS w [v] d) (h' : RdA tIntS w [v'] d) : Calls Try.prog 31 #[v, v'] w fun e w' => e = .returned (.bool true) ∧ Below w.heap.size w w' :=
  x_eq_IntS v d.length (getI d) v' w (rd_IntS.1 h) (rd_IntS.1 h')
theorem y_mk_IntS (v : Value) (d : List Int) (k : Int) (lo hi : Nat) (w : World) (h : OwN tIntS w lo hi [v] d) (h0 : 0 < k) (hk : k + tIntS.mks d ≤ 1000000000000) : Calls Try.prog 36 #[v, .int .i64 k] w (MarkT tIntS [v] d k lo hi w) := by
  obtain ⟨⟨xs, ho, _⟩, hin⟩ := flat_int.owned h
  have hm := mks_IntS d
  have hm2 : k + (d.length : Int) ≤ 1000000000000 := by omega
  refine (x_mk_IntS v d.length k lo hi lo xs w ho hin h0 hm2).mono fun e w' ⟨he, hr, ht⟩ => ⟨by rw [he, hm], ?_, ht⟩
  refine rdN_IntS ?_ hin
  have h1 := (IntRow.rec hr).congr (g' := fun i => [Value.int .i64 (getI (tIntS.mkd k d) i)]) (fun i hi => by rw [mk_IntS d k i hi])
  have h2 := h1.ints
  rw [← mkl_IntS d k] at h2
  exact h2
theorem y_hd_IntS (v : Value) (d : List Int) (k : Int) (w : World) (h : RdA tIntS w [v] (tIntS.mkd k d)) (h0 : 0 < k) (hk : k + tIntS.mks d ≤ 1000000000000) : Calls Try.prog 37 #[v, .int .i64 k] w (HeldT tIntS d k w) := by
  have hm := mks_IntS d
  have hm2 : k + (d.length : Int) ≤ 1000000000000 := by omega
  have hr : IntRow w v (List.length (α := Int) (tIntS.mkd k d)) (getI (tIntS.mkd k d)) := rd_IntS.1 h
  rw [mkl_IntS d k] at hr
  exact (x_hd_IntS v d.length k w (hr.rec.congr (fun i hi => by rw [mk_IntS d k i hi])).ints h0 hm2).mono fun e w' ⟨he, hb⟩ => ⟨by rw [he, hm], hb⟩
theorem yb_mk_IntS (v : Value) (d : List Int) (k : Int) (lo : Nat) (bs : List Nat) (w : World) (h : tIntS.Ow w lo [v] d bs) (hnd : bs.Nodup) (h0 : 0 < k) (hk : k + tIntS.mks d ≤ 1000000000000) : Calls Try.prog 36 #[v, .int .i64 k] w (MarkC tIntS [v] (tIntS.mkd k d) (tIntS.mks d) k bs w) :=
  flat_mark flat_int h fun lo hi ho => y_mk_IntS v d k lo hi w ho h0 hk
end Go.Proofs.Ytmhkkdnopcdibaa
set_option linter.unusedVariables false
namespace Go.Proofs.Ytmhkkdnopcdibaa
open Go.RowKit

theorem wpList_pushL {P : Program} {w : World} {ops : Array Oper} {rest : List Oper} {o : Oper} {a : Act} {Q : Exit → Act → World → Prop} (hgd : o.guard = none) (s x : Operand) (t : TypeId)
    (ho : o.op = .call { callee := .builtin .append, args := #[s, x], argTypes := #[t, t] })
    (base : Nat) (e : TypeId) {i : TypeInfo} {z : Value} {size bytes : Nat} (ht : P.underlying t = some (.slice e)) (hi : P.info? e = some i) (hz : i.zero = some z)
    (hsize : i.size = size) (hby : i.bytes = bytes) (hzs : z.cells.size = size) (hsz : 0 < size)
    (cs : List Value) (hcs : cs.length = size) (h1 : ∀ u ∈ cs, u.oneCell' = true)
    {v : Value} {n : Nat} {xs : List Value} (hs : a.eval s = v) (hx : a.eval x = .slice (some ⟨w.heap.size, 0, none⟩) 1 1) (hown : w.ownsRow base e size v n xs)
    (h63 : n + 1 ≤ maxLen) (hbytes : (n + 1) * bytes ≤ 140737488355328) (hbase : base ≤ w.heap.size)
    (h : ∀ g cap w', w'.ownsRow base e size (.slice (some ⟨g, 0, none⟩) (n + 1) cap) (n + 1) (xs ++ cs) → w.grownBy w' v.ownBlock → (v.ownBlock = some g ∨ w.heap.size ≤ g) → g < w'.heap.size →
      wpList P ops Q rest (a.put o.dst (.slice (some ⟨g, 0, none⟩) (n + 1) cap)) w') : wpList P ops Q (o :: rest) a (w.alloc (.cells cs.toArray e)) := by
  refine wpList_append_lies _ hgd s x t ho base e i z size bytes ht hi hz hsize hby hzs hsz v n xs hs (hown.alloc _) ⟨w.heap.size, 0, none⟩ 1 1 cs hx (by simpa using hcs)
    (by simpa using World.news_of_block (cs := cs.toArray) (heap_alloc_new w (.cells cs.toArray e))) h1 (by omega) h63 hbytes (by simp; omega) _ rfl ?_
  intro g cap w' h2 h3 hat hlt
  have hg0 := World.grownBy_alloc w (.cells cs.toArray e) v.ownBlock
  refine h g cap w' h2 ⟨h3.os.trans hg0.os, h3.tape.trans hg0.tape, h3.output.trans hg0.output, Nat.le_trans hg0.size h3.size, fun k hk hne => ?_⟩ ?_ hlt
  · rw [h3.block k (Nat.lt_of_lt_of_le hk hg0.size) hne, hg0.block k hk hne]
  · rcases hat with h5 | h5
    · exact .inl h5
    · right; rw [h5]; simp
theorem news_of_row {w : World} {b m c : Nat} {g : Nat → Int} (h : IntRow w (.slice (some ⟨b, 0, none⟩) m c) m g) :
    ∀ j u, ((List.range m).map fun j => Value.int .i64 (g j))[j]? = some u → w.cell? ((⟨b, 0, none⟩ : Addr).add j) = some u := by
  intro j u hu
  simp only [List.getElem?_map] at hu
  by_cases hj : j < m
  · rw [List.getElem?_range hj] at hu
    simp only [Option.map_some, Option.some.injEq] at hu
    subst hu
    have hadd : (⟨b, 0, none⟩ : Addr).add j = ⟨b, j, none⟩ := by unfold Addr.add; split <;> simp_all
    rw [hadd]
    rcases h with ⟨_, _, _, h1⟩ | ⟨b', off, c', he, _, _, hc, _⟩
    · omega
    · simp only [Value.slice.injEq, Option.some.injEq, Addr.mk.injEq, and_true] at he
      obtain ⟨⟨rfl, rfl⟩, _⟩ := he
      simpa using hc j hj
  · rw [List.getElem?_eq_none (by simp; omega)] at hu; cases hu
theorem ones_row {m : Nat} {g : Nat → Int} : ∀ u ∈ (List.range m).map (fun j => Value.int .i64 (g j)), u.oneCell' = true := by
  intro u hu; simp only [List.mem_map] at hu; obtain ⟨_, _, rfl⟩ := hu; rfl
theorem wpList_cloneI {P : Program} {w : World} {ops : Array Oper} {rest : List Oper} {o : Oper} {a : Act} {Q : Exit → Act → World → Prop} (hgd : o.guard = none) (s x : Operand) (t : TypeId)
    (ho : o.op = .call { callee := .builtin .append, args := #[s, x], argTypes := #[t, t] })
    (e : TypeId) {i : TypeInfo} (ht : P.underlying t = some (.slice e)) (hi : P.info? e = some i) (hz : i.zero = some (.int .i64 0)) (hsize : i.size = 1) (hby : i.bytes = 8)
    {v : Value} {m : Nat} {g : Nat → Int} (hs : a.eval s = .slice (some ⟨w.heap.size, 0, none⟩) 0 0) (hx : a.eval x = v) (hrow : IntRow w v m g) (h0 : 0 < m) (hm : m ≤ 1048576)
    (h : ∀ gg cap w', w'.ownsRow w.heap.size e 1 (.slice (some ⟨gg, 0, none⟩) m cap) m ((List.range m).map fun j => Value.int .i64 (g j)) → IntRow w' (.slice (some ⟨gg, 0, none⟩) m cap) m g → Below w.heap.size w w' → w.heap.size ≤ gg → gg < w'.heap.size →
      wpList P ops Q rest (a.put o.dst (.slice (some ⟨gg, 0, none⟩) m cap)) w') : wpList P ops Q (o :: rest) a (w.alloc (.cells #[] e)) := by
  rcases hrow with ⟨_, _, _, h1⟩ | ⟨b, off, c, rfl, _, _, hc, _⟩
  · omega
  have hown : (w.alloc (.cells #[] e)).ownsRow w.heap.size e 1 (.slice (some ⟨w.heap.size, 0, none⟩) 0 0) 0 [] := World.ownsRow_lit w #[] 0 (Nat.le_refl _) (by decide) rfl
  refine wpList_append_lies _ hgd s x t ho w.heap.size e i (.int .i64 0) 1 8 ht hi hz hsize hby rfl (by decide) (.slice (some ⟨w.heap.size, 0, none⟩) 0 0) 0 [] hs hown ⟨b, off, none⟩ m c ((List.range m).map fun j => Value.int .i64 (g j)) hx (by simp) ?_
    (by intro u hu; simp only [List.mem_map] at hu; obtain ⟨_, _, rfl⟩ := hu; rfl) h0 (by unfold maxLen; omega) (by omega) (by simp) _ rfl ?_
  · intro j u hu
    simp only [List.getElem?_map] at hu
    by_cases hj : j < m
    · rw [List.getElem?_range hj] at hu
      simp only [Option.map_some, Option.some.injEq] at hu
      subst hu
      have hadd : (⟨b, off, none⟩ : Addr).add j = ⟨b, off + j, none⟩ := by unfold Addr.add; split <;> simp_all
      rw [hadd]
      exact (((Below.refl _ w).alloc (Nat.le_refl _) (.cells #[] e)).cell (p := ⟨b, off + j, none⟩) (World.block_lt_of_cell? w _ (hc j hj))).trans (hc j hj)
    · rw [List.getElem?_eq_none (by simp; omega)] at hu; cases hu
  · intro gg cap w' ho' hg' hat hlt
    simp only [Nat.zero_add, List.nil_append] at ho' ⊢
    refine h gg cap w' ho' (IntRow.of_owns ho' (by omega) fun j hj => by simp [hj]) (((Below.refl _ w).alloc (Nat.le_refl _) _).grown hg' (by simp) (fun k hk => by simp [Value.ownBlock] at hk; omega)) ?_ hlt
    rcases hat with h5 | h5
    · simp [Value.ownBlock] at h5; omega
    · rw [h5]; simp
end Go.Proofs.Ytmhkkdnopcdibaa
set_option linter.unusedVariables false
namespace Go.Proofs.Ytmhkkdnopcdibaa
open Go.RowKit

theorem run_append_zero {P : Program} {w : World} (base : Nat) (t ty e : TypeId) (i : TypeInfo) (size : Nat) (ht : P.underlying t = some (.slice e)) (hi : P.info? e = some i)
    (v : Value) (n : Nat) (xs : List Value) (hown : w.ownsRow base e size v n xs) (ad : Option Addr) (c : Nat) :
    (Builtin.append_ #[t, t] ty #[v, .slice ad 0 c]).run P w = .ok v w := by
  rcases ad with _ | ad
  · rcases hown.2 with ⟨rfl, rfl⟩ | ⟨g, cap, cur, rfl, _, _, hnc, _⟩
    · simp [Builtin.append_, run_underlying ht, sizeOf, typeInfo, hi, Builtin.lenOf, Builtin.firstCells]
    · simp [Builtin.append_, run_underlying ht, sizeOf, typeInfo, hi, Builtin.lenOf, Builtin.firstCells, hnc, storeCells]
  · have h0 : Sem.run P (loadCells ad 0) w = .ok #[] w := by simp [loadCells, loadCellsFrom]
    rcases hown.2 with ⟨rfl, rfl⟩ | ⟨g, cap, cur, rfl, _, _, hnc, _⟩
    · simp [Builtin.append_, run_underlying ht, sizeOf, typeInfo, hi, Builtin.lenOf, Builtin.firstCells, h0]
    · simp [Builtin.append_, run_underlying ht, sizeOf, typeInfo, hi, Builtin.lenOf, Builtin.firstCells, hnc, storeCells, h0]
theorem wpList_appendZero {P : Program} {w : World} {ops : Array Oper} {rest : List Oper} {o : Oper} {a : Act} {Q : Exit → Act → World → Prop} (hgd : o.guard = none) (s x : Operand) (t : TypeId)
    (ho : o.op = .call { callee := .builtin .append, args := #[s, x], argTypes := #[t, t] })
    (base : Nat) (e : TypeId) (i : TypeInfo) (size : Nat) (ht : P.underlying t = some (.slice e)) (hi : P.info? e = some i)
    (v : Value) (n : Nat) (xs : List Value) (hs : a.eval s = v) (hown : w.ownsRow base e size v n xs) (ad : Option Addr) (c : Nat) (hx : a.eval x = .slice ad 0 c)
    (h : wpList P ops Q rest (a.put o.dst v) w) : wpList P ops Q (o :: rest) a w := by
  refine wpList_plain hgd fun K hK => ?_
  have hrun := run_append_zero (P := P) (w := w) base t o.type e i size ht hi v n xs hown ad c
  unfold Oper.wp
  simp [execOp, ho, resolve, invoke, builtin, hs, hx, hrun, Result.andThen]
  exact hK _ _ h
def flatR (g : Nat → List Value) (n : Nat) : List Value := (List.range n).flatMap g
theorem flatR_len (k : Nat) (g : Nat → List Value) (n : Nat) (hk : ∀ i, i < n → (g i).length = k) : (flatR g n).length = n * k := by
  induction n with
  | zero => simp [flatR]
  | succ n ih =>
    have := ih fun i hi => hk i (by omega)
    unfold flatR at this ⊢
    rw [List.range_succ, List.flatMap_append, List.length_append, this]
    simp [hk n (by omega), Nat.succ_mul]
theorem flatR_cells (k : Nat) (g : Nat → List Value) (n : Nat) (hk : ∀ i, i < n → (g i).length = k) : RecCells k n (flatR g n) g := by
  induction n with
  | zero => exact RecCells.nil
  | succ n ih =>
    have h1 := ih fun i hi => hk i (by omega)
    have h2 := flatR_len k g n fun i hi => hk i (by omega)
    have h3 : flatR g (n + 1) = flatR g n ++ g n := by unfold flatR; rw [List.range_succ, List.flatMap_append]; simp
    rw [h3]
    exact h1.push h2 rfl (hk n (by omega))
theorem flatR_get (k : Nat) (g : Nat → List Value) (n : Nat) (hk : ∀ i, i < n → (g i).length = k) (h0 : 0 < k) (j : Nat) (u : Value) (h : (flatR g n)[j]? = some u) :
    j / k < n ∧ (g (j / k))[j % k]? = some u := by
  have hl := flatR_len k g n hk
  have hj : j < n * k := by rw [← hl]; exact (List.getElem?_eq_some_iff.1 h).1
  have hjn : j / k < n := Nat.div_lt_of_lt_mul (by rw [Nat.mul_comm]; exact hj)
  refine ⟨hjn, ?_⟩
  have hm : j % k < (g (j / k)).length := by rw [hk _ hjn]; exact Nat.mod_lt _ h0
  obtain ⟨u', hu'⟩ : ∃ u', (g (j / k))[j % k]? = some u' := ⟨_, List.getElem?_eq_getElem hm⟩
  have := flatR_cells k g n hk (j / k) hjn (j % k) u' hu'
  rw [Nat.mul_comm, Nat.div_add_mod, h] at this
  rw [hu']; exact this.symm
theorem wpList_cloneR {P : Program} {w : World} {ops : Array Oper} {rest : List Oper} {o : Oper} {a : Act} {Q : Exit → Act → World → Prop} (hgd : o.guard = none) (s x : Operand) (t : TypeId)
    (ho : o.op = .call { callee := .builtin .append, args := #[s, x], argTypes := #[t, t] })
    (e : TypeId) {i : TypeInfo} {z : Value} {k bytes : Nat} (ht : P.underlying t = some (.slice e)) (hi : P.info? e = some i) (hz : i.zero = some z) (hsize : i.size = k) (hby : i.bytes = bytes) (hzs : z.cells.size = k) (hk0 : 0 < k)
    {v : Value} {m : Nat} {g : Nat → List Value} (hs : a.eval s = .slice (some ⟨w.heap.size, 0, none⟩) 0 0) (hx : a.eval x = v) (hrow : RecRow k w v m g) (hgl : ∀ i, i < m → (g i).length = k) (h1 : ∀ i, i < m → ∀ u ∈ g i, u.oneCell' = true)
    (hm : m ≤ 1048576) (hb : bytes ≤ 1048576)
    (h : ∀ vv w', w'.ownsRow w.heap.size e k vv m (flatR g m) → Below w.heap.size w w' → wpList P ops Q rest (a.put o.dst vv) w') : wpList P ops Q (o :: rest) a (w.alloc (.cells #[] e)) := by
  have hown : (w.alloc (.cells #[] e)).ownsRow w.heap.size e k (.slice (some ⟨w.heap.size, 0, none⟩) 0 0) 0 [] := World.ownsRow_lit w #[] 0 (Nat.le_refl _) (by decide) (by simp)
  rcases hrow with ⟨ad, cap, rfl, rfl⟩ | ⟨b, off, c, rfl, h0, _, hc, _⟩
  · exact wpList_appendZero hgd s x t ho w.heap.size e i k ht hi _ 0 [] hs hown ad cap hx (h _ _ (by simpa [flatR] using hown) ((Below.refl _ _).alloc (Nat.le_refl _) _))
  · have hmul : (0 + m) * bytes ≤ 1048576 * 1048576 := Nat.mul_le_mul (by omega) hb
    refine wpList_append_lies _ hgd s x t ho w.heap.size e i z k bytes ht hi hz hsize hby hzs hk0 _ 0 [] hs hown ⟨b, off, none⟩ m c (flatR g m) hx (flatR_len k g m hgl) ?_ ?_ h0 (by unfold maxLen; omega) (by omega) (by simp) _ rfl ?_
    · intro j u hu
      obtain ⟨hj, hv⟩ := flatR_get k g m hgl hk0 j u hu
      have hadd : (⟨b, off, none⟩ : Addr).add j = ⟨b, off + j, none⟩ := by unfold Addr.add; split <;> simp_all
      have hq := (hc _ hj).2 _ u hv
      rw [show off + j / k * k + j % k = off + j by rw [Nat.add_assoc, Nat.mul_comm, Nat.div_add_mod]] at hq
      rw [hadd]
      exact (((Below.refl _ w).alloc (Nat.le_refl _) (.cells #[] e)).cell (p := ⟨b, off + j, none⟩) (hc _ hj).1).trans hq
    · intro u hu
      unfold flatR at hu
      rw [List.mem_flatMap] at hu
      obtain ⟨j, hj, hu⟩ := hu
      exact h1 j (List.mem_range.1 hj) u hu
    · intro gg cap w' ho' hg' hat hlt
      simp only [Nat.zero_add, List.nil_append] at ho' ⊢
      exact h _ w' ho' (((Below.refl _ w).alloc (Nat.le_refl _) _).grown hg' (by simp) (fun k hk => by simp [Value.ownBlock] at hk; omega))
end Go.Proofs.Ytmhkkdnopcdibaa
set_option linter.unusedVariables false
namespace Go.Proofs.Ytmhkkdnopcdibaa
open Go.RowKit

def dgB (r : Int) : Bool := decide (48 ≤ r ∧ r ≤ 57)
def smB (r : Int) : Bool := decide (97 ≤ r ∧ r ≤ 122)
theorem dgB_mk {r : Int} (h : 48 ≤ r ∧ r ≤ 57) : dgB r = true := by simp [dgB, h]
theorem dgB_no {r : Int} (h : ¬ (48 ≤ r ∧ r ≤ 57)) : dgB r = false := by simp only [dgB, decide_eq_false_iff_not]; exact h
theorem dgB_yes {r : Int} (h : dgB r = true) : 48 ≤ r ∧ r ≤ 57 := by simpa [dgB] using h
theorem dgB_not {r : Int} (h : dgB r = false) : ¬ (48 ≤ r ∧ r ≤ 57) := by simpa only [dgB, decide_eq_false_iff_not] using h
theorem smB_mk {r : Int} (h : 97 ≤ r ∧ r ≤ 122) : smB r = true := by simp [smB, h]
theorem smB_no {r : Int} (h : ¬ (97 ≤ r ∧ r ≤ 122)) : smB r = false := by simp only [smB, decide_eq_false_iff_not]; exact h
theorem smB_yes {r : Int} (h : smB r = true) : 97 ≤ r ∧ r ≤ 122 := by simpa [smB] using h
theorem smB_not {r : Int} (h : smB r = false) : ¬ (97 ≤ r ∧ r ≤ 122) := by simpa only [smB, decide_eq_false_iff_not] using h

def bat (s : ByteArray) (k : Nat) : Nat := (s.get! k).toNat
theorem bat_of (s : ByteArray) (k : Nat) (h : k < s.size) : bat s k = (s[k]'h).toNat := by
  have := get_at s k h
  simp only [Nat.add_zero] at this
  simp [bat, this]
theorem bat_lt (s : ByteArray) (k : Nat) : bat s k < 256 := (s.get! k).toNat_lt
theorem decode_low (s : ByteArray) (pos : Nat) (h : pos < s.size) (hl : bat s pos < 128) : Utf8.decode s pos = (bat s pos, 1) := by
  rw [bat_of s pos h] at *
  exact decode_ascii s pos h (by omega)
theorem decode_hi (s : ByteArray) (pos : Nat) (h : pos < s.size) (hl : ¬ bat s pos < 128) : 128 ≤ (Utf8.decode s pos).1 ∧ 1 ≤ (Utf8.decode s pos).2 := by
  rw [bat_of s pos h] at *
  exact decode_high s pos h (by omega)

theorem decode_cont (s : ByteArray) (pos : Nat) (h : pos < s.size) (hl : ¬ bat s pos < 128) :
    1 ≤ (Utf8.decode s pos).2 ∧ pos + (Utf8.decode s pos).2 ≤ s.size ∧ ∀ j, j < (Utf8.decode s pos).2 → 128 ≤ bat s (pos + j) := by
  have e0 : (s.get! (pos + 0)).toNat = bat s pos := rfl
  have one : ∀ j, j < 1 → 128 ≤ bat s (pos + j) := fun j hj => by
    obtain rfl : j = 0 := by omega
    simpa using hl
  have fin1 : ∀ x : Nat × Nat, x.2 = 1 → 1 ≤ x.2 ∧ pos + x.2 ≤ s.size ∧ ∀ j, j < x.2 → 128 ≤ bat s (pos + j) := fun x hx => by
    rw [hx]; exact ⟨Nat.le_refl _, by omega, one⟩
  simp only [Utf8.decode, e0, if_neg hl]
  by_cases c1 : (decide (pos + 1 < s.size) && (s.get! (pos + 1)).toNat / 64 == 2) = true
  · simp only [Bool.and_eq_true, decide_eq_true_eq, beq_iff_eq] at c1
    have b1 : 128 ≤ bat s (pos + 1) := by show 128 ≤ (s.get! (pos + 1)).toNat; omega
    have fin2 : ∀ x : Nat × Nat, x.2 = 2 → 1 ≤ x.2 ∧ pos + x.2 ≤ s.size ∧ ∀ j, j < x.2 → 128 ≤ bat s (pos + j) := fun x hx => by
      rw [hx]; refine ⟨by omega, by omega, fun j hj => ?_⟩
      rcases (show j = 0 ∨ j = 1 by omega) with rfl | rfl
      · exact one 0 (by omega)
      · exact b1
    by_cases c2 : (decide (pos + 2 < s.size) && (s.get! (pos + 2)).toNat / 64 == 2) = true
    · simp only [Bool.and_eq_true, decide_eq_true_eq, beq_iff_eq] at c2
      have b2 : 128 ≤ bat s (pos + 2) := by show 128 ≤ (s.get! (pos + 2)).toNat; omega
      have fin3 : ∀ x : Nat × Nat, x.2 = 3 → 1 ≤ x.2 ∧ pos + x.2 ≤ s.size ∧ ∀ j, j < x.2 → 128 ≤ bat s (pos + j) := fun x hx => by
        rw [hx]; refine ⟨by omega, by omega, fun j hj => ?_⟩
        rcases (show j = 0 ∨ j = 1 ∨ j = 2 by omega) with rfl | rfl | rfl
        · exact one 0 (by omega)
        · exact b1
        · exact b2
      by_cases c3 : (decide (pos + 3 < s.size) && (s.get! (pos + 3)).toNat / 64 == 2) = true
      · simp only [Bool.and_eq_true, decide_eq_true_eq, beq_iff_eq] at c3
        have b3 : 128 ≤ bat s (pos + 3) := by show 128 ≤ (s.get! (pos + 3)).toNat; omega
        have fin4 : ∀ x : Nat × Nat, x.2 = 4 → 1 ≤ x.2 ∧ pos + x.2 ≤ s.size ∧ ∀ j, j < x.2 → 128 ≤ bat s (pos + j) := fun x hx => by
          rw [hx]; refine ⟨by omega, by omega, fun j hj => ?_⟩
          rcases (show j = 0 ∨ j = 1 ∨ j = 2 ∨ j = 3 by omega) with rfl | rfl | rfl | rfl
          · exact one 0 (by omega)
          · exact b1
          · exact b2
          · exact b3
        repeat' split
        all_goals first | exact fin1 _ rfl | exact fin2 _ rfl | exact fin3 _ rfl | exact fin4 _ rfl
      · simp only [Bool.not_eq_true] at c3
        simp only [c3, Bool.and_false]
        repeat' split
        all_goals first | exact fin1 _ rfl | exact fin2 _ rfl | exact fin3 _ rfl | (exfalso; simp_all; done)
    · simp only [Bool.not_eq_true] at c2
      simp only [c2, Bool.and_false, Bool.false_and]
      repeat' split
      all_goals first | exact fin1 _ rfl | exact fin2 _ rfl | (exfalso; simp_all; done)
  · simp only [Bool.not_eq_true] at c1
    simp only [c1, Bool.and_false, Bool.false_and]
    repeat' split
    all_goals first | exact fin1 _ rfl | (exfalso; simp_all; done)

def digits (s : ByteArray) : Bool := decide (0 < s.size ∧ ∀ k, k < s.size → dgB (bat s k) = true)
theorem digits_no (s : ByteArray) (k : Nat) (h : k < s.size) (hd : dgB (bat s k) = false) : digits s = false := by
  simp only [digits, decide_eq_false_iff_not]
  rintro ⟨_, h2⟩
  rw [h2 k h] at hd
  cases hd
theorem digits_all (s : ByteArray) (h0 : 0 < s.size) (hd : ∀ k, k < s.size → dgB (bat s k) = true) : digits s = true := by
  simp only [digits, decide_eq_true_eq]
  exact ⟨h0, hd⟩
theorem digits_nil (s : ByteArray) (h0 : ¬ 0 < s.size) : digits s = false := by
  simp only [digits, decide_eq_false_iff_not]
  exact fun h => h0 h.1

theorem emp_no (s : ByteArray) (h : 0 < s.size) : s.toList.isEmpty = false := by
  rw [ByteArray.toList_eq, List.isEmpty_eq_false_iff]
  intro he
  have : s.data.toList.length = 0 := by rw [he]; rfl
  rw [Array.length_toList] at this
  have h2 : s.size = s.data.size := rfl
  omega
theorem emp_yes (s : ByteArray) (h : ¬ 0 < s.size) : s.toList.isEmpty = true := by
  rw [ByteArray.toList_eq, List.isEmpty_iff]
  have h2 : s.size = s.data.size := rfl
  have : s.data.toList.length = 0 := by rw [Array.length_toList]; omega
  exact List.eq_nil_of_length_eq_zero this

theorem isDigit_yes (r : Int) (w : World) (h : 48 ≤ r ∧ r ≤ 57) : Calls Try.prog 106 #[.int .i32 r] w fun e w' => e = .returned (.bool true) ∧ w = w' := by
  obtain ⟨h1, h2⟩ := h
  have g1 : decide (48 ≤ r) = true := by simpa using h1
  have g2 : decide (r ≤ 57) = true := by simpa using h2
  go_enter Try.func106, Try.ntmps106
  go_wp2
  go_ret
  exact ⟨rfl, rfl⟩

theorem isDigit_no (r : Int) (w : World) (h : ¬ (48 ≤ r ∧ r ≤ 57)) : Calls Try.prog 106 #[.int .i32 r] w fun e w' => e = .returned (.bool false) ∧ w = w' := by
  by_cases h1 : 48 ≤ r
  · have h2 : 57 < r := by omega
    have g2 : decide (r ≤ 57) = false := by simpa using h2
    clear h
    go_enter Try.func106, Try.ntmps106
    go_wp2
    go_ret
    exact ⟨by simp, rfl⟩
  · clear h
    have g2 : decide (48 ≤ r) = false := by simpa using h1
    go_enter Try.func106, Try.ntmps106
    go_wp2
    go_ret
    exact ⟨by simp, rfl⟩

def nameAt (k b : Nat) : Bool := smB b || (decide (k ≠ 0) && dgB b)
theorem nameAt_no {k b : Nat} (h1 : ¬ (97 ≤ b ∧ b ≤ 122)) (h2 : k = 0 ∨ ¬ (48 ≤ b ∧ b ≤ 57)) : nameAt k b = false := by
  unfold nameAt
  rw [smB_no (by omega)]
  rcases h2 with h2 | h2
  · simp [h2]
  · rw [dgB_no (by omega)]; simp
theorem nameAt_small {k b : Nat} (h : 97 ≤ b ∧ b ≤ 122) : nameAt k b = true := by
  unfold nameAt; rw [smB_mk (by omega)]; simp
theorem nameAt_dig {k b : Nat} (h : 48 ≤ b ∧ b ≤ 57) (hk : k ≠ 0) : nameAt k b = true := by
  unfold nameAt; rw [dgB_mk (by omega)]; simp [hk]
theorem nameAt_low {k b : Nat} (h : nameAt k b = true) : b < 128 := by
  unfold nameAt at h
  simp only [Bool.or_eq_true, Bool.and_eq_true] at h
  rcases h with h | ⟨_, h⟩
  · have := smB_yes h; omega
  · have := dgB_yes h; omega
def nameB (s : ByteArray) : Bool := decide (1 ≤ s.size ∧ s.size ≤ 8 ∧ ∀ k, k < s.size → nameAt k (bat s k) = true)
theorem nameB_no (s : ByteArray) (k : Nat) (h : k < s.size) (hd : nameAt k (bat s k) = false) : nameB s = false := by
  simp only [nameB, decide_eq_false_iff_not]
  rintro ⟨_, _, h2⟩
  rw [h2 k h] at hd
  cases hd
theorem nameB_all (s : ByteArray) (h0 : 1 ≤ s.size) (h8 : s.size ≤ 8) (hd : ∀ k, k < s.size → nameAt k (bat s k) = true) : nameB s = true := by
  simp only [nameB, decide_eq_true_eq]
  exact ⟨h0, h8, hd⟩
theorem nameB_len (s : ByteArray) (h0 : ¬ (1 ≤ s.size ∧ s.size ≤ 8)) : nameB s = false := by
  simp only [nameB, decide_eq_false_iff_not]
  exact fun h => h0 ⟨h.1, h.2.1⟩

theorem l01In_yes (n lo hi : Int) (w : World) (h : lo ≤ n ∧ n ≤ hi) :
    Calls Try.prog 58 #[.int .i64 n, .int .i64 lo, .int .i64 hi] w fun e w' => e = .returned (.bool true) ∧ w = w' := by
  have g1 : decide (lo ≤ n) = true := decide_eq_true h.1
  have g2 : decide (n ≤ hi) = true := decide_eq_true h.2
  clear h
  go_enter Try.func58, Try.ntmps58
  go_wp2
  go_ret
  exact ⟨rfl, rfl⟩

theorem l01In_no (n lo hi : Int) (w : World) (h : ¬ (lo ≤ n ∧ n ≤ hi)) :
    Calls Try.prog 58 #[.int .i64 n, .int .i64 lo, .int .i64 hi] w fun e w' => e = .returned (.bool false) ∧ w = w' := by
  by_cases h1 : lo ≤ n
  · have g1 : decide (lo ≤ n) = true := decide_eq_true h1
    have g2 : decide (n ≤ hi) = false := decide_eq_false fun h2 => h ⟨h1, h2⟩
    clear h
    go_enter Try.func58, Try.ntmps58
    go_wp2
    go_ret
    exact ⟨rfl, rfl⟩
  · have g1 : decide (lo ≤ n) = false := decide_eq_false h1
    clear h
    go_enter Try.func58, Try.ntmps58
    go_wp2
    go_ret
    exact ⟨rfl, rfl⟩

theorem isName_spec (s : ByteArray) (w : World) (hs : s.size ≤ maxLen) :
    Calls Try.prog 98 #[.string s] w fun e w' => e = .returned (.bool (nameB s)) ∧ w = w' := by
  unfold maxLen at hs
  go_enter Try.func98, Try.ntmps98
  go_wp2
  go_loop [3, 4] (fun i _ => ∃ k : Nat, k ≤ s.size ∧ i = .int .i64 k ∧ Hid (∀ j, j < k → nameAt j (bat s j) = true)) (fun i _ => s.size - (RowKit.intOf i).toNat)
  case atStart => exact ⟨0, Nat.zero_le _, rfl, fun k hk => absurd hk (by omega)⟩
  case round =>
    obtain ⟨k, hle, rfl, hd⟩ := hrel
    by_cases hp : k < s.size
    · have hbt := bat_of s k hp
      by_cases hn : nameAt k (bat s k) = true
      · have hnext : Hid (∀ j, j < k + 1 → nameAt j (bat s j) = true) := fun j hj => by
          by_cases hj' : j = k
          · rw [hj']; exact hn
          · exact hd.out j (by omega)
        have hcase : (97 ≤ bat s k ∧ bat s k ≤ 122) ∨ (k ≠ 0 ∧ 48 ≤ bat s k ∧ bat s k ≤ 57) := by
          unfold nameAt at hn
          simp only [Bool.or_eq_true, Bool.and_eq_true, decide_eq_true_eq] at hn
          rcases hn with h | ⟨h1, h⟩
          · have := smB_yes h; omega
          · have := dgB_yes h; omega
        rw [hbt] at hcase
        clear hn hd hbt
        rcases hcase with ⟨h1, h2⟩ | ⟨hk, h1, h2⟩
        · have g1 : decide ((97 : Int) ≤ ((s[k]'hp).toNat : Int)) = true := decide_eq_true (by omega)
          have g2 : decide (((s[k]'hp).toNat : Int) ≤ 122) = true := decide_eq_true (by omega)
          go_wp2
          go_round
          case rel => exact ⟨k + 1, by omega, by go_num, hnext⟩
          case measure => simp [RowKit.intOf]; omega
        · have g1 : decide ((97 : Int) ≤ ((s[k]'hp).toNat : Int)) = false := decide_eq_false (by omega)
          have g2 : ((k : Int) == 0) = false := by simpa using hk
          have g3 : decide (((s[k]'hp).toNat : Int) < 48) = false := decide_eq_false (by omega)
          have g4 : decide ((57 : Int) < ((s[k]'hp).toNat : Int)) = false := decide_eq_false (by omega)
          go_wp2
          go_round
          case rel => exact ⟨k + 1, by omega, by go_num, hnext⟩
          case measure => simp [RowKit.intOf]; omega
      · have hdn : nameB s = false := nameB_no s k hp (by simpa using hn)
        have hcase : ¬ (97 ≤ bat s k ∧ bat s k ≤ 122) ∧ (k = 0 ∨ (k ≠ 0 ∧ ¬ (48 ≤ bat s k ∧ bat s k ≤ 57))) := by
          refine ⟨fun h => hn (nameAt_small h), ?_⟩
          by_cases hk : k = 0
          · exact .inl hk
          · exact .inr ⟨hk, fun h => hn (nameAt_dig h hk)⟩
        rw [hbt] at hcase
        have Hdn := Lib.hid hdn
        clear hn hd hbt hdn
        obtain ⟨hs1, hk⟩ := hcase
        have hs2 : (s[k]'hp).toNat < 97 ∨ 122 < (s[k]'hp).toNat := by omega
        rcases hs2 with hs2 | hs2
        · have g1 : decide ((97 : Int) ≤ ((s[k]'hp).toNat : Int)) = false := decide_eq_false (by omega)
          rcases hk with hk | ⟨hk, hk2⟩
          · subst hk
            clear hs1
            go_wp2
            go_ret
            exact ⟨by rw [Hdn.out]; rfl, rfl⟩
          · have g2 : ((k : Int) == 0) = false := by simpa using hk
            by_cases hk3 : (s[k]'hp).toNat < 48
            · have g3 : decide (((s[k]'hp).toNat : Int) < 48) = true := decide_eq_true (by omega)
              clear hs1 hk2
              go_wp2
              go_ret
              exact ⟨by rw [Hdn.out]; rfl, rfl⟩
            · have g3 : decide (((s[k]'hp).toNat : Int) < 48) = false := decide_eq_false (by omega)
              have g4 : decide ((57 : Int) < ((s[k]'hp).toNat : Int)) = true := decide_eq_true (by omega)
              clear hs1 hk2
              go_wp2
              go_ret
              exact ⟨by rw [Hdn.out]; rfl, rfl⟩
        · have g1 : decide ((97 : Int) ≤ ((s[k]'hp).toNat : Int)) = true := decide_eq_true (by omega)
          have g1b : decide (((s[k]'hp).toNat : Int) ≤ 122) = false := decide_eq_false (by omega)
          rcases hk with hk | ⟨hk, hk2⟩
          · subst hk
            clear hs1
            go_wp2
            go_ret
            exact ⟨by rw [Hdn.out]; rfl, rfl⟩
          · have g2 : ((k : Int) == 0) = false := by simpa using hk
            have g3 : decide (((s[k]'hp).toNat : Int) < 48) = false := decide_eq_false (by omega)
            have g4 : decide ((57 : Int) < ((s[k]'hp).toNat : Int)) = true := decide_eq_true (by omega)
            clear hs1 hk2
            go_wp2
            go_ret
            exact ⟨by rw [Hdn.out]; rfl, rfl⟩
    · by_cases h0 : 1 ≤ s.size ∧ s.size ≤ 8
      · have Hdn : Hid (nameB s = true) := nameB_all s h0.1 h0.2 fun k hk => hd.out k (by omega)
        go_wp2_with (go_at_call 58; refine (l01In_yes _ _ _ _ (by omega)).mono ?_; rintro e w' ⟨rfl, rfl⟩)
        go_ret
        exact ⟨by rw [Hdn.out]; rfl, rfl⟩
      · have Hdn : Hid (nameB s = false) := nameB_len s h0
        go_wp2_with (go_at_call 58; refine (l01In_no _ _ _ _ (by omega)).mono ?_; rintro e w' ⟨rfl, rfl⟩)
        go_ret
        exact ⟨by rw [Hdn.out]; rfl, rfl⟩

theorem isSmall_yes (r : Int) (w : World) (h : 97 ≤ r ∧ r ≤ 122) : Calls Try.prog 105 #[.int .i32 r] w fun e w' => e = .returned (.bool true) ∧ w = w' := by
  obtain ⟨h1, h2⟩ := h
  have g1 : decide (97 ≤ r) = true := decide_eq_true h1
  have g2 : decide (r ≤ 122) = true := decide_eq_true h2
  go_enter Try.func105, Try.ntmps105
  go_wp2
  go_ret
  exact ⟨rfl, rfl⟩

theorem isSmall_no (r : Int) (w : World) (h : ¬ (97 ≤ r ∧ r ≤ 122)) : Calls Try.prog 105 #[.int .i32 r] w fun e w' => e = .returned (.bool false) ∧ w = w' := by
  by_cases h1 : 97 ≤ r
  · have g1 : decide (97 ≤ r) = true := decide_eq_true h1
    have g2 : decide (r ≤ 122) = false := decide_eq_false (by omega)
    clear h
    go_enter Try.func105, Try.ntmps105
    go_wp2
    go_ret
    exact ⟨by first | rfl | simp, rfl⟩
  · have g2 : decide (97 ≤ r) = false := decide_eq_false h1
    clear h
    go_enter Try.func105, Try.ntmps105
    go_wp2
    go_ret
    exact ⟨by first | rfl | simp, rfl⟩

theorem isName_impl (s : ByteArray) (w : World) (hs : s.size ≤ maxLen) :
    Calls Try.prog 94 #[.string s] w fun e w' => e = .returned (.bool (nameB s)) ∧ Below w.heap.size w w' := by
  unfold maxLen at hs
  by_cases hz : 0 < s.size
  · have hne : s.toList.isEmpty = false := emp_no s hz
    by_cases h8 : 8 < s.size
    · have Hdn : Hid (nameB s = false) := nameB_len s (by omega)
      have g1 : decide ((8 : Int) < (s.size : Int)) = true := decide_eq_true (by omega)
      go_enter Try.func94, Try.ntmps94
      go_wp2
      go_ret
      exact ⟨by rw [Hdn.out]; rfl, Below.refl _ _⟩
    · have g1 : decide ((8 : Int) < (s.size : Int)) = false := decide_eq_false (by omega)
      go_enter Try.func94, Try.ntmps94
      go_wp2
      clear hne g1
      go_loopw [3, 4] (fun _ _ w' => ∃ pos : Nat, pos ≤ s.size ∧ w' = w.iter s pos ∧ Hid (∀ k, k < pos → nameAt k (bat s k) = true)) (fun _ _ w' => s.size - w'.iterPos w.heap.size)
      case atStart => exact ⟨0, Nat.zero_le _, rfl, fun k hk => absurd hk (by omega)⟩
      case round =>
        obtain ⟨pos, hle, rfl, hd⟩ := hrel
        by_cases hp : pos < s.size
        · have hnx : ∀ ty, (Instr.next (.pointer (some ⟨w.heap.size, 0, none⟩)) true ty).run Try.prog (w.iter s pos) = _ := fun ty => run_next_any w s pos ty hp
          by_cases hn : nameAt pos (bat s pos) = true
          · have hnext : Hid (∀ j, j < pos + 1 → nameAt j (bat s j) = true) := fun j hj => by
              by_cases hj' : j = pos
              · rw [hj']; exact hn
              · exact hd.out j (by omega)
            have hcase : (97 ≤ bat s pos ∧ bat s pos ≤ 122) ∨ (pos ≠ 0 ∧ 48 ≤ bat s pos ∧ bat s pos ≤ 57) := by
              have hn := hn
              unfold nameAt at hn
              simp only [Bool.or_eq_true, Bool.and_eq_true, decide_eq_true_eq] at hn
              rcases hn with h | ⟨h1, h⟩
              · have := smB_yes h; omega
              · have := dgB_yes h; omega
            rw [decode_low s pos hp (nameAt_low hn)] at hnx
            clear hn hd
            rcases hcase with ⟨h1, h2⟩ | ⟨hk, h1, h2⟩
            · go_wp2_with (go_at_call 105; refine (isSmall_yes _ _ (by omega)).mono ?_; rintro e w' ⟨rfl, rfl⟩)
              go_roundw
              case rel => exact ⟨pos + 1, by omega, rfl, hnext⟩
              case measure => simp; omega
            · have g2 : ((pos : Int) == 0) = false := by simpa using hk
              go_wp2_with (first
                | (go_at_call 105; refine (isSmall_no _ _ (by omega)).mono ?_; rintro e w' ⟨rfl, rfl⟩)
                | (go_at_call 106; refine (isDigit_yes _ _ (by omega)).mono ?_; rintro e w' ⟨rfl, rfl⟩))
              go_roundw
              case rel => exact ⟨pos + 1, by omega, rfl, hnext⟩
              case measure => simp; omega
          · have Hdn : Hid (nameB s = false) := nameB_no s pos hp (by simpa using hn)
            have hcase : ¬ (97 ≤ ((Utf8.decode s pos).1 : Int) ∧ ((Utf8.decode s pos).1 : Int) ≤ 122) ∧ (pos = 0 ∨ (pos ≠ 0 ∧ ¬ (48 ≤ ((Utf8.decode s pos).1 : Int) ∧ ((Utf8.decode s pos).1 : Int) ≤ 57))) := by
              by_cases hl : bat s pos < 128
              · rw [decode_low s pos hp hl]
                refine ⟨fun h => hn (nameAt_small (by simp only at h; omega)), ?_⟩
                by_cases hk : pos = 0
                · exact .inl hk
                · exact .inr ⟨hk, fun h => hn (nameAt_dig (by simp only at h; omega) hk)⟩
              · have := (decode_hi s pos hp hl).1
                by_cases hk : pos = 0
                · exact ⟨by omega, .inl hk⟩
                · exact ⟨by omega, .inr ⟨hk, by omega⟩⟩
            generalize hg : (Utf8.decode s pos).1 = r at *
            generalize hg2 : (Utf8.decode s pos).2 = wd at *
            obtain ⟨hr1, hk⟩ := hcase
            clear hg hg2 hd hn
            rcases hk with hk | ⟨hk, hk2⟩
            · subst hk
              go_wp2_with (go_at_call 105; refine (isSmall_no _ _ hr1).mono ?_; rintro e w' ⟨rfl, rfl⟩)
              go_ret
              exact ⟨by rw [Hdn.out]; rfl, (Below.refl _ _).alloc (Nat.le_refl _) _⟩
            · have g2 : ((pos : Int) == 0) = false := by simpa using hk
              go_wp2_with (first
                | (go_at_call 105; refine (isSmall_no _ _ hr1).mono ?_; rintro e w' ⟨rfl, rfl⟩)
                | (go_at_call 106; refine (isDigit_no _ _ hk2).mono ?_; rintro e w' ⟨rfl, rfl⟩))
              go_ret
              exact ⟨by rw [Hdn.out]; rfl, (Below.refl _ _).alloc (Nat.le_refl _) _⟩
        · have hnx : ∀ ty, (Instr.next (.pointer (some ⟨w.heap.size, 0, none⟩)) true ty).run Try.prog (w.iter s pos) = _ := fun ty => run_next_end w s pos ty hp
          have Hdn : Hid (nameB s = true) := nameB_all s hz (by omega) fun k hk => hd.out k (by omega)
          go_wp2
          go_ret
          exact ⟨by rw [Hdn.out]; rfl, (Below.refl _ _).alloc (Nat.le_refl _) _⟩
  · have Hdn : Hid (nameB s = false) := nameB_len s (by omega)
    have hne : s.toList.isEmpty = true := emp_yes s hz
    go_enter Try.func94, Try.ntmps94
    go_wp2
    go_ret
    exact ⟨by rw [Hdn.out]; rfl, Below.refl _ _⟩

end Go.Proofs.Ytmhkkdnopcdibaa
set_option linter.unusedVariables false
namespace Go.Proofs.Ytmhkkdnopcdibaa
open Go.RowKit

def hasP (g : Nat → Int) (x : Int) (n : Nat) : Prop := ∃ j, j < n ∧ g j = x
theorem hasP_at {g : Nat → Int} {x : Int} {n j : Nat} (h : j < n) (hg : g j = x) : hasP g x n := ⟨j, h, hg⟩
theorem l02Has_yes (v : Value) (n : Nat) (g : Nat → Int) (x : Int) (w : World) (h : IntRow w v n g) (hp : hasP g x n) :
    Calls Try.prog 60 #[v, .int .i64 x] w fun e w' => e = .returned (.bool true) ∧ w = w' := by
  obtain ⟨a, cap, rfl, hn, hv⟩ := h.form
  have HV := Lib.hid hv
  have HP := Lib.hid hp
  clear hv h hp
  go_enter Try.func60, Try.ntmps60
  go_wp2
  go_loop [9] (fun i => ∃ k : Nat, k ≤ n ∧ i = .int .i64 k ∧ Hid (∀ j, j < k → g j ≠ x)) (fun i => n - (RowKit.intOf i).toNat)
  case atStart => exact ⟨0, Nat.zero_le _, rfl, fun j hj => absurd hj (by omega)⟩
  case round =>
    obtain ⟨k, hk, rfl, hno⟩ := hrel
    by_cases hlt : k < n
    · obtain ⟨b, off, rfl, hc⟩ := HV.out (by omega)
      have c1 := hc k hlt
      have HK := Lib.hid (rfl : g k = g k)
      have HN : ∀ y, g k = y → y ≠ x → Hid (∀ j, j < k + 1 → g j ≠ x) := fun y hy hx j hj => by
        by_cases hjk : j = k
        · rw [hjk, hy]; exact hx
        · exact hno.out j (by omega)
      have HN := Lib.hid HN
      generalize hy : g k = y at *
      have HY := Lib.hid hy
      clear hc HV hno hy HK
      by_cases hx : y = x
      · subst hx
        go_wp2
        go_ret
        exact ⟨rfl, rfl⟩
      · have g1 : (y == x) = false := by simpa using hx
        have HX := Lib.hid hx
        clear hx
        go_wp2
        go_round
        case rel => exact ⟨k + 1, by omega, by go_num, HN.out _ rfl HX.out⟩
        case measure => simp [RowKit.intOf]; omega
    · obtain ⟨j, hj, hjx⟩ := HP.out
      exact absurd hjx (hno.out j (by omega))
theorem l02Has_no (v : Value) (n : Nat) (g : Nat → Int) (x : Int) (w : World) (h : IntRow w v n g) (hp : ¬ hasP g x n) :
    Calls Try.prog 60 #[v, .int .i64 x] w fun e w' => e = .returned (.bool false) ∧ w = w' := by
  obtain ⟨a, cap, rfl, hn, hv⟩ := h.form
  have HV := Lib.hid hv
  have HP := Lib.hid hp
  clear hv h hp
  go_enter Try.func60, Try.ntmps60
  go_wp2
  go_loop [9] (fun i => ∃ k : Nat, k ≤ n ∧ i = .int .i64 k) (fun i => n - (RowKit.intOf i).toNat)
  case atStart => exact ⟨0, Nat.zero_le _, rfl⟩
  case round =>
    obtain ⟨k, hk, rfl⟩ := hrel
    by_cases hlt : k < n
    · obtain ⟨b, off, rfl, hc⟩ := HV.out (by omega)
      have c1 := hc k hlt
      have g1 : (g k == x) = false := by
        simp only [beq_eq_false_iff_ne, ne_eq]
        exact fun h => HP.out (hasP_at hlt h)
      clear hc HV
      generalize g k = y at *
      go_wp2
      go_round
      case rel => exact ⟨k + 1, by omega, by go_num⟩
      case measure => simp [RowKit.intOf]; omega
    · go_wp2
      go_ret
      exact ⟨rfl, rfl⟩

def placeI (g : Nat → Int) (x : Int) : Nat → Nat → Int
  | 0, _ => -1
  | r + 1, k => if g k = x then (k : Int) else placeI g x r (k + 1)
theorem placeOf_spec (v : Value) (n : Nat) (g : Nat → Int) (x : Int) (w : World) (h : IntRow w v n g) :
    Calls Try.prog 73 #[v, .int .i64 x] w fun e w' => e = .returned (.int .i64 (placeI g x n 0)) ∧ w = w' := by
  obtain ⟨a, cap, rfl, hn, hv⟩ := h.form
  have HV := Lib.hid hv
  clear hv h
  generalize hr : placeI g x n 0 = R
  have HR := Lib.hid hr
  clear hr
  go_enter Try.func73, Try.ntmps73
  go_wp2
  go_loop [9] (fun i => ∃ k : Nat, k ≤ n ∧ i = .int .i64 k ∧ Hid (placeI g x (n - k) k = R)) (fun i => n - (RowKit.intOf i).toNat)
  case atStart => exact ⟨0, Nat.zero_le _, rfl, HR.out⟩
  case round =>
    obtain ⟨k, hk, rfl, hp⟩ := hrel
    by_cases hlt : k < n
    · obtain ⟨b, off, rfl, hc⟩ := HV.out (by omega)
      have c1 := hc k hlt
      have hstep : (if g k = x then (k : Int) else placeI g x (n - (k + 1)) (k + 1)) = R := by
        have := hp.out
        rw [show n - k = n - (k + 1) + 1 by omega] at this
        exact this
      clear hc HV hp
      by_cases hx : g k = x
      · rw [if_pos hx] at hstep
        subst hstep
        clear HR
        rw [hx] at c1
        clear hx
        go_wp2
        go_ret
        exact ⟨rfl, rfl⟩
      · rw [if_neg hx] at hstep
        have HS := Lib.hid hstep
        have g1 : (g k == x) = false := by simpa using hx
        clear hx hstep
        generalize g k = y at c1 g1
        go_wp2
        go_round
        case rel => exact ⟨k + 1, by omega, by go_num, HS.out⟩
        case measure => simp [RowKit.intOf]; omega
    · obtain rfl : k = n := by omega
      have hR : R = -1 := by rw [← hp.out, Nat.sub_self]; rfl
      subst hR
      clear hp HR
      go_wp2
      go_ret
      exact ⟨rfl, rfl⟩

def orderP (m : Int) (n : Nat) (g : Nat → Int) : Prop := (0 ≤ m ∧ m ≤ 8) ∧ (n : Int) = m ∧ ∀ i, i < n → (0 ≤ g i ∧ g i ≤ m - 1) ∧ ¬ hasP g (g i) i
theorem IntRow.take {w : World} {b off cap n : Nat} {g : Nat → Int} (k : Nat) (hk : k ≤ n) (hn : n ≤ 9223372036854775807) (hcap : n ≤ cap) (h : ∀ i, i < n → w.cell? ⟨b, off + i, none⟩ = some (.int .i64 (g i))) :
    IntRow w (.slice (some ⟨b, off, none⟩) k cap) k g := by
  by_cases h0 : k = 0
  · subst h0; exact .inl ⟨_, _, rfl, rfl⟩
  · exact .inr ⟨b, off, cap, rfl, by omega, by omega, fun i hi => h i (by omega), by omega⟩
end Go.Proofs.Ytmhkkdnopcdibaa
set_option linter.unusedVariables false
namespace Go.Proofs.Ytmhkkdnopcdibaa
open Go.RowKit

theorem hasP_mem (L : List Int) (x : Int) : hasP (getI L) x L.length ↔ x ∈ L := by
  constructor
  · rintro ⟨j, hj, rfl⟩
    simp only [getI, List.getD_eq_getElem?_getD, List.getElem?_eq_getElem hj, Option.getD_some]
    exact List.getElem_mem hj
  · intro h
    obtain ⟨j, hj, he⟩ := List.getElem_of_mem h
    exact ⟨j, hj, by simp only [getI, List.getD_eq_getElem?_getD, List.getElem?_eq_getElem hj, Option.getD_some]; exact he⟩
theorem owns_form {w : World} {base : Nat} {e : TypeId} {size : Nat} {v : Value} {n : Nat} {xs : List Value} (h : w.ownsRow base e size v n xs) : ∃ a c, v = .slice a n c := by
  rcases h.2 with ⟨rfl, h0⟩ | ⟨b, cap, cur, rfl, _⟩
  · exact ⟨none, 0, by rw [h0]⟩
  · exact ⟨_, _, rfl⟩
end Go.Proofs.Ytmhkkdnopcdibaa
