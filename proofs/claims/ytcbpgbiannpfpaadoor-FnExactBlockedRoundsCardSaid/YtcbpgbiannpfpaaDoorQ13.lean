/-
  Packed: CalDays, GamesBase, RndImplA, GamesFuns, GamesImpl, RndImplD, RndImplE.
-/
import Derived.Deep.LoopGhost
import Derived.Lib.SlicesSearch
import Derived.BigRegion
import Derived.Test.YtcbpgbiannpfpaaDoorQ4
import Derived.Test.YtcbpgbiannpfpaaDoorQ6
import Derived.Test.YtcbpgbiannpfpaaDoorQ7
import Derived.Test.YtcbpgbiannpfpaaDoorQ8
import Derived.Test.YtcbpgbiannpfpaaDoorQ12
set_option linter.unusedVariables false
namespace Go.Proofs.YtcbpgbiannpfpaaDoor
open Go.RowKit

def fromL (f : Int) (L : List Int) : List Int := L.filter fun d => decide (f ≤ d)
def cutN (f : Int) (L : List Int) : Nat := L.countP fun d => decide (d < f)
def AscL (L : List Int) : Prop := L.Pairwise (· ≤ ·)
theorem cutN_le (f : Int) (L : List Int) : cutN f L ≤ L.length := List.countP_le_length
theorem drop_from (f : Int) : ∀ L : List Int, AscL L → L.drop (cutN f L) = fromL f L
  | [], _ => rfl
  | a :: r, h => by
    have hr := List.pairwise_cons.1 h
    by_cases ha : a < f
    · have e1 : cutN f (a :: r) = cutN f r + 1 := List.countP_cons_of_pos (by simpa using ha)
      have e2 : fromL f (a :: r) = fromL f r := List.filter_cons_of_neg (by simp; omega)
      rw [e1, e2, List.drop_succ_cons]
      exact drop_from f r hr.2
    · have e1 : cutN f (a :: r) = 0 := List.countP_eq_zero.2 fun x hx => by
        rcases List.mem_cons.1 hx with rfl | hx
        · simpa using ha
        · have := hr.1 x hx; simp; omega
      have e2 : fromL f (a :: r) = a :: r := List.filter_eq_self.2 fun x hx => by
        rcases List.mem_cons.1 hx with rfl | hx
        · simp; omega
        · have := hr.1 x hx; simp; omega
      rw [e1, e2]; rfl
theorem asc_from (f : Int) {L : List Int} (h : AscL L) : AscL (fromL f L) := List.Pairwise.filter _ h
theorem days_asc {L : List Int} (h : daysP L) : AscL L := by
  unfold AscL
  have key : ∀ d a, a + d < L.length → getI L a ≤ getI L (a + d) := by
    intro d
    induction d with
    | zero => intro a _; exact Int.le_refl _
    | succ d ih =>
      intro a ha
      have h1 := ih a (by omega)
      have h2 := (h (a + (d + 1)) ha).2 (by omega)
      rw [show a + (d + 1) - 1 = a + d by omega] at h2
      omega
  rw [List.pairwise_iff_getElem]
  intro i j hi hj hij
  have := key (j - i) i (by omega)
  rw [show i + (j - i) = j by omega] at this
  simpa [getI, hi, hj] using this
theorem asc_at {L : List Int} (h : AscL L) : ∀ a b, a ≤ b → b < L.length → getI L a ≤ getI L b := by
  intro a b hab hb
  have := Lib.sorted_at L L.length (Nat.le_refl _) (by rw [List.take_length]; exact h) a b hab hb
  exact this
theorem cut_is {f : Int} {L : List Int} {k : Nat} (hk : k ≤ L.length) (h1 : ∀ j, j < k → getI L j < f) (h2 : ∀ j, k ≤ j → j < L.length → f ≤ getI L j) : cutN f L = k :=
  Lib.countP_split _ L k hk (fun j hj => by simpa [getI] using h1 j hj) (fun j hj hl => by simpa [getI] using h2 j hj hl)
theorem isNaN_impl (x : Int) (w : World) : Calls Tryd.prog 80 #[.int .i64 x] w fun e w' => e = .returned (.bool false) ∧ w' = w := by
  go_enter Tryd.func80, Tryd.ntmps80
  go_wp2
  go_ret
  exact ⟨by simp, rfl⟩
theorem cmpNaN_impl (x : Int) (w : World) : Calls Tryd.prog 87 #[.int .i64 x] w fun e w' => e = .returned (.bool false) ∧ w' = w := by
  go_enter Tryd.func87, Tryd.ntmps87
  go_wp2
  go_ret
  exact ⟨by simp, rfl⟩
theorem cmpLess_impl (x y : Int) (w : World) : Calls Tryd.prog 79 #[.int .i64 x, .int .i64 y] w fun e w' => e = .returned (.bool (decide (x < y))) ∧ w' = w := by
  go_enter Tryd.func79, Tryd.ntmps79
  go_wp2_with (go_at_call 87; refine (cmpNaN_impl _ _).mono ?_; rintro e w' ⟨rfl, rfl⟩)
  go_ret
  exact ⟨rfl, rfl⟩
set_option maxRecDepth 1000000 in
set_option maxHeartbeats 4000000 in
theorem bsearch_impl (v : Value) (L : List Int) (x : Int) (w : World) (h : IntRow w v L.length (getI L)) (hs : AscL L) (hbig : L.length < 4611686018427387904) :
    Calls Tryd.prog 59 #[v, .int .i64 x] w fun e w' => (∃ r : Bool, e = .returned (.tuple #[.int .i64 (cutN x L : Nat), .bool r])) ∧ Below w.heap.size w w' := by
  obtain ⟨a, c, rfl, hn, _⟩ := h.form
  have HR := Lib.hid h
  have HS := Lib.hid (asc_at hs)
  have HC : Hid (∀ k, k ≤ L.length → (∀ j, j < k → getI L j < x) → (∀ j, k ≤ j → j < L.length → x ≤ getI L j) → cutN x L = k) := fun k h0 h1 h2 => cut_is h0 h1 h2
  clear h hs
  generalize cutN x L = N at *
  obtain ⟨n, hd⟩ : ∃ n, L.length = n := ⟨_, rfl⟩
  rw [hd] at hn hbig HR HS HC ⊢
  clear hd
  generalize getI L = g at *
  go_enter Tryd.func59, Tryd.ntmps59
  go_wp2
  go_loopg [7, 8] n (fun gh s7 s8 wr => ∃ lo hi : Nat, s7 = .int .i64 lo ∧ s8 = .int .i64 hi ∧ lo ≤ hi ∧ hi ≤ n ∧ hi - lo ≤ gh ∧ Hid (Below w.heap.size w wr) ∧ Hid (∀ t, t < lo → g t < x) ∧ Hid (∀ t, hi ≤ t → t < n → x ≤ g t))
  case atStart => exact ⟨0, n, rfl, rfl, Nat.zero_le _, Nat.le_refl _, by omega, Below.refl _ _, fun t ht => absurd ht (Nat.not_lt_zero _), fun t h1 h2 => by omega⟩
  case round =>
    obtain ⟨lo, hi, rfl, rfl, hlh, hin, hg, HB, H1, H2⟩ := hrel
    by_cases hlt : lo < hi
    · obtain ⟨b, off, rfl, hcap, cm⟩ := int_at (HR.out.below HB.out (Nat.le_refl _)) (show (lo + hi) / 2 < n by omega)
      have HY : Hid (∀ t, t ≤ (lo + hi) / 2 → g t ≤ g ((lo + hi) / 2)) := fun t ht => HS.out t _ ht (by omega)
      have HZ : Hid (∀ t, (lo + hi) / 2 ≤ t → t < n → g ((lo + hi) / 2) ≤ g t) := fun t ht h9 => HS.out _ t ht h9
      generalize g ((lo + hi) / 2) = y at *
      by_cases hyx : y < x
      · go_wp2_with (first | (go_at_call 79; refine (cmpLess_impl _ _ _).mono ?_; rintro e w' ⟨rfl, rfl⟩) | (go_at_call 80; refine (isNaN_impl _ _).mono ?_; rintro e w' ⟨rfl, rfl⟩))
        go_roundg (hi - ((lo + hi) / 2 + 1))
        case measure => omega
        case rel => exact ⟨(lo + hi) / 2 + 1, hi, by rw [show ((lo : Int) + (hi : Int)) / 2 + 1 = (((lo + hi) / 2 + 1 : Nat) : Int) by omega], rfl, by omega, hin, Nat.le_refl _, HB, fun t ht => (by have := HY.out t (by omega); omega), H2⟩
      · go_wp2_with (first | (go_at_call 79; refine (cmpLess_impl _ _ _).mono ?_; rintro e w' ⟨rfl, rfl⟩) | (go_at_call 80; refine (isNaN_impl _ _).mono ?_; rintro e w' ⟨rfl, rfl⟩))
        go_roundg ((lo + hi) / 2 - lo)
        case measure => omega
        case rel => exact ⟨lo, (lo + hi) / 2, rfl, by rw [show ((lo : Int) + (hi : Int)) / 2 = (((lo + hi) / 2 : Nat) : Int) by omega], by omega, by omega, Nat.le_refl _, HB, H1, fun t ht h9 => (by have := HZ.out t ht h9; omega)⟩
    · obtain rfl : hi = lo := by omega
      obtain rfl := HC.out hi hin H1.out H2.out
      clear HC H1 H2 HS
      by_cases hn2 : N < n
      · obtain ⟨b, off, rfl, hcap, cl⟩ := int_at (HR.out.below HB.out (Nat.le_refl _)) hn2
        clear HR
        generalize g N = y at *
        by_cases hyx : y = x
        · go_wp2_with (first | (go_at_call 79; refine (cmpLess_impl _ _ _).mono ?_; rintro e w' ⟨rfl, rfl⟩) | (go_at_call 80; refine (isNaN_impl _ _).mono ?_; rintro e w' ⟨rfl, rfl⟩))
          go_ret2
          exact ⟨⟨_, rfl⟩, HB.out⟩
        · go_wp2_with (first | (go_at_call 79; refine (cmpLess_impl _ _ _).mono ?_; rintro e w' ⟨rfl, rfl⟩) | (go_at_call 80; refine (isNaN_impl _ _).mono ?_; rintro e w' ⟨rfl, rfl⟩))
          go_ret2
          exact ⟨⟨_, rfl⟩, HB.out⟩
      · clear HR
        go_wp2_with (first | (go_at_call 79; refine (cmpLess_impl _ _ _).mono ?_; rintro e w' ⟨rfl, rfl⟩) | (go_at_call 80; refine (isNaN_impl _ _).mono ?_; rintro e w' ⟨rfl, rfl⟩))
        go_ret2
        exact ⟨⟨_, rfl⟩, HB.out⟩
def subV (k : Nat) : Value → Value
  | .slice a n c => .slice (if c = k then a else a.map fun x => x.add k) (n - k) (c - k)
  | v => v
theorem subV_slice (k : Nat) (a : Option Addr) (n c : Nat) : subV k (.slice a n c) = .slice (if c = k then a else a.map fun x => x.add k) (n - k) (c - k) := rfl
theorem subV_row {w : World} {v : Value} {n k : Nat} {g : Nat → Int} (h : IntRow w v n g) (hk : k ≤ n) : IntRow w (subV k v) (n - k) (fun i => g (k + i)) := by
  by_cases e : n = k
  · subst e
    obtain ⟨a, c, rfl, _, _⟩ := h.form
    exact .inl ⟨_, _, by rw [subV_slice, Nat.sub_self], Nat.sub_self _⟩
  rcases h with ⟨a, c, rfl, h0⟩ | ⟨b, off, c, rfl, h0, hn, hc, hcap⟩
  · omega
  · refine .inr ⟨b, off + k, c - k, ?_, by omega, by omega, fun i hi => ?_, by omega⟩
    · rw [subV_slice, if_neg (by omega)]; simp [Addr.add]
    · rw [Nat.add_assoc]; exact hc (k + i) (by omega)
theorem getI_drop (L : List Int) (k i : Nat) : getI (L.drop k) i = getI L (k + i) := by unfold getI; rw [List.getD_eq_getElem?_getD, List.getD_eq_getElem?_getD, List.getElem?_drop]
theorem subV_from {w : World} {v : Value} {L : List Int} (h : IntRow w v L.length (getI L)) (hs : AscL L) (f : Int) : IntRow w (subV (cutN f L) v) (fromL f L).length (getI (fromL f L)) := by
  rw [← drop_from f L hs, List.length_drop]
  exact (subV_row h (cutN_le f L)).congr fun i _ => (getI_drop L _ i).symm
set_option maxRecDepth 100000 in
theorem daysFrom_impl (v : Value) (L : List Int) (x : Int) (w : World) (h : IntRow w v L.length (getI L)) (hs : AscL L) (hbig : L.length < 4611686018427387904) :
    Calls Tryd.prog 28 #[v, .int .i64 x] w fun e w' => e = .returned (subV (cutN x L) v) ∧ Below w.heap.size w w' := by
  have hcap : ∃ a c, v = .slice a L.length c ∧ (L.length ≤ c ∨ L.length = 0) ∧ L.length ≤ 9223372036854775807 := by
    rcases h with ⟨a, c, rfl, h0⟩ | ⟨b, off, c, rfl, h0, hn, hc, hcap⟩
    · exact ⟨a, c, by rw [h0], .inr h0, by omega⟩
    · exact ⟨_, c, rfl, .inl hcap, hn⟩
  obtain ⟨a, c, rfl, hcap, hn⟩ := hcap
  have hk := cutN_le x L
  have C := Lib.hid (bsearch_impl _ L x w h hs hbig)
  generalize cutN x L = k at *
  generalize L.length = n at *
  have hkc : k ≤ c := by omega
  clear h hs
  rw [subV_slice]
  by_cases e : c = k
  · rw [if_pos e]
    subst e
    go_enter Tryd.func28, Tryd.ntmps28
    go_wp2_with fail
    refine C.out.mono ?_
    rintro e w1 ⟨⟨r, rfl⟩, b⟩
    have HB := Lib.hid b
    clear b C
    go_wp2
    go_ret
    exact ⟨by rw [Nat.sub_self]; rfl, HB.out⟩
  · rw [if_neg e]
    go_enter Tryd.func28, Tryd.ntmps28
    go_wp2_with fail
    refine C.out.mono ?_
    rintro e w1 ⟨⟨r, rfl⟩, b⟩
    have HB := Lib.hid b
    clear b C
    go_wp2
    go_ret
    exact ⟨rfl, HB.out⟩
def noDayB (d : Int) : Bool := decide (d < 0) || decide (60 < d)
theorem isNoDay_impl (d : Int) (w : World) :
    Calls Tryd.prog 37 #[.int .i64 d] w fun e w' => e = .returned (.bool (noDayB d)) ∧ Below w.heap.size w w' := by
  unfold noDayB
  cases g1 : decide (d < 0) with
  | true =>
    go_enter Tryd.func37, Tryd.ntmps37
    go_wp2
    go_ret
    exact ⟨rfl, Below.refl _ _⟩
  | false =>
    go_enter Tryd.func37, Tryd.ntmps37
    go_wp2
    go_ret
    exact ⟨rfl, Below.refl _ _⟩
theorem noDays_impl (v : Value) (L : List Int) (w : World) (h : IntRow w v L.length (getI L)) :
    Calls Tryd.prog 36 #[v, .func (.func 37) #[] #[]] w fun e w' => e = .returned (.bool (L.any noDayB)) ∧ Below w.heap.size w w' :=
  cont_noDay noDayB v L w h fun x wa _ => isNoDay_impl x wa
theorem noDays_iff (L : List Int) : L.any noDayB = false ↔ ∀ i, i < L.length → 0 ≤ getI L i ∧ getI L i ≤ 60 := by
  rw [List.any_eq_false]
  constructor
  · intro h i hi
    have := h (getI L i) (by unfold getI; rw [List.getD_eq_getElem?_getD, List.getElem?_eq_getElem hi]; exact List.getElem_mem hi)
    unfold noDayB at this
    simp at this
    omega
  · intro h x hx
    obtain ⟨i, hi, rfl⟩ := List.mem_iff_getElem.1 hx
    have := h i hi
    unfold getI at this
    rw [List.getD_eq_getElem?_getD, List.getElem?_eq_getElem hi] at this
    unfold noDayB
    simp only [Option.getD_some] at this
    simp
    omega
set_option maxRecDepth 100000 in
set_option maxHeartbeats 4000000 in
theorem areDays_impl (v : Value) (L : List Int) (R : Bool) (w : World) (hR : R = true ↔ L.length ≤ 30 ∧ daysP L) (h : IntRow w v L.length (getI L)) :
    Calls Tryd.prog 56 #[v] w fun e w' => e = .returned (.bool R) ∧ Below w.heap.size w w' := by
  obtain ⟨a, c, rfl, hn, _⟩ := h.form
  have HR := Lib.hid h
  have C := Lib.hid (noDays_impl _ L w h)
  obtain ⟨r, hr⟩ : ∃ r, L.any noDayB = r := ⟨_, rfl⟩
  have HD : Hid (r = false ↔ ∀ i, i < L.length → 0 ≤ getI L i ∧ getI L i ≤ 60) := by rw [← hr]; exact noDays_iff L
  rw [hr] at C
  have HQ := Lib.hid hR
  clear h hr hR
  obtain ⟨n, hd⟩ : ∃ n, L.length = n := ⟨_, rfl⟩
  have hQ2 : Hid (R = true ↔ n ≤ 30 ∧ (r = false ∧ ∀ i, i < n → 0 < i → getI L (i - 1) < getI L i)) := by
    refine HQ.out.trans ?_
    rw [HD.out, ← hd]
    unfold daysP
    constructor
    · rintro ⟨h1, h2⟩; exact ⟨h1, fun i hi => (h2 i hi).1, fun i hi h0 => (h2 i hi).2 h0⟩
    · rintro ⟨h1, h2, h3⟩; exact ⟨h1, fun i hi => ⟨h2 i hi, h3 i hi⟩⟩
  rw [hd] at hn HR C ⊢
  clear hd HQ HD
  generalize getI L = g at *
  by_cases h30 : n ≤ 30
  case neg =>
    have HF : R = false := by cases hr : R with | false => rfl | true => exact absurd (hQ2.out.1 hr).1 h30
    subst HF
    have g1 : decide ((30 : Int) < (n : Int)) = true := decide_eq_true (by omega)
    have g1' : decide (30 < n) = true := decide_eq_true (by omega)
    go_enter Tryd.func56, Tryd.ntmps56
    go_wp2
    go_ret
    exact ⟨rfl, Below.refl _ _⟩
  have g1 : decide ((30 : Int) < (n : Int)) = false := decide_eq_false (by omega)
  have g1' : decide (30 < n) = false := decide_eq_false (by omega)
  go_enter Tryd.func56, Tryd.ntmps56
  go_wp2_with fail
  refine C.out.mono ?_
  rintro e w1 ⟨rfl, b⟩
  have HB := Lib.hid b
  clear b C
  cases r with
  | true =>
    have HF : R = false := by cases hr : R with | false => rfl | true => exact absurd (hQ2.out.1 hr).2.1 (by simp)
    subst HF
    go_wp2
    go_ret
    exact ⟨rfl, HB.out⟩
  | false =>
  have HNo : Hid (∀ i, i < n → 0 < i → ¬ g (i - 1) < g i → R = false) := fun i hi h0 h9 => by cases hr : R with | false => rfl | true => exact absurd ((hQ2.out.1 hr).2.2 i hi h0) h9
  have HYes : Hid ((∀ i, i < n → 0 < i → g (i - 1) < g i) → R = true) := fun h9 => hQ2.out.2 ⟨h30, rfl, h9⟩
  clear hQ2 g1 g1'
  go_wp2
  go_loopw [3] (fun iv wr => ∃ k : Nat, 1 ≤ k ∧ (k ≤ n ∨ k = 1) ∧ iv = .int .i64 k ∧ Hid (∀ i, i < k → i < n → 0 < i → g (i - 1) < g i) ∧ Hid (Below w.heap.size w wr)) (fun iv _ => n - (RowKit.intOf iv).toNat)
  case atStart => exact ⟨1, Nat.le_refl _, .inr rfl, rfl, fun i h1 h2 h3 => by omega, HB⟩
  case round =>
    clear HB
    obtain ⟨k, hk1, hk9, rfl, HV, HB⟩ := hrel
    by_cases hlt : k < n
    · obtain ⟨b, off, rfl, hcap, q0⟩ := int_at (HR.out.below HB.out (Nat.le_refl _)) hlt
      obtain ⟨_, _, he, _, q1⟩ := int_at (HR.out.below HB.out (Nat.le_refl _)) (show k - 1 < n by omega)
      simp only [Option.some.injEq, Addr.mk.injEq, and_true] at he
      obtain ⟨rfl, rfl⟩ := he
      have hj1 : (k : Int) < (n : Int) := by omega
      have hj2 : (1 : Int) ≤ (k : Int) := by omega
      have hj3 : ((k : Int) - 1).toNat = k - 1 := by omega
      have HF := Lib.hid (HNo.out k hlt (by omega))
      have HVN : Hid (g (k - 1) < g k → ∀ i, i < k + 1 → i < n → 0 < i → g (i - 1) < g i) := fun h9 i h1 h2 h3 => by
        by_cases e : i = k
        · subst e; exact h9
        · exact HV.out i (by omega) h2 h3
      clear HV HNo HYes
      generalize hxe : g k = x at *
      generalize hye : g (k - 1) = y at *
      clear hxe hye
      by_cases hxy : y < x
      · have g2 : decide (x ≤ y) = false := decide_eq_false (by omega)
        have HVx := Lib.hid (HVN.out hxy)
        clear HVN HF
        go_wp2_with (go_quiet (fail))
        go_roundw
        case rel => exact ⟨k + 1, by omega, .inl (by omega), by go_num, HVx, below_drewN HB.out _⟩
        case measure => simp [RowKit.intOf]; omega
      · have g2 : decide (x ≤ y) = true := decide_eq_true (by omega)
        obtain rfl := HF.out (by omega)
        clear HVN HF
        go_wp2_with (go_quiet (fail))
        go_ret
        exact ⟨rfl, below_drewN HB.out _⟩
    obtain rfl := HYes.out (fun i hi h0 => HV.out i (by omega) hi h0)
    go_wp2
    go_ret
    exact ⟨rfl, HB.out⟩
end Go.Proofs.YtcbpgbiannpfpaaDoor
set_option linter.unusedVariables false
namespace Go.Proofs.YtcbpgbiannpfpaaDoor
open Go.RowKit

theorem bool_of {R : Bool} {p : Prop} (h : R = true ↔ p) (hp : p) : R = true := h.2 hp
theorem bool_not {R : Bool} {p : Prop} (h : R = true ↔ p) (hp : ¬ p) : R = false := by
  cases R with
  | false => rfl
  | true => exact absurd (h.1 rfl) hp

theorem areOpp_impl (n a b : Int) (R : Bool) (w : World) (hR : R = true ↔ (0 ≤ a ∧ a < n ∧ 0 ≤ b ∧ b < n ∧ a ≠ b)) :
    Calls Tryd.prog 61 #[.int .i64 n, .int .i64 a, .int .i64 b] w fun e w' => e = .returned (.bool R) ∧ w = w' := by
  have HN := Lib.hid (bool_not hR)
  have HY := Lib.hid (bool_of hR)
  clear hR
  by_cases h1 : 0 ≤ a
  case neg =>
    have g1 : decide (0 ≤ a) = false := decide_eq_false h1
    obtain rfl := HN.out fun h => h1 h.1
    clear HN HY h1
    go_enter Tryd.func61, Tryd.ntmps61
    go_wp2
    go_ret
    exact ⟨by first | rfl | exact congrArg (fun q => Ending.returned (Value.bool q)) (by unfold bne; rw [g5]; rfl), rfl⟩
  have g1 : decide (0 ≤ a) = true := decide_eq_true h1
  by_cases h2 : a < n
  case neg =>
    have g2 : decide (a < n) = false := decide_eq_false h2
    obtain rfl := HN.out fun h => h2 h.2.1
    clear HN HY h2
    go_enter Tryd.func61, Tryd.ntmps61
    go_wp2
    go_ret
    exact ⟨by first | rfl | exact congrArg (fun q => Ending.returned (Value.bool q)) (by unfold bne; rw [g5]; rfl), rfl⟩
  have g2 : decide (a < n) = true := decide_eq_true h2
  by_cases h3 : 0 ≤ b
  case neg =>
    have g3 : decide (0 ≤ b) = false := decide_eq_false h3
    obtain rfl := HN.out fun h => h3 h.2.2.1
    clear HN HY h3
    go_enter Tryd.func61, Tryd.ntmps61
    go_wp2
    go_ret
    exact ⟨by first | rfl | exact congrArg (fun q => Ending.returned (Value.bool q)) (by unfold bne; rw [g5]; rfl), rfl⟩
  have g3 : decide (0 ≤ b) = true := decide_eq_true h3
  by_cases h4 : b < n
  case neg =>
    have g4 : decide (b < n) = false := decide_eq_false h4
    obtain rfl := HN.out fun h => h4 h.2.2.2.1
    clear HN HY h4
    go_enter Tryd.func61, Tryd.ntmps61
    go_wp2
    go_ret
    exact ⟨by first | rfl | exact congrArg (fun q => Ending.returned (Value.bool q)) (by unfold bne; rw [g5]; rfl), rfl⟩
  have g4 : decide (b < n) = true := decide_eq_true h4
  by_cases h5 : a ≠ b
  case neg =>
    have g5 : (a == b) = true := by simpa using h5
    obtain rfl := HN.out fun h => h5 h.2.2.2.2
    clear HN HY h5
    go_enter Tryd.func61, Tryd.ntmps61
    go_wp2
    go_ret
    exact ⟨by first | rfl | exact congrArg (fun q => Ending.returned (Value.bool q)) (by unfold bne; rw [g5]; rfl), rfl⟩
  have g5 : (a == b) = false := beq_eq_false_iff_ne.2 h5
  obtain rfl := HY.out ⟨h1, h2, h3, h4, h5⟩
  clear HN HY h5
  go_enter Tryd.func61, Tryd.ntmps61
  go_wp2
  go_ret
  exact ⟨congrArg (fun q => Ending.returned (Value.bool q)) (by unfold bne; rw [g5]; rfl), rfl⟩
theorem bool_ex (p : Prop) : ∃ R : Bool, R = true ↔ p := by
  by_cases h : p
  · exact ⟨true, fun _ => h, fun _ => rfl⟩
  · exact ⟨false, (fun e => by cases e), fun e => absurd e h⟩
end Go.Proofs.YtcbpgbiannpfpaaDoor
set_option linter.unusedVariables false
namespace Go.Proofs.YtcbpgbiannpfpaaDoor
open Go.RowKit

def venueP (h a x : Int) : Int := if h = x then 1 else if a = x then 2 else 0
theorem venueOf_impl (h a x : Int) (w : World) :
    Calls Tryd.prog 88 #[.agg #[.int .i64 h, .int .i64 a], .int .i64 x] w fun e w' => e = .returned (.int .i64 (venueP h a x)) ∧ Below w.heap.size w w' := by
  have b1 : Below w.heap.size w (w.alloc (.cells #[.int .i64 h, .int .i64 a] 98)) := (Below.refl _ _).alloc (Nat.le_refl _) _
  have HB := Lib.hid b1
  clear b1
  by_cases h1 : h = x
  · have g1 : (x == h) = true := beq_iff_eq.2 h1.symm
    have e : venueP h a x = 1 := if_pos h1
    rw [e]
    clear h1 e
    go_enter Tryd.func88, Tryd.ntmps88
    go_wp2
    go_ret
    exact ⟨rfl, HB.out⟩
  have g1 : (x == h) = false := beq_eq_false_iff_ne.2 fun e => h1 e.symm
  by_cases h2 : a = x
  · have g2 : (x == a) = true := beq_iff_eq.2 h2.symm
    have e : venueP h a x = 2 := (if_neg h1).trans (if_pos h2)
    rw [e]
    clear h1 h2 e
    go_enter Tryd.func88, Tryd.ntmps88
    go_wp2
    go_ret
    exact ⟨rfl, HB.out⟩
  have g2 : (x == a) = false := beq_eq_false_iff_ne.2 fun e => h2 e.symm
  have e : venueP h a x = 0 := (if_neg h1).trans (if_neg h2)
  rw [e]
  clear h1 h2 e
  go_enter Tryd.func88, Tryd.ntmps88
  go_wp2
  go_ret
  exact ⟨rfl, HB.out⟩
set_option maxRecDepth 100000 in
set_option maxHeartbeats 2000000 in
theorem venueIn_impl (v : Value) (r : PairL) (x : Int) (w : World) (h : RdA tPairS w [v] r) :
    Calls Tryd.prog 84 #[v, .int .i64 x] w fun e w' => e = .returned (.int .i64 (venueL r x)) ∧ Below w.heap.size w w' := by
  obtain ⟨a, c, rfl, hn⟩ := pairs_form h
  have HR := Lib.hid h
  clear h
  obtain ⟨n, hd⟩ : ∃ n, List.length (α := tPair.D) r = n := ⟨_, rfl⟩
  have HD := Lib.hid hd
  rw [hd] at hn ⊢
  clear hd
  go_enter Tryd.func84, Tryd.ntmps84
  go_wp2
  go_loopw [10] (fun iv wr => ∃ i : Nat, i ≤ n ∧ iv = .int .i64 i ∧ Hid (venueL (r.drop i) x = venueL r x) ∧ Hid (Below w.heap.size w wr)) (fun iv _ => n - (RowKit.intOf iv).toNat)
  case atStart => exact ⟨0, Nat.zero_le _, rfl, rfl, Below.refl _ _⟩
  case round =>
    obtain ⟨i, hi9, rfl, HV, HB⟩ := hrel
    by_cases hlt : i < n
    · obtain ⟨p, hp⟩ : ∃ p : tPair.D, r[i]? = some p := ⟨_, List.getElem?_eq_getElem (by rw [HD.out]; exact hlt)⟩
      have HV2 := HV.out
      rw [drop_at hp, venueL_cons] at HV2
      have HRr := HR.out.below HB.out
      obtain ⟨b, off, rfl, hcap, q0, q1⟩ := pair_cells HRr hp
      rw [HD.out] at hcap
      have hj1 : (i : Int) < (n : Int) := by omega
      have HV3 := Lib.hid HV2
      clear HV HV2 HRr hp
      generalize hm p = ph at *
      generalize aw p = pa at *
      have C := Lib.hid (venueOf_impl ph pa x)
      have HB2 : Hid (Below w.heap.size w (wr.alloc (.cells #[.int .i64 ph, .int .i64 pa] 98))) := HB.out.alloc HB.out.size _
      have h0 : Hid (venueP ph pa x = 0 → venueL (r.drop (i + 1)) x = venueL r x) := fun e => by
        rw [← HV3.out]
        unfold venueP at e
        by_cases h1 : ph = x
        · rw [if_pos h1] at e; cases e
        · rw [if_neg h1] at e
          by_cases h2 : pa = x
          · rw [if_pos h2] at e; cases e
          · rw [if_neg h1, if_neg h2]
      have h1 : Hid (venueP ph pa x ≠ 0 → venueL r x = venueP ph pa x) := fun e => by
        rw [← HV3.out]
        unfold venueP at e ⊢
        by_cases h1 : ph = x
        · rw [if_pos h1, if_pos h1]
        · rw [if_neg h1] at e ⊢
          rw [if_neg h1]
          by_cases h2 : pa = x
          · rw [if_pos h2, if_pos h2]
          · rw [if_neg h2] at e; exact absurd rfl e
      clear HV3
      generalize venueP ph pa x = z at *
      by_cases hz : z = 0
      · have HVx := Lib.hid (h0.out hz)
        have gz : (z == 0) = true := beq_iff_eq.2 hz
        clear h0 h1 hz
        go_wp2_with fail
        refine (C.out _).mono ?_
        rintro e w1 ⟨rfl, b1⟩
        have HB3 := Lib.hid (HB2.out.trans (b1.mono HB2.out.size))
        clear b1 C HB2
        go_wp2
        go_roundw
        case rel => exact ⟨i + 1, by omega, by go_num, HVx, HB3⟩
        case measure => simp [RowKit.intOf]; omega
      · have HVx := Lib.hid (h1.out hz)
        have gz : (z == 0) = false := beq_eq_false_iff_ne.2 hz
        clear h0 h1 hz
        go_wp2_with fail
        refine (C.out _).mono ?_
        rintro e w1 ⟨rfl, b1⟩
        have HB3 := Lib.hid (HB2.out.trans (b1.mono HB2.out.size))
        clear b1 C HB2
        go_wp2
        go_ret
        exact ⟨by rw [HVx.out]; rfl, HB3.out⟩
    obtain rfl : i = n := by omega
    have HVx : Hid (venueL r x = 0) := by show _ = _; rw [← HV.out, List.drop_of_length_le (by have := HD.out; omega)]; rfl
    go_wp2
    go_ret
    exact ⟨by rw [HVx.out]; rfl, HB.out⟩
end Go.Proofs.YtcbpgbiannpfpaaDoor
set_option linter.unusedVariables false
namespace Go.Proofs.YtcbpgbiannpfpaaDoor
open Go.RowKit

def twoBoxes (f B1 B2 : Nat) : Value := .func (.func f) #[] #[.pointer (some ⟨B1, 0, none⟩), .pointer (some ⟨B2, 0, none⟩)]
end Go.Proofs.YtcbpgbiannpfpaaDoor
set_option linter.unusedVariables false
namespace Go.Proofs.YtcbpgbiannpfpaaDoor
open Go.RowKit

theorem SeenN.below {K : Nat} {w w' : World} {B : Nat} {S : Nat → Bool} (h : SeenN K w B S) (hb : Below w.heap.size w w') : SeenN K w' B S :=
  ⟨Nat.lt_of_lt_of_le h.1 hb.size, fun j hj => ⟨(hb.cell (p := ⟨B, j, none⟩) h.1).trans (h.2 j hj).1, (hb.frozen (p := ⟨B, j, none⟩) h.1).trans (h.2 j hj).2⟩⟩
def pairG (g : Nat → GameD) (i : Nat) : Int := (g i).home * 8 + (g i).away
theorem pair_first {n : Int} {m k : Nat} {g : Nat → GameD} (hk : k < m) (hall : ∀ i, i < k → gameP n (g i)) (hg : gameP n (g k)) :
    firstI (atG g (g k).home (g k).away) m 0 = (k : Int) ↔ ¬ hasP (pairG g) (pairG g k) k := by
  rw [firstI_eq m 0 k]
  obtain ⟨⟨_, hn⟩, ⟨q1, q2⟩, ⟨q3, q4⟩, _⟩ := hg
  constructor
  · rintro ⟨_, _, h⟩ ⟨i, hi, e⟩
    obtain ⟨_, ⟨r1, r2⟩, ⟨r3, r4⟩, _⟩ := hall i hi
    have h2 := h i (Nat.zero_le _) hi
    unfold pairG at e
    have e1 : (g i).home = (g k).home := by omega
    have e2 : (g i).away = (g k).away := by omega
    unfold atG at h2
    rw [e1, e2] at h2
    simp at h2
  · intro h
    refine ⟨⟨Nat.zero_le _, by omega⟩, by simp [atG], fun i _ hi => ?_⟩
    cases hq : atG g (g k).home (g k).away i with
    | false => rfl
    | true =>
      unfold atG at hq
      simp only [Bool.and_eq_true, beq_iff_eq] at hq
      exact absurd ⟨i, hi, by unfold pairG; rw [hq.1, hq.2]⟩ h

end Go.Proofs.YtcbpgbiannpfpaaDoor
set_option linter.unusedVariables false
namespace Go.Proofs.YtcbpgbiannpfpaaDoor
open Go.RowKit

set_option maxRecDepth 100000 in
set_option maxHeartbeats 4000000 in
theorem isRound_impl (N : Int) (v : Value) (r : PairL) (R : Bool) (hR : R = true ↔ onceP N (teamsR r)) (hN : N ≤ 8) (w : World) (h : RdA tPairS w [v] r) :
    Calls Tryd.prog 31 #[.int .i64 N, v] w fun e w' => e = .returned (.bool R) ∧ Below w.heap.size w w' := by
  obtain ⟨a, c, rfl, hn⟩ := pairs_form h
  have HR := Lib.hid h
  clear h
  obtain ⟨n, hd⟩ : ∃ n, List.length (α := tPair.D) r = n := ⟨_, rfl⟩
  have HD := Lib.hid hd
  rw [hd] at hn ⊢
  clear hd
  have HNo := Lib.hid (boolF hR)
  have HY := Lib.hid (boolT hR)
  clear hR
  have s1 := SeenN.made 8 w #[.bool false, .bool false, .bool false, .bool false, .bool false, .bool false, .bool false, .bool false] 96 (fun j hj => by match j, hj with | 0, _ => rfl | 1, _ => rfl | 2, _ => rfl | 3, _ => rfl | 4, _ => rfl | 5, _ => rfl | 6, _ => rfl | 7, _ => rfl)
  have HS0 := Lib.hid s1
  have HB0 : Hid (Below w.heap.size w (w.alloc (.cells #[.bool false, .bool false, .bool false, .bool false, .bool false, .bool false, .bool false, .bool false] 96))) := (Below.refl _ _).alloc (Nat.le_refl _) _
  clear s1
  go_enter Tryd.func31, Tryd.ntmps31
  go_wp2
  go_loopw [10] (fun iv wr => ∃ (k : Nat) (M : Nat → Bool), k ≤ n ∧ iv = .int .i64 k ∧ Hid (onceP N (teamsR (r.take k))) ∧ Hid (SeenN 8 wr w.heap.size M) ∧ Hid (∀ j : Nat, j < 8 → (M j = true ↔ (j : Int) ∈ teamsR (r.take k))) ∧ Hid (Below w.heap.size w wr)) (fun iv _ => n - (RowKit.intOf iv).toNat)
  case atStart => exact ⟨0, _, Nat.zero_le _, rfl, ⟨fun t ht => by simp [teamsR] at ht, by simp [teamsR]⟩, HS0, fun j _ => (by simp [teamsR]), HB0⟩
  case round =>
    clear HS0 HB0
    obtain ⟨k, M, hk9, rfl, HV, HS, HM, HB⟩ := hrel
    by_cases hlt : k < n
    · obtain ⟨p, hp⟩ : ∃ p : tPair.D, r[k]? = some p := ⟨_, List.getElem?_eq_getElem (by rw [HD.out]; exact hlt)⟩
      have HRr := HR.out.below HB.out
      obtain ⟨b, off, rfl, hcap, q0, q1⟩ := pair_cells HRr hp
      rw [HD.out] at hcap
      have hj1 : (k : Int) < (n : Int) := by omega
      have HTK : Hid (teamsR (r.take (k + 1)) = teamsR (r.take k) ++ [hm p, aw p]) := by show _ = _; rw [List.take_add_one, hp]; exact teamsR_app _ _
      have HTA : Hid (teamsR r = teamsR (r.take k) ++ hm p :: aw p :: teamsR (r.drop (k + 1))) := by
        show _ = _
        have e : teamsR r = teamsR (r.take k ++ r.drop k) := by rw [List.take_append_drop]
        rw [e, teamsR_app, drop_at hp]; rfl
      clear hp HRr
      generalize hm p = ph at *
      generalize aw p = pa at *
      obtain ⟨U, hU⟩ : ∃ U, wr.alloc (.cells #[.int .i64 ph, .int .i64 pa] 98) = U := ⟨_, rfl⟩
      have bU : Below wr.heap.size wr U := by rw [← hU]; exact (Below.refl _ _).alloc (Nat.le_refl _) _
      have HXU : Hid (BoxN U wr.heap.size [.int .i64 ph, .int .i64 pa]) := by rw [← hU]; exact BoxN.made (Below.refl _ _) rfl
      have HSU := Lib.hid (HS.out.below bU)
      have HBU := Lib.hid (HB.out.trans (bU.mono HB.out.size))
      have HP : Hid (w.heap.size ≠ wr.heap.size) := fun e => by have := HS.out.1; omega
      have x0 := HXU.out.2 0 _ rfl
      have x1 := HXU.out.2 1 _ rfl
      clear bU HS HB
      by_cases ho : 0 ≤ ph ∧ ph < N ∧ 0 ≤ pa ∧ pa < N ∧ ph ≠ pa
      case neg =>
        have HF : R = false := HNo.out (fun e => ho (by
          rw [HTA.out] at e
          have e1 := e.1 ph (List.mem_append_right _ (List.mem_cons_self ..))
          have e2 := e.1 pa (List.mem_append_right _ (List.mem_cons_of_mem _ (List.mem_cons_self ..)))
          refine ⟨e1.1, by omega, e2.1, by omega, fun e3 => ?_⟩
          have h9 := (List.nodup_append.1 e.2).2.1
          subst e3
          exact (List.nodup_cons.1 h9).1 (List.mem_cons_self ..)))
        subst HF
        have CA := Lib.hid (areOpp_impl N ph pa false U (by constructor; (intro h; cases h); (intro h; exact absurd h ho)))
        clear HNo HY HTA HTK HV HM
        go_wp2_with fail
        refine CA.out.mono ?_
        rintro e wx ⟨rfl, rfl⟩
        clear hU CA
        go_wp2
        go_ret
        exact ⟨rfl, HBU.out⟩
      have CA := Lib.hid (areOpp_impl N ph pa true U ⟨fun _ => ho, fun _ => rfl⟩)
      obtain ⟨o1, o2, o3, o4, o5⟩ := ho
      obtain ⟨p, rfl⟩ : ∃ p : Nat, ph = p := ⟨ph.toNat, by omega⟩
      obtain ⟨q, rfl⟩ : ∃ q : Nat, pa = q := ⟨pa.toNat, by omega⟩
      have p8 : p < 8 := by omega
      have q8 : q < 8 := by omega
      have p8' : (p : Int) < 8 := by omega
      have q8' : (q : Int) < 8 := by omega
      have hpq : p ≠ q := fun e => o5 (by rw [e])
      have m0 := (HSU.out.2 p p8).1
      have m1 := (HSU.out.2 q q8).1
      have HMp := Lib.hid (HM.out p p8)
      have HMq := Lib.hid (HM.out q q8)
      have f0 := (HSU.out.2 p p8).2
      have f1 := (HSU.out.2 q q8).2
      by_cases hp1 : M p = true
      · rw [hp1] at m0
        have HF : R = false := HNo.out (fun e => by rw [HTA.out] at e; exact not_once_dup (HMp.out.1 hp1) e)
        subst HF
        clear HNo HY HTA HTK HV HM HMp HMq hp1
        go_wp2_with fail
        refine CA.out.mono ?_
        rintro e wx ⟨rfl, rfl⟩
        clear hU CA
        go_wp2
        go_ret
        exact ⟨rfl, HBU.out⟩
      have hp1' : M p = false := by simpa using hp1
      rw [hp1'] at m0
      by_cases hq1 : M q = true
      · rw [hq1] at m1
        have HF : R = false := HNo.out (fun e => by
          have e3 : teamsR (r.take k) ++ (p : Int) :: (q : Int) :: teamsR (r.drop (k + 1)) = (teamsR (r.take k) ++ [(p : Int)]) ++ (q : Int) :: teamsR (r.drop (k + 1)) := by simp
          rw [HTA.out, e3] at e
          exact not_once_dup (List.mem_append_left _ (HMq.out.1 hq1)) e)
        subst HF
        clear HNo HY HTA HTK HV HM HMp HMq hp1 hq1 hp1'
        go_wp2_with fail
        refine CA.out.mono ?_
        rintro e wx ⟨rfl, rfl⟩
        clear hU CA
        go_wp2
        go_ret
        exact ⟨rfl, HBU.out⟩
      have hq1' : M q = false := by simpa using hq1
      rw [hq1'] at m1
      have HVN : Hid (onceP N (teamsR (r.take (k + 1)))) := by
        show onceP _ _
        rw [HTK.out, show teamsR (r.take k) ++ [(p : Int), (q : Int)] = (teamsR (r.take k) ++ [(p : Int)]) ++ [(q : Int)] by simp]
        refine onceP_push (onceP_push HV.out ⟨o1, by omega⟩ (fun e => hp1 (HMp.out.2 e))) ⟨o3, by omega⟩ (fun e => ?_)
        rcases List.mem_append.1 e with e | e
        · exact hq1 (HMq.out.2 e)
        · have := List.mem_singleton.1 e; omega
      have HMN : Hid (∀ j : Nat, j < 8 → (((M j || decide (j = p)) || decide (j = q)) = true ↔ (j : Int) ∈ teamsR (r.take (k + 1)))) := fun j hj => by
        rw [HTK.out, List.mem_append]
        have h1 := HM.out j hj
        simp only [Bool.or_eq_true, decide_eq_true_eq, List.mem_cons, List.not_mem_nil, or_false]
        rw [h1]
        constructor
        · rintro ((h | h) | h)
          · exact .inl h
          · exact .inr (.inl (by rw [h]))
          · exact .inr (.inr (by rw [h]))
        · rintro (h | h | h)
          · exact .inl (.inl h)
          · exact .inl (.inr (by omega))
          · exact .inr (by omega)
      have HSN : Hid (SeenN 8 ((U.setCell ⟨w.heap.size, p, none⟩ (.bool true)).setCell ⟨w.heap.size, q, none⟩ (.bool true)) w.heap.size (fun j => (M j || decide (j = p)) || decide (j = q))) := (HSU.out.set p p8).set q q8
      have HBN : Hid (Below w.heap.size w ((U.setCell ⟨w.heap.size, p, none⟩ (.bool true)).setCell ⟨w.heap.size, q, none⟩ (.bool true))) := (HBU.out.setCell (Nat.le_refl _) _).setCell (Nat.le_refl _) _
      clear HNo HY HTA HTK HV HM HMp HMq hp1 hq1 hp1' hq1' o5
      go_wp2_with fail
      refine CA.out.mono ?_
      rintro e wx ⟨rfl, rfl⟩
      clear hU CA
      have hne : w.heap.size ≠ wr.heap.size := HP.out
      go_wp2_with fail
      go_region
      all_goals (try go_wp2)
      all_goals go_roundw
      case rel => exact ⟨k + 1, _, by omega, by go_num, HVN, HSN.out.below (Below.refl _ _).drew, HMN, HBN.out.drew⟩
      case measure => simp [RowKit.intOf]; omega
    obtain rfl : k = n := by omega
    obtain rfl := HY.out (by have h9 := HV.out; rw [List.take_of_length_le (by have := HD.out; omega)] at h9; exact h9)
    go_wp2
    go_ret
    exact ⟨rfl, HB.out⟩
end Go.Proofs.YtcbpgbiannpfpaaDoor
set_option linter.unusedVariables false
namespace Go.Proofs.YtcbpgbiannpfpaaDoor
open Go.RowKit

theorem notRound_impl (N : Int) (v : Value) (r : PairL) (B : Nat) (R : Bool) (hR : R = true ↔ onceP N (teamsR r)) (hN : N ≤ 8) (w : World) (h : RdA tPairS w [v] r) (v1 : BoxN w B [.int .i64 N]) :
    Calls Tryd.prog 30 #[v, .pointer (some ⟨B, 0, none⟩)] w fun e w' => e = .returned (.bool (!R)) ∧ Below w.heap.size w w' := by
  have C := Lib.hid (isRound_impl N v r R hR hN w h)
  have c1 := v1.2 0 _ rfl
  clear h hR
  go_enter Tryd.func30, Tryd.ntmps30
  go_wp2_with fail
  refine C.out.mono ?_
  rintro e w1 ⟨rfl, b1⟩
  have HB := Lib.hid b1
  clear b1 C c1
  go_wp2
  go_ret
  exact ⟨rfl, HB.out⟩
set_option maxRecDepth 100000 in
set_option maxHeartbeats 4000000 in
theorem indexBad_impl (v : Value) (d : List PairL) (N : Int) (B : Nat) (hN : N ≤ 8) (w : World) (h : RdA tPairSS w [v] d) (v1 : BoxN w B [.int .i64 N]) :
    Calls Tryd.prog 60 #[v, .func (.func 30) #[] #[.pointer (some ⟨B, 0, none⟩)]] w fun e w' => ∃ z : Int, e = .returned (.int .i64 z) ∧ (0 ≤ z ↔ ¬ ∀ r ∈ d, onceP N (teamsR r)) ∧ Below w.heap.size w w' := by
  obtain ⟨a, c, rfl, hn⟩ := schedule_form h
  have HR := Lib.hid h
  have K1 := Lib.hid v1
  clear h v1
  obtain ⟨n, hd⟩ : ∃ n, List.length (α := PairL) d = n := ⟨_, rfl⟩
  have HD := Lib.hid hd
  rw [hd] at hn ⊢
  clear hd
  go_enter Tryd.func60, Tryd.ntmps60
  go_wp2
  go_loopw [8] (fun iv wr => ∃ k : Nat, k ≤ n ∧ iv = .int .i64 k ∧ Hid (∀ r ∈ d.take k, onceP N (teamsR r)) ∧ Hid (Below w.heap.size w wr)) (fun iv _ => n - (RowKit.intOf iv).toNat)
  case atStart => exact ⟨0, Nat.zero_le _, rfl, fun r hr => (by simp at hr), Below.refl _ _⟩
  case round =>
    obtain ⟨k, hk9, rfl, HV, HB⟩ := hrel
    by_cases hlt : k < n
    · obtain ⟨r, hr⟩ : ∃ r : PairL, d[k]? = some r := ⟨_, List.getElem?_eq_getElem (by rw [HD.out]; exact hlt)⟩
      have HRr := HR.out.below HB.out
      obtain ⟨b, off, x, xc, rfl, hcap, q0, hrr, hm63⟩ := round_cells HRr hr
      rw [HD.out] at hcap
      have hj1 : (k : Int) < (n : Int) := by omega
      obtain ⟨R, hR⟩ := boolEx (onceP N (teamsR r))
      have C := Lib.hid (notRound_impl N _ r B R hR hN _ hrr (K1.out.below HB.out))
      have HIN : Hid (r ∈ d) := List.mem_of_getElem? hr
      have HTK : Hid (d.take (k + 1) = d.take k ++ [r]) := by show _ = _; rw [List.take_add_one, hr]; rfl
      clear hr HRr hrr
      obtain ⟨m, hm⟩ : ∃ m, List.length (α := tPair.D) r = m := ⟨_, rfl⟩
      rw [hm] at q0 hm63 C
      clear hm
      cases R with
      | false =>
        have HVx : Hid ((0 : Int) ≤ k ↔ ¬ ∀ r ∈ d, onceP N (teamsR r)) := ⟨fun _ h => (by have := hR.2 (h r HIN.out); cases this), fun _ => Int.natCast_nonneg k⟩
        clear hR HTK HV
        go_wp2_with (go_at_call 30; refine C.out.mono ?_; rintro e w2 ⟨rfl, b2⟩; have HB2 := Lib.hid (HB.out.trans (b2.mono HB.out.size)); clear b2)
        go_ret
        exact ⟨_, rfl, HVx.out, HB2.out⟩
      | true =>
        have HVx : Hid (∀ r ∈ d.take (k + 1), onceP N (teamsR r)) := fun q hq => by
          rw [HTK.out] at hq
          rcases List.mem_append.1 hq with hq | hq
          · exact HV.out q hq
          · rw [List.mem_singleton.1 hq]; exact hR.1 rfl
        clear hR HTK HV
        go_wp2_with (go_at_call 30; refine C.out.mono ?_; rintro e w2 ⟨rfl, b2⟩; have HB2 := Lib.hid (HB.out.trans (b2.mono HB.out.size)); clear b2)
        go_roundw
        case rel => exact ⟨k + 1, by omega, by go_num, HVx, HB2⟩
        case measure => simp [RowKit.intOf]; omega
    obtain rfl : k = n := by omega
    have HVx : Hid ((0 : Int) ≤ -1 ↔ ¬ ∀ r ∈ d, onceP N (teamsR r)) := ⟨fun h => absurd h (by omega), fun h => absurd (fun r hr => HV.out r (by rw [List.take_of_length_le (by have := HD.out; omega)]; exact hr)) h⟩
    clear HV
    go_wp2
    go_ret
    exact ⟨_, rfl, HVx.out, HB.out⟩
theorem containsBad_impl (v : Value) (d : List PairL) (N : Int) (B : Nat) (hN : N ≤ 8) (R : Bool) (hR : R = true ↔ ∀ r ∈ d, onceP N (teamsR r)) (w : World) (h : RdA tPairSS w [v] d) (v1 : BoxN w B [.int .i64 N]) :
    Calls Tryd.prog 29 #[v, .func (.func 30) #[] #[.pointer (some ⟨B, 0, none⟩)]] w fun e w' => e = .returned (.bool (!R)) ∧ Below w.heap.size w w' := by
  have C := Lib.hid (indexBad_impl v d N B hN w h v1)
  have HR := Lib.hid hR
  clear hR h v1
  go_enter Tryd.func29, Tryd.ntmps29
  go_wp2_with fail
  refine C.out.mono ?_
  rintro e w1 ⟨z, rfl, hz, b1⟩
  have HB := Lib.hid b1
  have e : decide (0 ≤ z) = !R := by
    cases R with
    | true => exact decide_eq_false fun h => hz.1 h (HR.out.1 rfl)
    | false => exact decide_eq_true (hz.2 fun h => by have := HR.out.2 h; cases this)
  clear b1 C hz HR
  go_wp2
  go_ret
  exact ⟨by first | rfl | (rw [← e]; rfl) | (rw [e]; rfl), HB.out⟩
set_option maxRecDepth 100000 in
set_option maxHeartbeats 4000000 in
theorem isSchedule_impl (v : Value) (d : List PairL) (N : Int) (R : Bool) (w : World) (hR : R = true ↔ schedP N d) (h : RdA tPairSS w [v] d) (hw : tPairSS.wt d ≤ 1048576) :
    Calls Tryd.prog 8 #[.int .i64 N, v] w fun e w' => e = .returned (.bool R) ∧ Below w.heap.size w w' := by
  have b1 : Below w.heap.size w (w.alloc (.cells #[.int .i64 N] 3)) := (Below.refl _ _).alloc (Nat.le_refl _) _
  have HB := Lib.hid b1
  have BX : BoxN (w.alloc (.cells #[.int .i64 N] 3)) w.heap.size [.int .i64 N] := BoxN.made (Below.refl _ _) rfl
  have h1 := h.below b1
  obtain ⟨a, c, rfl, hn⟩ := schedule_form h
  have HN := Lib.hid (boolF hR)
  have HY := Lib.hid (boolT hR)
  obtain ⟨r1, hr1⟩ := boolEx (∀ r ∈ d, onceP N (teamsR r))
  have C := Lib.hid (fun hN => containsBad_impl _ d N w.heap.size hN r1 hr1 _ h1 BX)
  clear h h1 BX b1 hR hw
  obtain ⟨n, hd⟩ : ∃ n, List.length (α := PairL) d = n := ⟨_, rfl⟩
  have HD := Lib.hid hd
  rw [hd] at hn C ⊢
  clear hd
  by_cases h2 : 2 ≤ N
  case neg =>
    have g1 : decide (2 ≤ N) = false := decide_eq_false h2
    obtain rfl := HN.out (fun e => h2 e.1.1)
    clear HN HY C hr1
    go_enter Tryd.func8, Tryd.ntmps8
    go_wp2
    go_ret
    exact ⟨rfl, HB.out⟩
  have g1 : decide (2 ≤ N) = true := decide_eq_true h2
  by_cases h8 : N ≤ 8
  case neg =>
    have g2 : decide (N ≤ 8) = false := decide_eq_false h8
    obtain rfl := HN.out (fun e => h8 e.1.2)
    clear HN HY C hr1
    go_enter Tryd.func8, Tryd.ntmps8
    go_wp2
    go_ret
    exact ⟨rfl, HB.out⟩
  have g2 : decide (N ≤ 8) = true := decide_eq_true h8
  by_cases hl : n ≤ 14
  case neg =>
    have g3 : decide ((n : Int) ≤ 14) = false := decide_eq_false (by omega)
    have g3' : decide (n ≤ 14) = false := decide_eq_false (by omega)
    obtain rfl := HN.out (fun e => hl (by have := e.2.1; rw [HD.out] at this; exact this))
    clear HN HY C hr1
    go_enter Tryd.func8, Tryd.ntmps8
    go_wp2
    go_ret
    exact ⟨rfl, HB.out⟩
  have g3 : decide ((n : Int) ≤ 14) = true := decide_eq_true (by omega)
  have g3' : decide (n ≤ 14) = true := decide_eq_true (by omega)
  have e : R = r1 := by
    cases r1 with
    | true => exact HY.out ⟨⟨h2, h8⟩, by rw [HD.out]; exact hl, hr1.1 rfl⟩
    | false => exact HN.out fun h => by have := hr1.2 h.2.2; cases this
  subst e
  have C2 := Lib.hid (C.out h8)
  have hmf : ∀ (fn : Fn) (first cap : Array Value) (w : World), (Instr.makeFunc fn first cap).run Tryd.prog w = .ok (.func fn first cap) w := fun _ _ _ _ => rfl
  clear HN HY C hr1
  go_enter Tryd.func8, Tryd.ntmps8
  go_wp2_with fail
  refine C2.out.mono ?_
  rintro e w1 ⟨rfl, b1⟩
  have HB2 := Lib.hid (HB.out.trans (b1.mono HB.out.size))
  clear b1 C2 HB hmf
  cases R with
  | true =>
    go_wp2
    go_ret
    exact ⟨rfl, HB2.out⟩
  | false =>
    go_wp2
    go_ret
    exact ⟨rfl, HB2.out⟩
end Go.Proofs.YtcbpgbiannpfpaaDoor
