/-
  Packed: TripImplA, TripImplB.
-/
import Derived.Test.YtfkfolglfmmkoaaQ7
set_option linter.unusedVariables false
namespace Go.Proofs.Ytfkfolglfmmkoaa
open Go.RowKit

def noDist (x : Int) : Bool := !(decide (0 ≤ x ∧ x ≤ 5000))
def cellsIn (K : List Int) : Prop := ∀ i, i < K.length → 0 ≤ getI K i ∧ getI K i ≤ 5000
def shortP (n : Nat) (K : List Int) (a b : Nat) : Prop := ∃ k, k < n ∧ getI K (a * n + k) + getI K (k * n + b) < getI K (a * n + b)
def placeP (n : Nat) (K : List Int) (a b : Nat) : Prop := getI K (a * n + b) = getI K (b * n + a) ∧ ¬ shortP n K a b
def rowP (n : Nat) (K : List Int) (a : Nat) : Prop := getI K (a * n + a) = 0 ∧ ∀ b, b < n → placeP n K a b
def placesP (n : Nat) (K : List Int) : Prop := ∀ a, a < n → rowP n K a
theorem places_cells {n : Nat} {K : List Int} (hn : 0 < n) (hl : K.length = n * n) (hc : cellsIn K) : placesP n K ↔ ∀ i, i < K.length → kmCell n K i := by
  constructor
  · intro h i hi
    have han : i / n < n := (Nat.div_lt_iff_lt_mul hn).2 (by rw [← hl]; exact hi)
    have hbn : i % n < n := Nat.mod_lt _ hn
    have ei : i / n * n + i % n = i := by rw [Nat.mul_comm]; exact Nat.div_add_mod i n
    have h1 := h _ han
    have h2 := h1.2 _ hbn
    unfold placeP at h2
    rw [ei] at h2
    refine ⟨hc i hi, fun e => ?_, h2.1, fun k hk => ?_⟩
    · have h3 := h1.1
      have e2 : i / n * n + i / n = i := by
        have : i / n * n + i % n = i := ei
        rw [← e] at this
        exact this
      rw [e2] at h3
      exact h3
    · have r1 := hc (i / n * n + k) (by rw [hl]; exact at_lt han hk)
      have r2 := hc (k * n + i % n) (by rw [hl]; exact at_lt hk hbn)
      rw [show wrap64 (getI K (i / n * n + k) + getI K (k * n + i % n)) = getI K (i / n * n + k) + getI K (k * n + i % n) from IntWalk.wrap64_in _ (by omega)]
      apply Classical.byContradiction
      intro h9
      refine h2.2 ⟨k, hk, ?_⟩
      rw [ei]
      omega
  · intro h a ha
    have key : ∀ b, b < n → kmCell n K (a * n + b) := fun b hb => h _ (by rw [hl]; exact at_lt ha hb)
    refine ⟨(key a ha).2.1 (by rw [(div_at ha).1, (div_at ha).2]), fun b hb => ?_⟩
    have h1 := key b hb
    have h2 := h1.2.2.1
    rw [(div_at hb).1, (div_at hb).2] at h2
    refine ⟨h2, fun ⟨k, hk, h3⟩ => ?_⟩
    have h4 := h1.2.2.2 k hk
    rw [(div_at hb).1, (div_at hb).2] at h4
    have r1 := hc (a * n + k) (by rw [hl]; exact at_lt ha hk)
    have r2 := hc (k * n + b) (by rw [hl]; exact at_lt hk hb)
    rw [show wrap64 (getI K (a * n + k) + getI K (k * n + b)) = getI K (a * n + k) + getI K (k * n + b) from IntWalk.wrap64_in _ (by omega)] at h4
    omega
theorem any_noDist {K : List Int} : K.any noDist = false ↔ cellsIn K := by
  rw [List.any_eq_false]
  constructor
  · intro h i hi
    have h1 := h (getI K i) (by unfold getI; rw [List.getD_eq_getElem?_getD, List.getElem?_eq_getElem hi]; exact List.getElem_mem hi)
    unfold noDist at h1
    simpa using h1
  · intro h x hx
    obtain ⟨i, hi, rfl⟩ := List.mem_iff_getElem.1 hx
    have h1 := h i hi
    unfold getI at h1
    rw [List.getD_eq_getElem?_getD, List.getElem?_eq_getElem hi] at h1
    unfold noDist
    simpa using h1
theorem map_parts {s : Int} {K : List Int} : mapP s K ↔ (2 ≤ s ∧ s ≤ 8) ∧ (K.length : Int) = s * s ∧ K.any noDist = false ∧ placesP s.toNat K := by
  have any_iff := any_noDist (K := K)
  constructor
  · rintro ⟨h1, h2, h3⟩
    have hc : cellsIn K := fun i hi => (h3 i hi).1
    have hl : K.length = s.toNat * s.toNat := by
      obtain ⟨n, rfl⟩ : ∃ n : Nat, s = n := ⟨s.toNat, by omega⟩
      rw [Int.toNat_natCast]
      exact_mod_cast h2
    exact ⟨h1, h2, any_iff.2 hc, (places_cells (by omega) hl hc).2 h3⟩
  · rintro ⟨h1, h2, h3, h4⟩
    have hl : K.length = s.toNat * s.toNat := by
      obtain ⟨n, rfl⟩ : ∃ n : Nat, s = n := ⟨s.toNat, by omega⟩
      rw [Int.toNat_natCast]
      exact_mod_cast h2
    exact ⟨h1, h2, (places_cells (by omega) hl (any_iff.1 h3)).1 h4⟩
theorem isNoDistance_impl (x : Int) (w : World) : Calls Try.prog 60 #[.int .i64 x] w fun e w' => e = .returned (.bool (noDist x)) ∧ w = w' := by
  by_cases h1 : 0 ≤ x
  · have g1 : decide (x < 0) = false := decide_eq_false (by omega)
    by_cases h2 : x ≤ 5000
    · have g2 : decide ((5000 : Int) < x) = false := decide_eq_false (by omega)
      have e : noDist x = false := by unfold noDist; simp; omega
      rw [e]
      clear h1 h2 e
      go_enter Try.func60, Try.ntmps60
      go_wp2
      go_ret
      exact ⟨rfl, rfl⟩
    · have g2 : decide ((5000 : Int) < x) = true := decide_eq_true (by omega)
      have e : noDist x = true := by unfold noDist; simp; omega
      rw [e]
      clear h1 h2 e
      go_enter Try.func60, Try.ntmps60
      go_wp2
      go_ret
      exact ⟨rfl, rfl⟩
  · have g1 : decide (x < 0) = true := decide_eq_true (by omega)
    have e : noDist x = true := by unfold noDist; simp; omega
    rw [e]
    clear h1 e
    go_enter Try.func60, Try.ntmps60
    go_wp2
    go_ret
    exact ⟨rfl, rfl⟩
set_option maxRecDepth 100000 in
set_option maxHeartbeats 2000000 in
theorem idx_noDist (v : Value) (L : List Int) (w : World) (h : IntRow w v L.length (getI L)) :
    Calls Try.prog 104 #[v, .func (.func 60) #[] #[]] w fun e w' => (∃ z : Int, e = .returned (.int .i64 z) ∧ decide (0 ≤ z) = L.any noDist) ∧ w = w' := by
  obtain ⟨a, c, rfl, hn, _⟩ := h.form
  have HR := Lib.hid h
  have HP := Lib.hid (fun x wa => isNoDistance_impl x wa)
  clear h
  obtain ⟨n, hd⟩ : ∃ n, L.length = n := ⟨_, rfl⟩
  have HD := Lib.hid hd
  rw [hd] at hn HR ⊢
  clear hd
  have HNo : Hid ((∀ x ∈ L.take n, noDist x = false) → L.any noDist = false) := fun h => by rw [List.any_eq_false]; intro x hx; rw [h x (by rw [List.take_of_length_le (by have := HD.out; omega)]; exact hx)]; simp
  go_enter Try.func104, Try.ntmps104
  go_wp2
  go_loopw [8] (fun iv wr => ∃ k : Nat, k ≤ n ∧ iv = .int .i64 k ∧ Hid (∀ x ∈ L.take k, noDist x = false) ∧ wr = w) (fun iv _ => n - (RowKit.intOf iv).toNat)
  case atStart => exact ⟨0, Nat.zero_le _, rfl, fun x hx => (by simp at hx), rfl⟩
  case round =>
    obtain ⟨k, hk9, rfl, HV, rfl⟩ := hrel
    by_cases hlt : k < n
    · have hx : L[k]? = some (getI L k) := by unfold getI; rw [List.getD_eq_getElem?_getD, List.getElem?_eq_getElem (by rw [HD.out]; exact hlt)]; rfl
      obtain ⟨b, off, rfl, hcap, q0⟩ := int_at HR.out hlt
      have hj1 : (k : Int) < (n : Int) := by omega
      have HTK : Hid (noDist (getI L k) = false → ∀ y ∈ L.take (k + 1), noDist y = false) := fun h y hy => by
        rw [List.take_add_one, hx] at hy
        rcases List.mem_append.1 hy with hy | hy
        · exact HV.out y hy
        · rw [List.mem_singleton.1 hy]; exact h
      have HY : Hid (noDist (getI L k) = true → true = L.any noDist) := fun h => (List.any_eq_true.2 ⟨_, List.mem_of_getElem? hx, h⟩).symm
      have CP := Lib.hid (HP.out (getI L k))
      clear hx HV
      generalize noDist (getI L k) = r at *
      generalize getI L k = t at *
      go_wp2_with fail
      refine (CP.out _).mono ?_
      rintro e w1 ⟨rfl, rfl⟩
      clear CP
      cases r with
      | true =>
        have HYY := Lib.hid (HY.out rfl)
        clear HTK HY
        go_wp2
        go_ret
        exact ⟨⟨_, rfl, (decide_eq_true (by omega)).trans HYY.out⟩, rfl⟩
      | false =>
        have HVN := Lib.hid (HTK.out rfl)
        clear HTK HY
        go_wp2
        go_roundw
        case rel => exact ⟨k + 1, by omega, by go_num, HVN, trivial⟩
        case measure => simp [RowKit.intOf]; omega
    obtain rfl : k = n := by omega
    have HE := Lib.hid (HNo.out HV.out)
    clear HV
    go_wp2
    go_ret
    exact ⟨⟨_, rfl, by rw [HE.out]; decide⟩, rfl⟩
theorem cont_noDist (v : Value) (L : List Int) (w : World) (h : IntRow w v L.length (getI L)) :
    Calls Try.prog 59 #[v, .func (.func 60) #[] #[]] w fun e w' => e = .returned (.bool (L.any noDist)) ∧ w = w' := by
  have C := Lib.hid (idx_noDist v L w h)
  clear h
  generalize L.any noDist = R at *
  go_enter Try.func59, Try.ntmps59
  go_wp2_with fail
  refine C.out.mono ?_
  rintro e w1 ⟨⟨z, rfl, hz⟩, rfl⟩
  have HZ := Lib.hid hz
  clear hz C
  go_wp2
  go_ret
  exact ⟨by rw [HZ.out]; rfl, rfl⟩
set_option maxRecDepth 100000 in
set_option maxHeartbeats 2000000 in
theorem way_impl (n : Nat) (vk : Value) (K : List Int) (a b : Nat) (w : World) (hl : K.length = n * n) (h8 : n ≤ 8) (ha : a < n) (hb : b < n) (h : IntRow w vk K.length (getI K)) :
    Calls Try.prog 56 #[.agg #[.int .i64 n, vk], .int .i64 a, .int .i64 b] w fun e w' => e = .returned (.int .i64 (getI K (a * n + b))) ∧ Below w.heap.size w w' := by
  obtain ⟨ka, kc, rfl, hkn, _⟩ := h.form
  obtain ⟨nk, hnk⟩ : ∃ nk, K.length = nk := ⟨_, rfl⟩
  obtain ⟨U, hU⟩ : ∃ U, w.alloc (.cells #[.int .i64 n, .slice ka K.length kc] 26) = U := ⟨_, rfl⟩
  have HS : Hid (MapAt U w.heap.size n ka K.length kc K) := by rw [← hU]; exact MapAt.made h
  have HB : Hid (Below w.heap.size w U) := by rw [← hU]; exact (Below.refl _ _).alloc (Nat.le_refl _) _
  obtain ⟨z, hz⟩ : ∃ z : Nat, a * n = z := ⟨_, rfl⟩
  have e1 : (a : Int) * (n : Int) = (z : Int) := by rw [← hz]; exact (Int.natCast_mul a n).symm
  have hlt : z + b < nk := by rw [← hz, ← hnk, hl]; exact at_lt ha hb
  have hz64 : z ≤ 64 := by rw [← hz]; exact Nat.le_trans (Nat.mul_le_mul (show a ≤ 8 by omega) (show n ≤ 8 by omega)) (by decide)
  rw [hnk] at hkn hU HS ⊢
  rw [hz]
  clear h hnk hl hz
  have t1 : ((z : Int) + (b : Int)).toNat = z + b := by omega
  have t2 : (z : Int) + (b : Int) < (nk : Int) := by omega
  obtain ⟨c0, c1⟩ := HS.out.cells
  obtain ⟨bo, oo, rfl, hcap, q0⟩ := int_at HS.out.2 hlt
  generalize getI K (z + b) = x at *
  go_enter Try.func56, Try.ntmps56
  go_wp2_with fail
  clear hU
  go_wp2
  go_ret
  exact ⟨rfl, HB.out⟩
theorem hasTeam_impl (s : Int) (vk : Value) (x : Int) (R : Bool) (w : World) (hR : R = true ↔ 0 ≤ x ∧ x ≤ s - 1) (hv : ∃ a n c, vk = .slice a n c) :
    Calls Try.prog 64 #[.agg #[.int .i64 s, vk], .int .i64 x] w fun e w' => e = .returned (.bool R) ∧ Below w.heap.size w w' := by
  obtain ⟨ka, nk, kc, rfl⟩ := hv
  have HB : Hid (∀ t, Below w.heap.size w (w.alloc (.cells #[.int .i64 s, .slice ka nk kc] t))) := fun t => (Below.refl _ _).alloc (Nat.le_refl _) _
  by_cases h1 : 0 ≤ x
  · have g1 : decide (0 ≤ x) = true := decide_eq_true h1
    by_cases h2 : x < s
    · have g2 : decide (x < s) = true := decide_eq_true h2
      obtain rfl : R = true := hR.2 ⟨h1, by omega⟩
      clear hR h1 h2
      go_enter Try.func64, Try.ntmps64
      go_wp2
      go_ret
      exact ⟨rfl, HB.out _⟩
    · have g2 : decide (x < s) = false := decide_eq_false h2
      obtain rfl : R = false := boolF hR (by omega)
      clear hR h1 h2
      go_enter Try.func64, Try.ntmps64
      go_wp2
      go_ret
      exact ⟨rfl, HB.out _⟩
  · have g1 : decide (0 ≤ x) = false := decide_eq_false h1
    obtain rfl : R = false := boolF hR (by omega)
    clear hR h1
    go_enter Try.func64, Try.ntmps64
    go_wp2
    go_ret
    exact ⟨rfl, HB.out _⟩
set_option maxRecDepth 100000 in
set_option maxHeartbeats 4000000 in
theorem hasShortcut_impl (n : Nat) (vk : Value) (K : List Int) (a b : Nat) (R : Bool) (w : World) (hR : R = true ↔ shortP n K a b) (hl : K.length = n * n) (hc : cellsIn K) (h8 : n ≤ 8) (ha : a < n) (hb : b < n) (h : IntRow w vk K.length (getI K)) :
    Calls Try.prog 105 #[.agg #[.int .i64 n, vk], .int .i64 a, .int .i64 b] w fun e w' => e = .returned (.bool R) ∧ Below w.heap.size w w' := by
  obtain ⟨ka, kc, rfl, hkn, _⟩ := h.form
  obtain ⟨nk, hnk⟩ : ∃ nk, K.length = nk := ⟨_, rfl⟩
  obtain ⟨U, hU⟩ : ∃ U, w.alloc (.cells #[.int .i64 n, .slice ka K.length kc] 26) = U := ⟨_, rfl⟩
  have HS : Hid (MapAt U w.heap.size n ka K.length kc K) := by rw [← hU]; exact MapAt.made h
  have HB : Hid (Below w.heap.size w U) := by rw [← hU]; exact (Below.refl _ _).alloc (Nat.le_refl _) _
  have CW : Hid (∀ (x y : Nat) wa, x < n → y < n → IntRow wa (.slice ka K.length kc) K.length (getI K) → Calls Try.prog 56 #[.agg #[.int .i64 n, .slice ka K.length kc], .int .i64 x, .int .i64 y] wa fun e w' => e = .returned (.int .i64 (getI K (x * n + y))) ∧ Below wa.heap.size wa w') := fun x y wa hx hy hw => way_impl n _ K x y wa hl h8 hx hy hw
  have HC : Hid (∀ x y, x < n → y < n → 0 ≤ getI K (x * n + y) ∧ getI K (x * n + y) ≤ 5000) := fun x y hx hy => hc _ (by rw [hl]; exact at_lt hx hy)
  have HN := Lib.hid (boolF hR)
  have HY := Lib.hid (boolT hR)
  rw [hnk] at hkn hU HS CW ⊢
  clear h hnk hR hl hc
  obtain ⟨c0, c1⟩ := HS.out.cells
  go_enter Try.func105, Try.ntmps105
  go_wp2
  clear hU c0 c1
  go_loopw [10] (fun iv wr => ∃ k : Nat, k ≤ n ∧ iv = .int .i64 k ∧ Hid (∀ j, j < k → getI K (a * n + b) ≤ getI K (a * n + j) + getI K (j * n + b)) ∧ Hid (MapAt wr w.heap.size n ka nk kc K) ∧ Hid (Below w.heap.size w wr)) (fun iv _ => n - (RowKit.intOf iv).toNat)
  case atStart => exact ⟨0, Nat.zero_le _, rfl, fun j hj => absurd hj (Nat.not_lt_zero _), HS, HB⟩
  case round =>
    clear HS HB
    obtain ⟨k, hk9, rfl, HV, HS, HB⟩ := hrel
    by_cases hlt : k < n
    · have hj1 : (k : Int) < (n : Int) := by omega
      have C1 := Lib.hid (fun wa => CW.out a k wa ha hlt)
      have C2 := Lib.hid (fun wa => CW.out k b wa hlt hb)
      have C3 := Lib.hid (fun wa => CW.out a b wa ha hb)
      have r1 := HC.out a k ha hlt
      have r2 := HC.out k b hlt hb
      have HYK : Hid (getI K (a * n + k) + getI K (k * n + b) < getI K (a * n + b) → R = true) := fun h => HY.out ⟨k, hlt, h⟩
      have HVN : Hid (¬ getI K (a * n + k) + getI K (k * n + b) < getI K (a * n + b) → ∀ j, j < k + 1 → getI K (a * n + b) ≤ getI K (a * n + j) + getI K (j * n + b)) := fun h j hj => by
        by_cases e : j = k
        · subst e; omega
        · exact HV.out j (by omega)
      clear HV
      obtain ⟨x1, hx1⟩ : ∃ x, getI K (a * n + k) = x := ⟨_, rfl⟩
      obtain ⟨x2, hx2⟩ : ∃ x, getI K (k * n + b) = x := ⟨_, rfl⟩
      rw [hx1] at C1 r1 HYK HVN
      rw [hx2] at C2 r2 HYK HVN
      obtain ⟨x3, hx3⟩ : ∃ x, getI K (a * n + b) = x := ⟨_, rfl⟩
      have HX3 := Lib.hid hx3
      rw [hx3] at C3 HYK
      have HVN2 : Hid (¬ x1 + x2 < x3 → ∀ j, j < k + 1 → getI K (a * n + b) ≤ getI K (a * n + j) + getI K (j * n + b)) := fun h => HVN.out (by rw [HX3.out]; exact h)
      clear hx1 hx2 hx3 HX3 HVN
      have s1 : IntKind.i64.wrap (x1 + x2) = x1 + x2 := IntWalk.i64_in _ (by omega)
      by_cases hsh : x1 + x2 < x3
      · have g1 : decide (x1 + x2 < x3) = true := decide_eq_true hsh
        obtain rfl := HYK.out hsh
        clear HYK HVN2 hsh HY HN
        go_wp2_with fail
        obtain ⟨S, HSd⟩ : ∃ S : World → Prop, S = fun w' => (MapAt w' w.heap.size n ka nk kc K ∧ Below w.heap.size w w') := ⟨_, rfl⟩
        have KS : Hid (∀ wa wb, S wa → Below wa.heap.size wa wb → S wb) := by subst HSd; exact fun wa wb h b => ⟨h.1.below b, h.2.trans (b.mono h.2.size)⟩
        have OS : Hid (∀ wa, S wa → (MapAt wa w.heap.size n ka nk kc K ∧ Below w.heap.size w wa)) := by subst HSd; exact fun wa h => h
        have IS : Hid (∀ wa, (MapAt wa w.heap.size n ka nk kc K ∧ Below w.heap.size w wa) → S wa) := by subst HSd; exact fun wa h => h
        clear HSd
        go_wp2_with fail
        refine wp_region_held_drew (S := S) (by kernel_rfl) ?_ (fun hHeld => ?_)
        · exact IS.out _ ((fun (b : Below wr.heap.size wr wr.drew) => ⟨HS.out.below b, HB.out.trans (b.mono HB.out.size)⟩) (Below.refl _ _).drew)
        refine wpAnyH_take (i := 0) (v := ?_) rfl (by kernel_rfl) (by kernel_rfl) (by kernel_rfl) (fun _ _ _ h => h) (Or.inl ⟨by rfl, ?_⟩) hHeld ?_
        rotate_left
        · (intro wa hSw; have K := OS.out _ hSw; obtain ⟨cb0, cb1⟩ := K.1.cells; go_simp; try with_reducible rfl)
        simp only [Act.put, List.getElem_toArray, List.getElem_cons_zero, List.setIfInBounds_toArray, List.set_cons_zero, List.set_cons_succ]
        refine wpAnyH_take (i := 1) (v := ?_) rfl (by kernel_rfl) (by kernel_rfl) (by kernel_rfl) (fun _ _ _ h => h) (Or.inl ⟨by rfl, ?_⟩) hHeld ?_
        rotate_left
        · (intro wa hSw; go_simp; try with_reducible rfl)
        simp only [Act.put, List.getElem_toArray, List.getElem_cons_zero, List.getElem_cons_succ, List.setIfInBounds_toArray, List.set_cons_zero, List.set_cons_succ]
        refine wpAnyH_take (i := 2) (v := ?_) rfl (by kernel_rfl) (by kernel_rfl) (by kernel_rfl) (fun _ _ _ h => h) (Or.inl ⟨by rfl, ?_⟩) hHeld ?_
        rotate_left
        · (intro wa hSw; go_simp; try with_reducible rfl)
        simp only [Act.put, List.getElem_toArray, List.getElem_cons_zero, List.getElem_cons_succ, List.setIfInBounds_toArray, List.set_cons_zero, List.set_cons_succ]
        refine wpAnyH_take (i := 4) (v := ?_) rfl (by kernel_rfl) (by kernel_rfl) (by kernel_rfl) (fun _ _ _ h => h) (Or.inl ⟨by rfl, ?_⟩) hHeld ?_
        rotate_left
        · (intro wa hSw; have K := OS.out _ hSw; obtain ⟨cb0, cb1⟩ := K.1.cells; go_simp; try with_reducible rfl)
        simp only [Act.put, List.getElem_toArray, List.getElem_cons_zero, List.getElem_cons_succ, List.setIfInBounds_toArray, List.set_cons_zero, List.set_cons_succ]
        refine wpAnyH_take (i := 5) (v := ?_) rfl (by kernel_rfl) (by kernel_rfl) (by kernel_rfl) (fun _ _ _ h => h) (Or.inl ⟨by rfl, ?_⟩) hHeld ?_
        rotate_left
        · (intro wa hSw; go_simp; try with_reducible rfl)
        simp only [Act.put, List.getElem_toArray, List.getElem_cons_zero, List.getElem_cons_succ, List.setIfInBounds_toArray, List.set_cons_zero, List.set_cons_succ]
        refine wpAnyH_take (i := 6) (v := ?_) rfl (by kernel_rfl) (by kernel_rfl) (by kernel_rfl) (fun _ _ _ h => h) (Or.inl ⟨by rfl, ?_⟩) hHeld ?_
        rotate_left
        · (intro wa hSw; go_simp; try with_reducible rfl)
        simp only [Act.put, List.getElem_toArray, List.getElem_cons_zero, List.getElem_cons_succ, List.setIfInBounds_toArray, List.set_cons_zero, List.set_cons_succ]
        refine wpAnyH_take (i := 9) (v := ?_) rfl (by kernel_rfl) (by kernel_rfl) (by kernel_rfl) (fun _ _ _ h => h) (Or.inl ⟨by rfl, ?_⟩) hHeld ?_
        rotate_left
        · (intro wa hSw; have K := OS.out _ hSw; obtain ⟨cb0, cb1⟩ := K.1.cells; go_simp; try with_reducible rfl)
        simp only [Act.put, List.getElem_toArray, List.getElem_cons_zero, List.getElem_cons_succ, List.setIfInBounds_toArray, List.set_cons_zero, List.set_cons_succ]
        refine wpAnyH_take (i := 10) (v := ?_) rfl (by kernel_rfl) (by kernel_rfl) (by kernel_rfl) (fun _ _ _ h => h) (Or.inl ⟨by rfl, ?_⟩) hHeld ?_
        rotate_left
        · (intro wa hSw; go_simp; try with_reducible rfl)
        simp only [Act.put, List.getElem_toArray, List.getElem_cons_zero, List.getElem_cons_succ, List.setIfInBounds_toArray, List.set_cons_zero, List.set_cons_succ]
        refine wpAnyH_take (i := 11) (v := ?_) rfl (by kernel_rfl) (by kernel_rfl) (by kernel_rfl) (fun _ _ _ h => h) (Or.inl ⟨by rfl, ?_⟩) hHeld ?_
        rotate_left
        · (intro wa hSw; go_simp; try with_reducible rfl)
        simp only [Act.put, List.getElem_toArray, List.getElem_cons_zero, List.getElem_cons_succ, List.setIfInBounds_toArray, List.set_cons_zero, List.set_cons_succ]
        refine wpAnyH_ready (rs := [3]) (by kernel_rfl) (by simp) ?_
        refine AllReadyH.cons (o := _) rfl (fun K hK => ?_) AllReadyH.nil
        go_simp
        have KK := OS.out _ hHeld
        refine (C1.out _ KK.1.2).mono ?_
        rintro e w101 ⟨rfl, b101⟩
        clear KK
        (try go_wp2_with fail)
        refine hK.out _ _ ?_ (fun hHeld101 => ?_)
        · exact KS.out _ _ hHeld b101
        clear hK K
        refine wpAnyH_ready (rs := [7]) (by kernel_rfl) (by simp) ?_
        refine AllReadyH.cons (o := _) rfl (fun K hK => ?_) AllReadyH.nil
        go_simp
        have KK := OS.out _ hHeld101
        refine (C2.out _ KK.1.2).mono ?_
        rintro e w102 ⟨rfl, b102⟩
        clear KK
        (try go_wp2_with fail)
        refine hK.out _ _ ?_ (fun hHeld102 => ?_)
        · exact KS.out _ _ hHeld101 b102
        clear hK K
        clear hHeld101
        refine wpAnyH_take (i := 8) (v := ?_) rfl (by kernel_rfl) (by kernel_rfl) (by kernel_rfl) (fun _ _ _ h => h) (Or.inl ⟨by rfl, ?_⟩) hHeld102 ?_
        rotate_left
        · (intro wa hSw; go_simp; try with_reducible rfl)
        simp only [Act.put, List.getElem_toArray, List.getElem_cons_zero, List.getElem_cons_succ, List.setIfInBounds_toArray, List.set_cons_zero, List.set_cons_succ]
        refine wpAnyH_ready (rs := [12]) (by kernel_rfl) (by simp) ?_
        refine AllReadyH.cons (o := _) rfl (fun K hK => ?_) AllReadyH.nil
        go_simp
        have KK := OS.out _ hHeld102
        refine (C3.out _ KK.1.2).mono ?_
        rintro e w103 ⟨rfl, b103⟩
        clear KK
        (try go_wp2_with fail)
        refine hK.out _ _ ?_ (fun hHeld103 => ?_)
        · exact KS.out _ _ hHeld102 b103
        clear hK K
        clear hHeld102
        refine wpAnyH_take (i := 13) (v := ?_) rfl (by kernel_rfl) (by kernel_rfl) (by kernel_rfl) (fun _ _ _ h => h) (Or.inl ⟨by rfl, ?_⟩) hHeld103 ?_
        rotate_left
        · (intro wa hSw; go_simp; try with_reducible rfl)
        simp only [Act.put, List.getElem_toArray, List.getElem_cons_zero, List.getElem_cons_succ, List.setIfInBounds_toArray, List.set_cons_zero, List.set_cons_succ]
        refine wpAnyH_done (by kernel_rfl) ?_ _
        have KE := Lib.hid (OS.out _ hHeld103)
        clear KS OS IS hHeld hHeld103
        clear HS HB
        have HB2 := Lib.hid KE.out.2
        go_wp2
        go_ret
        exact ⟨rfl, HB2.out⟩
      · have g1 : decide (x1 + x2 < x3) = false := decide_eq_false hsh
        have HVX := Lib.hid (HVN2.out hsh)
        clear HYK HVN2 hsh HY
        go_wp2_with fail
        obtain ⟨S, HSd⟩ : ∃ S : World → Prop, S = fun w' => (MapAt w' w.heap.size n ka nk kc K ∧ Below w.heap.size w w') := ⟨_, rfl⟩
        have KS : Hid (∀ wa wb, S wa → Below wa.heap.size wa wb → S wb) := by subst HSd; exact fun wa wb h b => ⟨h.1.below b, h.2.trans (b.mono h.2.size)⟩
        have OS : Hid (∀ wa, S wa → (MapAt wa w.heap.size n ka nk kc K ∧ Below w.heap.size w wa)) := by subst HSd; exact fun wa h => h
        have IS : Hid (∀ wa, (MapAt wa w.heap.size n ka nk kc K ∧ Below w.heap.size w wa) → S wa) := by subst HSd; exact fun wa h => h
        clear HSd
        go_wp2_with fail
        refine wp_region_held_drew (S := S) (by kernel_rfl) ?_ (fun hHeld => ?_)
        · exact IS.out _ ((fun (b : Below wr.heap.size wr wr.drew) => ⟨HS.out.below b, HB.out.trans (b.mono HB.out.size)⟩) (Below.refl _ _).drew)
        refine wpAnyH_take (i := 0) (v := ?_) rfl (by kernel_rfl) (by kernel_rfl) (by kernel_rfl) (fun _ _ _ h => h) (Or.inl ⟨by rfl, ?_⟩) hHeld ?_
        rotate_left
        · (intro wa hSw; have K := OS.out _ hSw; obtain ⟨cb0, cb1⟩ := K.1.cells; go_simp; try with_reducible rfl)
        simp only [Act.put, List.getElem_toArray, List.getElem_cons_zero, List.setIfInBounds_toArray, List.set_cons_zero, List.set_cons_succ]
        refine wpAnyH_take (i := 1) (v := ?_) rfl (by kernel_rfl) (by kernel_rfl) (by kernel_rfl) (fun _ _ _ h => h) (Or.inl ⟨by rfl, ?_⟩) hHeld ?_
        rotate_left
        · (intro wa hSw; go_simp; try with_reducible rfl)
        simp only [Act.put, List.getElem_toArray, List.getElem_cons_zero, List.getElem_cons_succ, List.setIfInBounds_toArray, List.set_cons_zero, List.set_cons_succ]
        refine wpAnyH_take (i := 2) (v := ?_) rfl (by kernel_rfl) (by kernel_rfl) (by kernel_rfl) (fun _ _ _ h => h) (Or.inl ⟨by rfl, ?_⟩) hHeld ?_
        rotate_left
        · (intro wa hSw; go_simp; try with_reducible rfl)
        simp only [Act.put, List.getElem_toArray, List.getElem_cons_zero, List.getElem_cons_succ, List.setIfInBounds_toArray, List.set_cons_zero, List.set_cons_succ]
        refine wpAnyH_take (i := 4) (v := ?_) rfl (by kernel_rfl) (by kernel_rfl) (by kernel_rfl) (fun _ _ _ h => h) (Or.inl ⟨by rfl, ?_⟩) hHeld ?_
        rotate_left
        · (intro wa hSw; have K := OS.out _ hSw; obtain ⟨cb0, cb1⟩ := K.1.cells; go_simp; try with_reducible rfl)
        simp only [Act.put, List.getElem_toArray, List.getElem_cons_zero, List.getElem_cons_succ, List.setIfInBounds_toArray, List.set_cons_zero, List.set_cons_succ]
        refine wpAnyH_take (i := 5) (v := ?_) rfl (by kernel_rfl) (by kernel_rfl) (by kernel_rfl) (fun _ _ _ h => h) (Or.inl ⟨by rfl, ?_⟩) hHeld ?_
        rotate_left
        · (intro wa hSw; go_simp; try with_reducible rfl)
        simp only [Act.put, List.getElem_toArray, List.getElem_cons_zero, List.getElem_cons_succ, List.setIfInBounds_toArray, List.set_cons_zero, List.set_cons_succ]
        refine wpAnyH_take (i := 6) (v := ?_) rfl (by kernel_rfl) (by kernel_rfl) (by kernel_rfl) (fun _ _ _ h => h) (Or.inl ⟨by rfl, ?_⟩) hHeld ?_
        rotate_left
        · (intro wa hSw; go_simp; try with_reducible rfl)
        simp only [Act.put, List.getElem_toArray, List.getElem_cons_zero, List.getElem_cons_succ, List.setIfInBounds_toArray, List.set_cons_zero, List.set_cons_succ]
        refine wpAnyH_take (i := 9) (v := ?_) rfl (by kernel_rfl) (by kernel_rfl) (by kernel_rfl) (fun _ _ _ h => h) (Or.inl ⟨by rfl, ?_⟩) hHeld ?_
        rotate_left
        · (intro wa hSw; have K := OS.out _ hSw; obtain ⟨cb0, cb1⟩ := K.1.cells; go_simp; try with_reducible rfl)
        simp only [Act.put, List.getElem_toArray, List.getElem_cons_zero, List.getElem_cons_succ, List.setIfInBounds_toArray, List.set_cons_zero, List.set_cons_succ]
        refine wpAnyH_take (i := 10) (v := ?_) rfl (by kernel_rfl) (by kernel_rfl) (by kernel_rfl) (fun _ _ _ h => h) (Or.inl ⟨by rfl, ?_⟩) hHeld ?_
        rotate_left
        · (intro wa hSw; go_simp; try with_reducible rfl)
        simp only [Act.put, List.getElem_toArray, List.getElem_cons_zero, List.getElem_cons_succ, List.setIfInBounds_toArray, List.set_cons_zero, List.set_cons_succ]
        refine wpAnyH_take (i := 11) (v := ?_) rfl (by kernel_rfl) (by kernel_rfl) (by kernel_rfl) (fun _ _ _ h => h) (Or.inl ⟨by rfl, ?_⟩) hHeld ?_
        rotate_left
        · (intro wa hSw; go_simp; try with_reducible rfl)
        simp only [Act.put, List.getElem_toArray, List.getElem_cons_zero, List.getElem_cons_succ, List.setIfInBounds_toArray, List.set_cons_zero, List.set_cons_succ]
        refine wpAnyH_ready (rs := [3]) (by kernel_rfl) (by simp) ?_
        refine AllReadyH.cons (o := _) rfl (fun K hK => ?_) AllReadyH.nil
        go_simp
        have KK := OS.out _ hHeld
        refine (C1.out _ KK.1.2).mono ?_
        rintro e w101 ⟨rfl, b101⟩
        clear KK
        (try go_wp2_with fail)
        refine hK.out _ _ ?_ (fun hHeld101 => ?_)
        · exact KS.out _ _ hHeld b101
        clear hK K
        refine wpAnyH_ready (rs := [7]) (by kernel_rfl) (by simp) ?_
        refine AllReadyH.cons (o := _) rfl (fun K hK => ?_) AllReadyH.nil
        go_simp
        have KK := OS.out _ hHeld101
        refine (C2.out _ KK.1.2).mono ?_
        rintro e w102 ⟨rfl, b102⟩
        clear KK
        (try go_wp2_with fail)
        refine hK.out _ _ ?_ (fun hHeld102 => ?_)
        · exact KS.out _ _ hHeld101 b102
        clear hK K
        clear hHeld101
        refine wpAnyH_take (i := 8) (v := ?_) rfl (by kernel_rfl) (by kernel_rfl) (by kernel_rfl) (fun _ _ _ h => h) (Or.inl ⟨by rfl, ?_⟩) hHeld102 ?_
        rotate_left
        · (intro wa hSw; go_simp; try with_reducible rfl)
        simp only [Act.put, List.getElem_toArray, List.getElem_cons_zero, List.getElem_cons_succ, List.setIfInBounds_toArray, List.set_cons_zero, List.set_cons_succ]
        refine wpAnyH_ready (rs := [12]) (by kernel_rfl) (by simp) ?_
        refine AllReadyH.cons (o := _) rfl (fun K hK => ?_) AllReadyH.nil
        go_simp
        have KK := OS.out _ hHeld102
        refine (C3.out _ KK.1.2).mono ?_
        rintro e w103 ⟨rfl, b103⟩
        clear KK
        (try go_wp2_with fail)
        refine hK.out _ _ ?_ (fun hHeld103 => ?_)
        · exact KS.out _ _ hHeld102 b103
        clear hK K
        clear hHeld102
        refine wpAnyH_take (i := 13) (v := ?_) rfl (by kernel_rfl) (by kernel_rfl) (by kernel_rfl) (fun _ _ _ h => h) (Or.inl ⟨by rfl, ?_⟩) hHeld103 ?_
        rotate_left
        · (intro wa hSw; go_simp; try with_reducible rfl)
        simp only [Act.put, List.getElem_toArray, List.getElem_cons_zero, List.getElem_cons_succ, List.setIfInBounds_toArray, List.set_cons_zero, List.set_cons_succ]
        refine wpAnyH_done (by kernel_rfl) ?_ _
        have KE := Lib.hid (OS.out _ hHeld103)
        clear KS OS IS hHeld hHeld103
        clear HS HB
        have HS2 := Lib.hid KE.out.1
        have HB2 := Lib.hid KE.out.2
        go_wp2
        go_roundw
        case rel => exact ⟨k + 1, by omega, by go_num, HVX, HS2, HB2⟩
        case measure => simp [RowKit.intOf]; omega
    obtain rfl : k = n := by omega
    obtain rfl := HN.out (fun ⟨j, hj, h⟩ => by have := HV.out j hj; omega)
    clear HV HN HY
    go_wp2
    go_ret
    exact ⟨rfl, HB.out⟩
end Go.Proofs.Ytfkfolglfmmkoaa
set_option linter.unusedVariables false
namespace Go.Proofs.Ytfkfolglfmmkoaa
open Go.RowKit

set_option maxRecDepth 100000 in
set_option maxHeartbeats 4000000 in
theorem hasPlaces_impl (n : Nat) (vk : Value) (K : List Int) (R : Bool) (w : World) (hR : R = true ↔ placesP n K) (hl : K.length = n * n) (hc : cellsIn K) (h8 : n ≤ 8) (h : IntRow w vk K.length (getI K)) :
    Calls Try.prog 61 #[.agg #[.int .i64 n, vk]] w fun e w' => e = .returned (.bool R) ∧ Below w.heap.size w w' := by
  obtain ⟨ka, kc, rfl, hkn, _⟩ := h.form
  obtain ⟨nk, hnk⟩ : ∃ nk, K.length = nk := ⟨_, rfl⟩
  obtain ⟨U, hU⟩ : ∃ U, w.alloc (.cells #[.int .i64 n, .slice ka K.length kc] 26) = U := ⟨_, rfl⟩
  have HS : Hid (MapAt U w.heap.size n ka K.length kc K) := by rw [← hU]; exact MapAt.made h
  have HB : Hid (Below w.heap.size w U) := by rw [← hU]; exact (Below.refl _ _).alloc (Nat.le_refl _) _
  have CW : Hid (∀ (x y : Nat) wa, x < n → y < n → IntRow wa (.slice ka K.length kc) K.length (getI K) → Calls Try.prog 56 #[.agg #[.int .i64 n, .slice ka K.length kc], .int .i64 x, .int .i64 y] wa fun e w' => e = .returned (.int .i64 (getI K (x * n + y))) ∧ Below wa.heap.size wa w') := fun x y wa hx hy hw => way_impl n _ K x y wa hl h8 hx hy hw
  have CH : Hid (∀ (x y : Nat) r wa, (r = true ↔ shortP n K x y) → x < n → y < n → IntRow wa (.slice ka K.length kc) K.length (getI K) → Calls Try.prog 105 #[.agg #[.int .i64 n, .slice ka K.length kc], .int .i64 x, .int .i64 y] wa fun e w' => e = .returned (.bool r) ∧ Below wa.heap.size wa w') := fun x y r wa hr hx hy hw => hasShortcut_impl n _ K x y r wa hr hl hc h8 hx hy hw
  have HN := Lib.hid (boolF hR)
  have HY := Lib.hid (boolT hR)
  rw [hnk] at hkn hU HS CW CH ⊢
  clear h hnk hR hl hc
  obtain ⟨c0, c1⟩ := HS.out.cells
  go_enter Try.func61, Try.ntmps61
  go_wp2
  clear hU c0 c1
  go_loopw [7] (fun iv wr => ∃ a : Nat, a ≤ n ∧ iv = .int .i64 a ∧ Hid (∀ j, j < a → rowP n K j) ∧ Hid (MapAt wr w.heap.size n ka nk kc K) ∧ Hid (Below w.heap.size w wr)) (fun iv _ => n - (RowKit.intOf iv).toNat)
  case atStart => exact ⟨0, Nat.zero_le _, rfl, fun j hj => absurd hj (Nat.not_lt_zero _), HS, HB⟩
  case round =>
    clear HS HB
    obtain ⟨a, ha9, rfl, HV, HS, HB⟩ := hrel
    by_cases hlt : a < n
    · have hj1 : (a : Int) < (n : Int) := by omega
      have CA := Lib.hid (fun wa => CW.out a a wa hlt hlt)
      have HNA : Hid (¬ rowP n K a → R = false) := fun h => HN.out (fun h9 => h (h9 a hlt))
      have HVA : Hid (rowP n K a → ∀ j, j < a + 1 → rowP n K j) := fun h j hj => by
        by_cases e : j = a
        · subst e; exact h
        · exact HV.out j (by omega)
      clear HV
      obtain ⟨x, hx⟩ : ∃ x, getI K (a * n + a) = x := ⟨_, rfl⟩
      have HX := Lib.hid hx
      rw [hx] at CA
      clear hx
      obtain ⟨c0, c1⟩ := HS.out.cells
      go_wp2_with fail
      refine (CA.out _ HS.out.2).mono ?_
      rintro e w1 ⟨rfl, b⟩
      have HS1 := Lib.hid (HS.out.below b)
      have HB1 := Lib.hid (HB.out.trans (b.mono HB.out.size))
      clear b c0 c1 HS HB CA
      by_cases hx0 : x = 0
      case neg =>
        have g1 : (x != 0) = true := by simpa using hx0
        obtain rfl := HNA.out (fun h => hx0 (HX.out.symm.trans h.1))
        clear HNA HVA HN HY hx0
        go_wp2
        go_ret
        exact ⟨rfl, HB1.out⟩
      subst hx0
      have g1 : ((0 : Int) != 0) = false := by simp
      obtain ⟨c0, c1⟩ := HS1.out.cells
      go_wp2
      clear c0 c1
      go_loopw [17] (fun iv wr => ∃ b : Nat, b ≤ n ∧ iv = .int .i64 b ∧ Hid (∀ j, j < b → placeP n K a j) ∧ Hid (MapAt wr w.heap.size n ka nk kc K) ∧ Hid (Below w.heap.size w wr)) (fun iv _ => n - (RowKit.intOf iv).toNat)
      case atStart => exact ⟨0, Nat.zero_le _, rfl, fun j hj => absurd hj (Nat.not_lt_zero _), HS1, HB1⟩
      case round =>
        clear HS1 HB1
        obtain ⟨b, hb9, rfl, HZ, HS, HB⟩ := hrel
        by_cases hlt2 : b < n
        · have hj2 : (b : Int) < (n : Int) := by omega
          obtain ⟨r3, hr3⟩ := boolEx (shortP n K a b)
          have C1 := Lib.hid (fun wa => CW.out a b wa hlt hlt2)
          have C2 := Lib.hid (fun wa => CW.out b a wa hlt2 hlt)
          have C3 := Lib.hid (fun wa => CH.out a b r3 wa hr3 hlt hlt2)
          have HNB : Hid (¬ placeP n K a b → R = false) := fun h => HNA.out (fun h9 => h (h9.2 b hlt2))
          have HZB : Hid (placeP n K a b → ∀ j, j < b + 1 → placeP n K a j) := fun h j hj => by
            by_cases e : j = b
            · subst e; exact h
            · exact HZ.out j (by omega)
          have HP : Hid (placeP n K a b ↔ getI K (a * n + b) = getI K (b * n + a) ∧ r3 = false) := by
            unfold placeP
            exact ⟨fun h => ⟨h.1, by cases r3 with | false => rfl | true => exact absurd (hr3.1 rfl) h.2⟩, fun h => ⟨h.1, fun h3 => by have := hr3.2 h3; rw [h.2] at this; cases this⟩⟩
          clear HZ hr3
          generalize getI K (a * n + b) = y1 at *
          generalize getI K (b * n + a) = y2 at *
          by_cases hyy : y1 = y2
          case neg =>
            have g2 : (y1 != y2) = true := by simpa using hyy
            obtain rfl := HNB.out (fun h => hyy (HP.out.1 h).1)
            clear HNB HZB HP HNA HVA HN HY hyy C3
            go_wp2_with fail
            obtain ⟨S, HSd⟩ : ∃ S : World → Prop, S = fun w' => (MapAt w' w.heap.size n ka nk kc K ∧ Below w.heap.size w w') := ⟨_, rfl⟩
            have KS : Hid (∀ wa wb, S wa → Below wa.heap.size wa wb → S wb) := by subst HSd; exact fun wa wb h b => ⟨h.1.below b, h.2.trans (b.mono h.2.size)⟩
            have OS : Hid (∀ wa, S wa → (MapAt wa w.heap.size n ka nk kc K ∧ Below w.heap.size w wa)) := by subst HSd; exact fun wa h => h
            have IS : Hid (∀ wa, (MapAt wa w.heap.size n ka nk kc K ∧ Below w.heap.size w wa) → S wa) := by subst HSd; exact fun wa h => h
            clear HSd
            go_wp2_with fail
            refine wp_region_held_drew (S := S) (by kernel_rfl) ?_ (fun hHeld => ?_)
            · exact IS.out _ ((fun (b : Below wr.heap.size wr wr.drew) => ⟨HS.out.below b, HB.out.trans (b.mono HB.out.size)⟩) (Below.refl _ _).drew)
            refine wpAnyH_take (i := 0) (v := ?_) rfl (by kernel_rfl) (by kernel_rfl) (by kernel_rfl) (fun _ _ _ h => h) (Or.inl ⟨by rfl, ?_⟩) hHeld ?_
            rotate_left
            · (intro wa hSw; have K := OS.out _ hSw; obtain ⟨cb0, cb1⟩ := K.1.cells; go_simp; try with_reducible rfl)
            simp only [Act.put, List.getElem_toArray, List.getElem_cons_zero, List.setIfInBounds_toArray, List.set_cons_zero, List.set_cons_succ]
            refine wpAnyH_take (i := 1) (v := ?_) rfl (by kernel_rfl) (by kernel_rfl) (by kernel_rfl) (fun _ _ _ h => h) (Or.inl ⟨by rfl, ?_⟩) hHeld ?_
            rotate_left
            · (intro wa hSw; go_simp; try with_reducible rfl)
            simp only [Act.put, List.getElem_toArray, List.getElem_cons_zero, List.getElem_cons_succ, List.setIfInBounds_toArray, List.set_cons_zero, List.set_cons_succ]
            refine wpAnyH_take (i := 2) (v := ?_) rfl (by kernel_rfl) (by kernel_rfl) (by kernel_rfl) (fun _ _ _ h => h) (Or.inl ⟨by rfl, ?_⟩) hHeld ?_
            rotate_left
            · (intro wa hSw; go_simp; try with_reducible rfl)
            simp only [Act.put, List.getElem_toArray, List.getElem_cons_zero, List.getElem_cons_succ, List.setIfInBounds_toArray, List.set_cons_zero, List.set_cons_succ]
            refine wpAnyH_take (i := 4) (v := ?_) rfl (by kernel_rfl) (by kernel_rfl) (by kernel_rfl) (fun _ _ _ h => h) (Or.inl ⟨by rfl, ?_⟩) hHeld ?_
            rotate_left
            · (intro wa hSw; have K := OS.out _ hSw; obtain ⟨cb0, cb1⟩ := K.1.cells; go_simp; try with_reducible rfl)
            simp only [Act.put, List.getElem_toArray, List.getElem_cons_zero, List.getElem_cons_succ, List.setIfInBounds_toArray, List.set_cons_zero, List.set_cons_succ]
            refine wpAnyH_take (i := 5) (v := ?_) rfl (by kernel_rfl) (by kernel_rfl) (by kernel_rfl) (fun _ _ _ h => h) (Or.inl ⟨by rfl, ?_⟩) hHeld ?_
            rotate_left
            · (intro wa hSw; go_simp; try with_reducible rfl)
            simp only [Act.put, List.getElem_toArray, List.getElem_cons_zero, List.getElem_cons_succ, List.setIfInBounds_toArray, List.set_cons_zero, List.set_cons_succ]
            refine wpAnyH_take (i := 6) (v := ?_) rfl (by kernel_rfl) (by kernel_rfl) (by kernel_rfl) (fun _ _ _ h => h) (Or.inl ⟨by rfl, ?_⟩) hHeld ?_
            rotate_left
            · (intro wa hSw; go_simp; try with_reducible rfl)
            simp only [Act.put, List.getElem_toArray, List.getElem_cons_zero, List.getElem_cons_succ, List.setIfInBounds_toArray, List.set_cons_zero, List.set_cons_succ]
            refine wpAnyH_ready (rs := [3]) (by kernel_rfl) (by simp) ?_
            refine AllReadyH.cons (o := _) rfl (fun K hK => ?_) AllReadyH.nil
            go_simp
            have KK := OS.out _ hHeld
            refine (C1.out _ KK.1.2).mono ?_
            rintro e w101 ⟨rfl, b101⟩
            clear KK
            (try go_wp2_with fail)
            refine hK.out _ _ ?_ (fun hHeld101 => ?_)
            · exact KS.out _ _ hHeld b101
            clear hK K
            refine wpAnyH_ready (rs := [7]) (by kernel_rfl) (by simp) ?_
            refine AllReadyH.cons (o := _) rfl (fun K hK => ?_) AllReadyH.nil
            go_simp
            have KK := OS.out _ hHeld101
            refine (C2.out _ KK.1.2).mono ?_
            rintro e w102 ⟨rfl, b102⟩
            clear KK
            (try go_wp2_with fail)
            refine hK.out _ _ ?_ (fun hHeld102 => ?_)
            · exact KS.out _ _ hHeld101 b102
            clear hK K
            clear hHeld101
            refine wpAnyH_take (i := 8) (v := ?_) rfl (by kernel_rfl) (by kernel_rfl) (by kernel_rfl) (fun _ _ _ h => h) (Or.inl ⟨by rfl, ?_⟩) hHeld102 ?_
            rotate_left
            · (intro wa hSw; go_simp; try with_reducible rfl)
            simp only [Act.put, List.getElem_toArray, List.getElem_cons_zero, List.getElem_cons_succ, List.setIfInBounds_toArray, List.set_cons_zero, List.set_cons_succ]
            refine wpAnyH_take (i := 9) (v := ?_) rfl (by kernel_rfl) (by kernel_rfl) (by kernel_rfl) (fun _ _ _ h => h) (Or.inl ⟨by rfl, ?_⟩) hHeld102 ?_
            rotate_left
            · (intro wa hSw; go_simp; try with_reducible rfl)
            simp only [Act.put, List.getElem_toArray, List.getElem_cons_zero, List.getElem_cons_succ, List.setIfInBounds_toArray, List.set_cons_zero, List.set_cons_succ]
            refine wpAnyH_take (i := 10) (v := undef) rfl (by kernel_rfl) (by kernel_rfl) (by kernel_rfl) (fun _ _ _ h => h) (Or.inr ⟨by rfl, rfl⟩) hHeld102 ?_
            simp only [Act.put, List.getElem_toArray, List.getElem_cons_zero, List.getElem_cons_succ, List.setIfInBounds_toArray, List.set_cons_zero, List.set_cons_succ]
            refine wpAnyH_take (i := 11) (v := undef) rfl (by kernel_rfl) (by kernel_rfl) (by kernel_rfl) (fun _ _ _ h => h) (Or.inr ⟨by rfl, rfl⟩) hHeld102 ?_
            simp only [Act.put, List.getElem_toArray, List.getElem_cons_zero, List.getElem_cons_succ, List.setIfInBounds_toArray, List.set_cons_zero, List.set_cons_succ]
            refine wpAnyH_take (i := 12) (v := undef) rfl (by kernel_rfl) (by kernel_rfl) (by kernel_rfl) (fun _ _ _ h => h) (Or.inr ⟨by rfl, rfl⟩) hHeld102 ?_
            simp only [Act.put, List.getElem_toArray, List.getElem_cons_zero, List.getElem_cons_succ, List.setIfInBounds_toArray, List.set_cons_zero, List.set_cons_succ]
            refine wpAnyH_take (i := 13) (v := undef) rfl (by kernel_rfl) (by kernel_rfl) (by kernel_rfl) (fun _ _ _ h => h) (Or.inr ⟨by rfl, rfl⟩) hHeld102 ?_
            simp only [Act.put, List.getElem_toArray, List.getElem_cons_zero, List.getElem_cons_succ, List.setIfInBounds_toArray, List.set_cons_zero, List.set_cons_succ]
            refine wpAnyH_take (i := 14) (v := ?_) rfl (by kernel_rfl) (by kernel_rfl) (by kernel_rfl) (fun _ _ _ h => h) (Or.inl ⟨by rfl, ?_⟩) hHeld102 ?_
            rotate_left
            · (intro wa hSw; go_simp; try with_reducible rfl)
            simp only [Act.put, List.getElem_toArray, List.getElem_cons_zero, List.getElem_cons_succ, List.setIfInBounds_toArray, List.set_cons_zero, List.set_cons_succ]
            refine wpAnyH_done (by kernel_rfl) ?_ _
            have KE := Lib.hid (OS.out _ hHeld102)
            clear KS OS IS hHeld hHeld102
            clear HS HB
            have HB2 := Lib.hid KE.out.2
            go_wp2
            go_ret
            exact ⟨rfl, HB2.out⟩
          have g2 : (y1 != y2) = false := by simpa using hyy
          cases r3 with
          | true =>
            obtain rfl := HNB.out (fun h => by have := (HP.out.1 h).2; cases this)
            clear HNB HZB HP HNA HVA HN HY hyy
            go_wp2_with fail
            obtain ⟨S, HSd⟩ : ∃ S : World → Prop, S = fun w' => (MapAt w' w.heap.size n ka nk kc K ∧ Below w.heap.size w w') := ⟨_, rfl⟩
            have KS : Hid (∀ wa wb, S wa → Below wa.heap.size wa wb → S wb) := by subst HSd; exact fun wa wb h b => ⟨h.1.below b, h.2.trans (b.mono h.2.size)⟩
            have OS : Hid (∀ wa, S wa → (MapAt wa w.heap.size n ka nk kc K ∧ Below w.heap.size w wa)) := by subst HSd; exact fun wa h => h
            have IS : Hid (∀ wa, (MapAt wa w.heap.size n ka nk kc K ∧ Below w.heap.size w wa) → S wa) := by subst HSd; exact fun wa h => h
            clear HSd
            go_wp2_with fail
            refine wp_region_held_drew (S := S) (by kernel_rfl) ?_ (fun hHeld => ?_)
            · exact IS.out _ ((fun (b : Below wr.heap.size wr wr.drew) => ⟨HS.out.below b, HB.out.trans (b.mono HB.out.size)⟩) (Below.refl _ _).drew)
            refine wpAnyH_take (i := 0) (v := ?_) rfl (by kernel_rfl) (by kernel_rfl) (by kernel_rfl) (fun _ _ _ h => h) (Or.inl ⟨by rfl, ?_⟩) hHeld ?_
            rotate_left
            · (intro wa hSw; have K := OS.out _ hSw; obtain ⟨cb0, cb1⟩ := K.1.cells; go_simp; try with_reducible rfl)
            simp only [Act.put, List.getElem_toArray, List.getElem_cons_zero, List.setIfInBounds_toArray, List.set_cons_zero, List.set_cons_succ]
            refine wpAnyH_take (i := 1) (v := ?_) rfl (by kernel_rfl) (by kernel_rfl) (by kernel_rfl) (fun _ _ _ h => h) (Or.inl ⟨by rfl, ?_⟩) hHeld ?_
            rotate_left
            · (intro wa hSw; go_simp; try with_reducible rfl)
            simp only [Act.put, List.getElem_toArray, List.getElem_cons_zero, List.getElem_cons_succ, List.setIfInBounds_toArray, List.set_cons_zero, List.set_cons_succ]
            refine wpAnyH_take (i := 2) (v := ?_) rfl (by kernel_rfl) (by kernel_rfl) (by kernel_rfl) (fun _ _ _ h => h) (Or.inl ⟨by rfl, ?_⟩) hHeld ?_
            rotate_left
            · (intro wa hSw; go_simp; try with_reducible rfl)
            simp only [Act.put, List.getElem_toArray, List.getElem_cons_zero, List.getElem_cons_succ, List.setIfInBounds_toArray, List.set_cons_zero, List.set_cons_succ]
            refine wpAnyH_take (i := 4) (v := ?_) rfl (by kernel_rfl) (by kernel_rfl) (by kernel_rfl) (fun _ _ _ h => h) (Or.inl ⟨by rfl, ?_⟩) hHeld ?_
            rotate_left
            · (intro wa hSw; have K := OS.out _ hSw; obtain ⟨cb0, cb1⟩ := K.1.cells; go_simp; try with_reducible rfl)
            simp only [Act.put, List.getElem_toArray, List.getElem_cons_zero, List.getElem_cons_succ, List.setIfInBounds_toArray, List.set_cons_zero, List.set_cons_succ]
            refine wpAnyH_take (i := 5) (v := ?_) rfl (by kernel_rfl) (by kernel_rfl) (by kernel_rfl) (fun _ _ _ h => h) (Or.inl ⟨by rfl, ?_⟩) hHeld ?_
            rotate_left
            · (intro wa hSw; go_simp; try with_reducible rfl)
            simp only [Act.put, List.getElem_toArray, List.getElem_cons_zero, List.getElem_cons_succ, List.setIfInBounds_toArray, List.set_cons_zero, List.set_cons_succ]
            refine wpAnyH_take (i := 6) (v := ?_) rfl (by kernel_rfl) (by kernel_rfl) (by kernel_rfl) (fun _ _ _ h => h) (Or.inl ⟨by rfl, ?_⟩) hHeld ?_
            rotate_left
            · (intro wa hSw; go_simp; try with_reducible rfl)
            simp only [Act.put, List.getElem_toArray, List.getElem_cons_zero, List.getElem_cons_succ, List.setIfInBounds_toArray, List.set_cons_zero, List.set_cons_succ]
            refine wpAnyH_ready (rs := [3]) (by kernel_rfl) (by simp) ?_
            refine AllReadyH.cons (o := _) rfl (fun K hK => ?_) AllReadyH.nil
            go_simp
            have KK := OS.out _ hHeld
            refine (C1.out _ KK.1.2).mono ?_
            rintro e w101 ⟨rfl, b101⟩
            clear KK
            (try go_wp2_with fail)
            refine hK.out _ _ ?_ (fun hHeld101 => ?_)
            · exact KS.out _ _ hHeld b101
            clear hK K
            refine wpAnyH_ready (rs := [7]) (by kernel_rfl) (by simp) ?_
            refine AllReadyH.cons (o := _) rfl (fun K hK => ?_) AllReadyH.nil
            go_simp
            have KK := OS.out _ hHeld101
            refine (C2.out _ KK.1.2).mono ?_
            rintro e w102 ⟨rfl, b102⟩
            clear KK
            (try go_wp2_with fail)
            refine hK.out _ _ ?_ (fun hHeld102 => ?_)
            · exact KS.out _ _ hHeld101 b102
            clear hK K
            clear hHeld101
            refine wpAnyH_take (i := 8) (v := ?_) rfl (by kernel_rfl) (by kernel_rfl) (by kernel_rfl) (fun _ _ _ h => h) (Or.inl ⟨by rfl, ?_⟩) hHeld102 ?_
            rotate_left
            · (intro wa hSw; go_simp; try with_reducible rfl)
            simp only [Act.put, List.getElem_toArray, List.getElem_cons_zero, List.getElem_cons_succ, List.setIfInBounds_toArray, List.set_cons_zero, List.set_cons_succ]
            refine wpAnyH_take (i := 9) (v := ?_) rfl (by kernel_rfl) (by kernel_rfl) (by kernel_rfl) (fun _ _ _ h => h) (Or.inl ⟨by rfl, ?_⟩) hHeld102 ?_
            rotate_left
            · (intro wa hSw; go_simp; try with_reducible rfl)
            simp only [Act.put, List.getElem_toArray, List.getElem_cons_zero, List.getElem_cons_succ, List.setIfInBounds_toArray, List.set_cons_zero, List.set_cons_succ]
            refine wpAnyH_take (i := 10) (v := ?_) rfl (by kernel_rfl) (by kernel_rfl) (by kernel_rfl) (fun _ _ _ h => h) (Or.inl ⟨by rfl, ?_⟩) hHeld102 ?_
            rotate_left
            · (intro wa hSw; have K := OS.out _ hSw; obtain ⟨cb0, cb1⟩ := K.1.cells; go_simp; try with_reducible rfl)
            simp only [Act.put, List.getElem_toArray, List.getElem_cons_zero, List.getElem_cons_succ, List.setIfInBounds_toArray, List.set_cons_zero, List.set_cons_succ]
            refine wpAnyH_take (i := 11) (v := ?_) rfl (by kernel_rfl) (by kernel_rfl) (by kernel_rfl) (fun _ _ _ h => h) (Or.inl ⟨by rfl, ?_⟩) hHeld102 ?_
            rotate_left
            · (intro wa hSw; go_simp; try with_reducible rfl)
            simp only [Act.put, List.getElem_toArray, List.getElem_cons_zero, List.getElem_cons_succ, List.setIfInBounds_toArray, List.set_cons_zero, List.set_cons_succ]
            refine wpAnyH_take (i := 12) (v := ?_) rfl (by kernel_rfl) (by kernel_rfl) (by kernel_rfl) (fun _ _ _ h => h) (Or.inl ⟨by rfl, ?_⟩) hHeld102 ?_
            rotate_left
            · (intro wa hSw; go_simp; try with_reducible rfl)
            simp only [Act.put, List.getElem_toArray, List.getElem_cons_zero, List.getElem_cons_succ, List.setIfInBounds_toArray, List.set_cons_zero, List.set_cons_succ]
            refine wpAnyH_ready (rs := [13]) (by kernel_rfl) (by simp) ?_
            refine AllReadyH.cons (o := _) rfl (fun K hK => ?_) AllReadyH.nil
            go_simp
            have KK := OS.out _ hHeld102
            refine (C3.out _ KK.1.2).mono ?_
            rintro e w103 ⟨rfl, b103⟩
            clear KK
            (try go_wp2_with fail)
            refine hK.out _ _ ?_ (fun hHeld103 => ?_)
            · exact KS.out _ _ hHeld102 b103
            clear hK K
            clear hHeld102
            refine wpAnyH_take (i := 14) (v := ?_) rfl (by kernel_rfl) (by kernel_rfl) (by kernel_rfl) (fun _ _ _ h => h) (Or.inl ⟨by rfl, ?_⟩) hHeld103 ?_
            rotate_left
            · (intro wa hSw; go_simp; try with_reducible rfl)
            simp only [Act.put, List.getElem_toArray, List.getElem_cons_zero, List.getElem_cons_succ, List.setIfInBounds_toArray, List.set_cons_zero, List.set_cons_succ]
            refine wpAnyH_done (by kernel_rfl) ?_ _
            have KE := Lib.hid (OS.out _ hHeld103)
            clear KS OS IS hHeld hHeld103
            clear HS HB
            have HB2 := Lib.hid KE.out.2
            go_wp2
            go_ret
            exact ⟨rfl, HB2.out⟩
          | false =>
            have HZX := Lib.hid (HZB.out (HP.out.2 ⟨hyy, rfl⟩))
            clear HNB HZB HP hyy
            go_wp2_with fail
            obtain ⟨S, HSd⟩ : ∃ S : World → Prop, S = fun w' => (MapAt w' w.heap.size n ka nk kc K ∧ Below w.heap.size w w') := ⟨_, rfl⟩
            have KS : Hid (∀ wa wb, S wa → Below wa.heap.size wa wb → S wb) := by subst HSd; exact fun wa wb h b => ⟨h.1.below b, h.2.trans (b.mono h.2.size)⟩
            have OS : Hid (∀ wa, S wa → (MapAt wa w.heap.size n ka nk kc K ∧ Below w.heap.size w wa)) := by subst HSd; exact fun wa h => h
            have IS : Hid (∀ wa, (MapAt wa w.heap.size n ka nk kc K ∧ Below w.heap.size w wa) → S wa) := by subst HSd; exact fun wa h => h
            clear HSd
            go_wp2_with fail
            refine wp_region_held_drew (S := S) (by kernel_rfl) ?_ (fun hHeld => ?_)
            · exact IS.out _ ((fun (b : Below wr.heap.size wr wr.drew) => ⟨HS.out.below b, HB.out.trans (b.mono HB.out.size)⟩) (Below.refl _ _).drew)
            refine wpAnyH_take (i := 0) (v := ?_) rfl (by kernel_rfl) (by kernel_rfl) (by kernel_rfl) (fun _ _ _ h => h) (Or.inl ⟨by rfl, ?_⟩) hHeld ?_
            rotate_left
            · (intro wa hSw; have K := OS.out _ hSw; obtain ⟨cb0, cb1⟩ := K.1.cells; go_simp; try with_reducible rfl)
            simp only [Act.put, List.getElem_toArray, List.getElem_cons_zero, List.setIfInBounds_toArray, List.set_cons_zero, List.set_cons_succ]
            refine wpAnyH_take (i := 1) (v := ?_) rfl (by kernel_rfl) (by kernel_rfl) (by kernel_rfl) (fun _ _ _ h => h) (Or.inl ⟨by rfl, ?_⟩) hHeld ?_
            rotate_left
            · (intro wa hSw; go_simp; try with_reducible rfl)
            simp only [Act.put, List.getElem_toArray, List.getElem_cons_zero, List.getElem_cons_succ, List.setIfInBounds_toArray, List.set_cons_zero, List.set_cons_succ]
            refine wpAnyH_take (i := 2) (v := ?_) rfl (by kernel_rfl) (by kernel_rfl) (by kernel_rfl) (fun _ _ _ h => h) (Or.inl ⟨by rfl, ?_⟩) hHeld ?_
            rotate_left
            · (intro wa hSw; go_simp; try with_reducible rfl)
            simp only [Act.put, List.getElem_toArray, List.getElem_cons_zero, List.getElem_cons_succ, List.setIfInBounds_toArray, List.set_cons_zero, List.set_cons_succ]
            refine wpAnyH_take (i := 4) (v := ?_) rfl (by kernel_rfl) (by kernel_rfl) (by kernel_rfl) (fun _ _ _ h => h) (Or.inl ⟨by rfl, ?_⟩) hHeld ?_
            rotate_left
            · (intro wa hSw; have K := OS.out _ hSw; obtain ⟨cb0, cb1⟩ := K.1.cells; go_simp; try with_reducible rfl)
            simp only [Act.put, List.getElem_toArray, List.getElem_cons_zero, List.getElem_cons_succ, List.setIfInBounds_toArray, List.set_cons_zero, List.set_cons_succ]
            refine wpAnyH_take (i := 5) (v := ?_) rfl (by kernel_rfl) (by kernel_rfl) (by kernel_rfl) (fun _ _ _ h => h) (Or.inl ⟨by rfl, ?_⟩) hHeld ?_
            rotate_left
            · (intro wa hSw; go_simp; try with_reducible rfl)
            simp only [Act.put, List.getElem_toArray, List.getElem_cons_zero, List.getElem_cons_succ, List.setIfInBounds_toArray, List.set_cons_zero, List.set_cons_succ]
            refine wpAnyH_take (i := 6) (v := ?_) rfl (by kernel_rfl) (by kernel_rfl) (by kernel_rfl) (fun _ _ _ h => h) (Or.inl ⟨by rfl, ?_⟩) hHeld ?_
            rotate_left
            · (intro wa hSw; go_simp; try with_reducible rfl)
            simp only [Act.put, List.getElem_toArray, List.getElem_cons_zero, List.getElem_cons_succ, List.setIfInBounds_toArray, List.set_cons_zero, List.set_cons_succ]
            refine wpAnyH_ready (rs := [3]) (by kernel_rfl) (by simp) ?_
            refine AllReadyH.cons (o := _) rfl (fun K hK => ?_) AllReadyH.nil
            go_simp
            have KK := OS.out _ hHeld
            refine (C1.out _ KK.1.2).mono ?_
            rintro e w101 ⟨rfl, b101⟩
            clear KK
            (try go_wp2_with fail)
            refine hK.out _ _ ?_ (fun hHeld101 => ?_)
            · exact KS.out _ _ hHeld b101
            clear hK K
            refine wpAnyH_ready (rs := [7]) (by kernel_rfl) (by simp) ?_
            refine AllReadyH.cons (o := _) rfl (fun K hK => ?_) AllReadyH.nil
            go_simp
            have KK := OS.out _ hHeld101
            refine (C2.out _ KK.1.2).mono ?_
            rintro e w102 ⟨rfl, b102⟩
            clear KK
            (try go_wp2_with fail)
            refine hK.out _ _ ?_ (fun hHeld102 => ?_)
            · exact KS.out _ _ hHeld101 b102
            clear hK K
            clear hHeld101
            refine wpAnyH_take (i := 8) (v := ?_) rfl (by kernel_rfl) (by kernel_rfl) (by kernel_rfl) (fun _ _ _ h => h) (Or.inl ⟨by rfl, ?_⟩) hHeld102 ?_
            rotate_left
            · (intro wa hSw; go_simp; try with_reducible rfl)
            simp only [Act.put, List.getElem_toArray, List.getElem_cons_zero, List.getElem_cons_succ, List.setIfInBounds_toArray, List.set_cons_zero, List.set_cons_succ]
            refine wpAnyH_take (i := 9) (v := ?_) rfl (by kernel_rfl) (by kernel_rfl) (by kernel_rfl) (fun _ _ _ h => h) (Or.inl ⟨by rfl, ?_⟩) hHeld102 ?_
            rotate_left
            · (intro wa hSw; go_simp; try with_reducible rfl)
            simp only [Act.put, List.getElem_toArray, List.getElem_cons_zero, List.getElem_cons_succ, List.setIfInBounds_toArray, List.set_cons_zero, List.set_cons_succ]
            refine wpAnyH_take (i := 10) (v := ?_) rfl (by kernel_rfl) (by kernel_rfl) (by kernel_rfl) (fun _ _ _ h => h) (Or.inl ⟨by rfl, ?_⟩) hHeld102 ?_
            rotate_left
            · (intro wa hSw; have K := OS.out _ hSw; obtain ⟨cb0, cb1⟩ := K.1.cells; go_simp; try with_reducible rfl)
            simp only [Act.put, List.getElem_toArray, List.getElem_cons_zero, List.getElem_cons_succ, List.setIfInBounds_toArray, List.set_cons_zero, List.set_cons_succ]
            refine wpAnyH_take (i := 11) (v := ?_) rfl (by kernel_rfl) (by kernel_rfl) (by kernel_rfl) (fun _ _ _ h => h) (Or.inl ⟨by rfl, ?_⟩) hHeld102 ?_
            rotate_left
            · (intro wa hSw; go_simp; try with_reducible rfl)
            simp only [Act.put, List.getElem_toArray, List.getElem_cons_zero, List.getElem_cons_succ, List.setIfInBounds_toArray, List.set_cons_zero, List.set_cons_succ]
            refine wpAnyH_take (i := 12) (v := ?_) rfl (by kernel_rfl) (by kernel_rfl) (by kernel_rfl) (fun _ _ _ h => h) (Or.inl ⟨by rfl, ?_⟩) hHeld102 ?_
            rotate_left
            · (intro wa hSw; go_simp; try with_reducible rfl)
            simp only [Act.put, List.getElem_toArray, List.getElem_cons_zero, List.getElem_cons_succ, List.setIfInBounds_toArray, List.set_cons_zero, List.set_cons_succ]
            refine wpAnyH_ready (rs := [13]) (by kernel_rfl) (by simp) ?_
            refine AllReadyH.cons (o := _) rfl (fun K hK => ?_) AllReadyH.nil
            go_simp
            have KK := OS.out _ hHeld102
            refine (C3.out _ KK.1.2).mono ?_
            rintro e w103 ⟨rfl, b103⟩
            clear KK
            (try go_wp2_with fail)
            refine hK.out _ _ ?_ (fun hHeld103 => ?_)
            · exact KS.out _ _ hHeld102 b103
            clear hK K
            clear hHeld102
            refine wpAnyH_take (i := 14) (v := ?_) rfl (by kernel_rfl) (by kernel_rfl) (by kernel_rfl) (fun _ _ _ h => h) (Or.inl ⟨by rfl, ?_⟩) hHeld103 ?_
            rotate_left
            · (intro wa hSw; go_simp; try with_reducible rfl)
            simp only [Act.put, List.getElem_toArray, List.getElem_cons_zero, List.getElem_cons_succ, List.setIfInBounds_toArray, List.set_cons_zero, List.set_cons_succ]
            refine wpAnyH_done (by kernel_rfl) ?_ _
            have KE := Lib.hid (OS.out _ hHeld103)
            clear KS OS IS hHeld hHeld103
            clear HS HB
            have HS2 := Lib.hid KE.out.1
            have HB2 := Lib.hid KE.out.2
            go_wp2
            go_roundw
            case rel => exact ⟨b + 1, by omega, by go_num, HZX, HS2, HB2⟩
            case measure => simp [RowKit.intOf]; omega
        obtain rfl : b = n := by omega
        have HVX := Lib.hid (HVA.out ⟨HX.out, HZ.out⟩)
        clear HVA HNA HZ
        go_wp2
        go_roundw
        case rel => exact ⟨a + 1, by omega, by go_num, HVX, HS, HB⟩
        case measure => simp [RowKit.intOf]; omega
    obtain rfl : a = n := by omega
    obtain rfl := HY.out HV.out
    clear HV HN HY
    go_wp2
    go_ret
    exact ⟨rfl, HB.out⟩
set_option maxRecDepth 100000 in
set_option maxHeartbeats 4000000 in
theorem mapOk_impl (s : Int) (vk : Value) (K : List Int) (R : Bool) (w : World) (hR : R = true ↔ mapP s K) (h : IntRow w vk K.length (getI K)) :
    Calls Try.prog 17 #[.agg #[.int .i64 s, vk]] w fun e w' => e = .returned (.bool R) ∧ Below w.heap.size w w' := by
  obtain ⟨ka, kc, rfl, hkn, _⟩ := h.form
  obtain ⟨nk, hnk⟩ : ∃ nk, K.length = nk := ⟨_, rfl⟩
  obtain ⟨U, hU⟩ : ∃ U, w.alloc (.cells #[.int .i64 s, .slice ka K.length kc] 26) = U := ⟨_, rfl⟩
  have HS : Hid (MapAt U w.heap.size s ka K.length kc K) := by rw [← hU]; exact MapAt.made h
  have HB : Hid (Below w.heap.size w U) := by rw [← hU]; exact (Below.refl _ _).alloc (Nat.le_refl _) _
  have CN : Hid (∀ wa, IntRow wa (.slice ka K.length kc) K.length (getI K) → Calls Try.prog 59 #[.slice ka K.length kc, .func (.func 60) #[] #[]] wa fun e w' => e = .returned (.bool (K.any noDist)) ∧ wa = w') := fun wa h => cont_noDist _ K wa h
  have CP : Hid (∀ (n : Nat) r wa, (r = true ↔ placesP n K) → K.length = n * n → K.any noDist = false → n ≤ 8 → IntRow wa (.slice ka K.length kc) K.length (getI K) → Calls Try.prog 61 #[.agg #[.int .i64 n, .slice ka K.length kc]] wa fun e w' => e = .returned (.bool r) ∧ Below wa.heap.size wa w') := fun n r wa hr hl hc h8 h => hasPlaces_impl n _ K r wa hr hl (any_noDist.1 hc) h8 h
  have hR2 := hR.trans map_parts
  have HN := Lib.hid (boolF hR2)
  have HY := Lib.hid (boolT hR2)
  have HNK := Lib.hid hnk
  rw [hnk] at hkn hU HS CN CP HN HY ⊢
  clear h hR hR2 hnk
  obtain ⟨c0, c1⟩ := HS.out.cells
  by_cases h2 : 2 ≤ s
  case neg =>
    have g1 : decide (2 ≤ s) = false := decide_eq_false h2
    obtain rfl := HN.out (fun h => h2 h.1.1)
    clear HN HY h2
    go_enter Try.func17, Try.ntmps17
    go_wp2
    go_ret
    exact ⟨rfl, HB.out⟩
  have g1 : decide (2 ≤ s) = true := decide_eq_true h2
  by_cases h8 : s ≤ 8
  case neg =>
    have g2 : decide (s ≤ 8) = false := decide_eq_false h8
    obtain rfl := HN.out (fun h => h8 h.1.2)
    clear HN HY h2 h8
    go_enter Try.func17, Try.ntmps17
    go_wp2
    go_ret
    exact ⟨rfl, HB.out⟩
  have g2 : decide (s ≤ 8) = true := decide_eq_true h8
  obtain ⟨n, rfl⟩ : ∃ n : Nat, s = n := ⟨s.toNat, by omega⟩
  obtain ⟨q, hq⟩ : ∃ q : Nat, n * n = q := ⟨_, rfl⟩
  have hqi : (n : Int) * (n : Int) = (q : Int) := by rw [← hq]; exact (Int.natCast_mul n n).symm
  have hq64 : q ≤ 64 := by rw [← hq]; exact Nat.le_trans (Nat.mul_le_mul (show n ≤ 8 by omega) (show n ≤ 8 by omega)) (by decide)
  have HQ := Lib.hid hq
  rw [hqi, Int.toNat_natCast] at HN HY
  clear hq
  by_cases hne : nk = q
  case neg =>
    obtain rfl := HN.out (fun h => hne (by have h9 := h.2.1; omega))
    have g3 : ((nk : Int) == (q : Int)) = false := by simp; omega
    clear HN HY
    go_enter Try.func17, Try.ntmps17
    go_wp2
    go_ret
    exact ⟨rfl, HB.out⟩
  subst hne
  have g3 : ((nk : Int) == (nk : Int)) = true := by simp
  obtain ⟨r1, hr1⟩ : ∃ r, K.any noDist = r := ⟨_, rfl⟩
  obtain ⟨r2, hr2⟩ := boolEx (placesP n K)
  have CP2 : Hid (∀ wa, K.any noDist = false → IntRow wa (.slice ka nk kc) nk (getI K) → Calls Try.prog 61 #[.agg #[.int .i64 n, .slice ka nk kc]] wa fun e w' => e = .returned (.bool r2) ∧ Below wa.heap.size wa w') := fun wa h1 h => CP.out n r2 wa hr2 HQ.out.symm h1 (by omega) h
  have HRR : Hid (r1 = true → R = false) := fun e => HN.out (fun h => by have := h.2.2.1; rw [hr1, e] at this; cases this)
  have HRF : Hid (r1 = false → R = r2) := fun e => by
    cases r2 with
    | true => exact HY.out ⟨⟨h2, h8⟩, rfl, hr1.trans e, hr2.1 rfl⟩
    | false => exact HN.out (fun h => by have := hr2.2 h.2.2.2; cases this)
  have HR1 := Lib.hid hr1
  rw [hr1] at CN
  clear HN HY hr1 hr2 CP
  go_enter Try.func17, Try.ntmps17
  go_wp2_with fail
  clear hU
  refine (CN.out _ HS.out.2).mono ?_
  rintro e w1 ⟨rfl, rfl⟩
  clear CN
  cases r1 with
  | true =>
    obtain rfl := HRR.out rfl
    clear HRR HRF CP2
    go_wp2
    go_ret
    exact ⟨rfl, HB.out⟩
  | false =>
  obtain rfl := HRF.out rfl
  have CP3 := Lib.hid (CP2.out U HR1.out HS.out.2)
  clear HRR HRF CP2 HR1
  go_wp2_with fail
  refine CP3.out.mono ?_
  rintro e w2 ⟨rfl, b⟩
  have HB2 := Lib.hid (HB.out.trans (b.mono HB.out.size))
  clear b CP3
  go_wp2
  go_ret
  exact ⟨rfl, HB2.out⟩
set_option maxRecDepth 100000 in
set_option maxHeartbeats 4000000 in
theorem distanceOf_impl (s : Int) (vk : Value) (K : List Int) (a b : Int) (R : Bool) (w : World) (hR : R = true ↔ mapP s K ∧ (0 ≤ a ∧ a ≤ s - 1) ∧ (0 ≤ b ∧ b ≤ s - 1)) (h : IntRow w vk K.length (getI K)) :
    Calls Try.prog 21 #[.agg #[.int .i64 s, vk], .int .i64 a, .int .i64 b] w fun e w' => e = .returned (.int .i64 (distV R s K a b)) ∧ Below w.heap.size w w' := by
  obtain ⟨ka, kc, rfl, hkn, _⟩ := h.form
  obtain ⟨nk, hnk⟩ : ∃ nk, K.length = nk := ⟨_, rfl⟩
  obtain ⟨r1, hr1⟩ := boolEx (mapP s K)
  obtain ⟨U, hU⟩ : ∃ U, w.alloc (.cells #[.int .i64 s, .slice ka K.length kc] 26) = U := ⟨_, rfl⟩
  have HS : Hid (MapAt U w.heap.size s ka K.length kc K) := by rw [← hU]; exact MapAt.made h
  have bU : Below w.heap.size w U := by rw [← hU]; exact (Below.refl _ _).alloc (Nat.le_refl _) _
  have HB := Lib.hid bU
  have CM := Lib.hid (mapOk_impl s (.slice ka K.length kc) K r1 U hr1 (h.below bU (Nat.le_refl _)))
  have CT : Hid (∀ x r wa, (r = true ↔ 0 ≤ x ∧ x ≤ s - 1) → Calls Try.prog 64 #[.agg #[.int .i64 s, .slice ka nk kc], .int .i64 x] wa fun e w' => e = .returned (.bool r) ∧ Below wa.heap.size wa w') := fun x r wa hr => hasTeam_impl s _ x r wa hr ⟨_, _, _, rfl⟩
  have HNK := Lib.hid hnk
  have HR1 := Lib.hid hr1
  have HRR := Lib.hid hR
  have HV : Hid (distV R s K a b = if R = true then kmI s.toNat K a b else -1) := rfl
  rw [hnk] at hkn hU HS CM ⊢
  clear h hR hnk hr1 bU
  generalize distV R s K a b = V at *
  obtain ⟨c0, c1⟩ := HS.out.cells
  go_enter Try.func21, Try.ntmps21
  go_wp2_with fail
  clear hU
  refine CM.out.mono ?_
  rintro e w1 ⟨rfl, bb⟩
  have HS1 := Lib.hid (HS.out.below bb)
  have HB1 := Lib.hid (HB.out.trans (bb.mono HB.out.size))
  clear bb c0 c1 HS HB CM
  obtain ⟨c0, c1⟩ := HS1.out.cells
  cases r1 with
  | false =>
    have hf : R = false := by cases R with | false => rfl | true => have := HR1.out.2 (HRR.out.1 rfl).1; cases this
    have HVX : Hid (V = -1) := by show _ = _; rw [HV.out, hf]; rfl
    go_wp2
    go_ret
    exact ⟨by rw [HVX.out]; rfl, HB1.out⟩
  | true =>
  have HMP : Hid (mapP s K) := HR1.out.1 (by first | rfl | trivial)
  have hs := HMP.out.1
  obtain ⟨hs1, hs2⟩ := hs
  clear HR1
  obtain ⟨r2, hr2⟩ := boolEx (0 ≤ a ∧ a ≤ s - 1)
  have HR2 := Lib.hid hr2
  clear hr2
  go_wp2_with fail
  refine (CT.out _ r2 _ HR2.out).mono ?_
  rintro e w2 ⟨rfl, bb⟩
  have HS2 := Lib.hid (HS1.out.below bb)
  have HB2 := Lib.hid (HB1.out.trans (bb.mono HB1.out.size))
  clear bb c0 c1 HS1 HB1
  obtain ⟨c0, c1⟩ := HS2.out.cells
  cases r2 with
  | false =>
    have hf : R = false := by cases R with | false => rfl | true => have := HR2.out.2 (HRR.out.1 rfl).2.1; cases this
    have HVX : Hid (V = -1) := by show _ = _; rw [HV.out, hf]; rfl
    go_wp2
    go_ret
    exact ⟨by rw [HVX.out]; rfl, HB2.out⟩
  | true =>
  obtain ⟨r3, hr3⟩ := boolEx (0 ≤ b ∧ b ≤ s - 1)
  have HR3 := Lib.hid hr3
  clear hr3
  go_wp2_with fail
  refine (CT.out _ r3 _ HR3.out).mono ?_
  rintro e w3 ⟨rfl, bb⟩
  have HS3 := Lib.hid (HS2.out.below bb)
  have HB3 := Lib.hid (HB2.out.trans (bb.mono HB2.out.size))
  clear bb c0 c1 HS2 HB2
  obtain ⟨c0, c1⟩ := HS3.out.cells
  cases r3 with
  | false =>
    have hf : R = false := by cases R with | false => rfl | true => have := HR3.out.2 (HRR.out.1 rfl).2.2; cases this
    have HVX : Hid (V = -1) := by show _ = _; rw [HV.out, hf]; rfl
    go_wp2
    go_ret
    exact ⟨by rw [HVX.out]; rfl, HB3.out⟩
  | true =>
  have ha := HR2.out.1 (by first | rfl | trivial)
  have hb := HR3.out.1 (by first | rfl | trivial)
  have hf : R = true := HRR.out.2 ⟨HMP.out, ha, hb⟩
  obtain ⟨n, rfl⟩ : ∃ n : Nat, s = n := ⟨s.toNat, by omega⟩
  obtain ⟨a, rfl, ka9⟩ := nat_in ha
  obtain ⟨b, rfl, kb9⟩ := nat_in hb
  have HVX : Hid (V = getI K (a * n + b)) := by show _ = _; rw [HV.out, hf]; rfl
  have hl : K.length = n * n := by have h9 := HMP.out.metric.len; rw [Int.toNat_natCast] at h9; exact h9
  have CW := Lib.hid (way_impl n (.slice ka nk kc) K a b w3 hl (by omega) ka9 kb9 (by rw [HNK.out]; exact HS3.out.2))
  rw [← HVX.out] at CW
  clear HMP HR2 HR3 HRR HV hf HVX hl
  go_wp2_with fail
  refine CW.out.mono ?_
  rintro e w4 ⟨rfl, bb⟩
  have HB4 := Lib.hid (HB3.out.trans (bb.mono HB3.out.size))
  clear bb c0 c1
  go_wp2
  go_ret
  exact ⟨rfl, HB4.out⟩
end Go.Proofs.Ytfkfolglfmmkoaa
