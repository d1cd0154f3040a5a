/-
  Packed: TripImplC, Whole, TripImplD.
-/
import Derived.Laws.Rows
import Derived.Laws.Tables
import Derived.Laws.ResultCell
import Derived.Test.YtfkfolglfmmkoaaQ1
import Derived.Test.YtfkfolglfmmkoaaQ3
import Derived.Test.YtfkfolglfmmkoaaQ8
import Derived.Test.YtfkfolglfmmkoaaQ9
set_option linter.unusedVariables false
namespace Go.Proofs.Ytfkfolglfmmkoaa
open Go.RowKit

def afterV (x p : Int) : PairL → Int
  | [] => p
  | q :: r => if hm q = x ∨ aw q = x then hm q else afterV x p r
theorem afterV_cons (x p : Int) (q : tPair.D) (r : PairL) : afterV x p (q :: r) = if hm q = x ∨ aw q = x then hm q else afterV x p r := rfl
theorem after_host {x p : Int} : ∀ {r : PairL}, (∀ t ∈ teamsR r, 0 ≤ t) → afterV x p r = if 0 ≤ hostV x r then hostV x r else p
  | [], _ => rfl
  | q :: r, h => by
    rw [afterV_cons, hostV_cons]
    by_cases e : hm q = x ∨ aw q = x
    · rw [if_pos e, if_pos e, if_pos (h _ (by unfold teamsR; simp))]
    · rw [if_neg e, if_neg e]
      exact after_host (fun t ht => h t (by unfold teamsR; simp only [List.mem_cons]; exact .inr (.inr ht)))
def teamsIn (n : Nat) (D : List PairL) : Prop := List.length (α := PairL) D ≤ 14 ∧ ∀ r ∈ D, ∀ t ∈ teamsR r, 0 ≤ t ∧ t ≤ (n : Int) - 1
theorem teams_of {n : Nat} {D : List PairL} (h : schedP n D) : teamsIn n D := ⟨h.2.1, fun r hr => (h.2.2 r hr).1⟩
theorem teamsIn.hosts {n : Nat} (h2 : 0 < n) {D : List PairL} (h : teamsIn n D) : hostsP n D := ⟨h.1, fun r hr tm => by
  have h9 := hostV_in (x := tm) (h.2 r hr)
  omega⟩
set_option maxRecDepth 100000 in
set_option maxHeartbeats 2000000 in
theorem placeAfter_impl (v : Value) (r : PairL) (x p : Int) (w : World) (h : RdA tPairS w [v] r) :
    Calls Try.prog 106 #[v, .int .i64 x, .int .i64 p] w fun e w' => e = .returned (.int .i64 (afterV x p r)) ∧ Below w.heap.size w w' := by
  obtain ⟨a, c, rfl, hn⟩ := pairs_form h
  have HR := Lib.hid h
  clear h
  obtain ⟨n, hd⟩ : ∃ n, List.length (α := tPair.D) r = n := ⟨_, rfl⟩
  have HD := Lib.hid hd
  rw [hd] at hn ⊢
  clear hd
  go_enter Try.func106, Try.ntmps106
  go_wp2
  go_loopw [11] (fun iv wr => ∃ i : Nat, i ≤ n ∧ iv = .int .i64 i ∧ Hid (afterV x p (r.drop i) = afterV x p r) ∧ Hid (Below w.heap.size w wr)) (fun iv _ => n - (RowKit.intOf iv).toNat)
  case atStart => exact ⟨0, Nat.zero_le _, rfl, rfl, Below.refl _ _⟩
  case round =>
    obtain ⟨i, hi9, rfl, HV, HB⟩ := hrel
    by_cases hlt : i < n
    · obtain ⟨q, hq⟩ : ∃ q : tPair.D, r[i]? = some q := ⟨_, List.getElem?_eq_getElem (by rw [HD.out]; exact hlt)⟩
      have HV2 := HV.out
      rw [drop_at hq, afterV_cons] at HV2
      have HRr := HR.out.below HB.out
      obtain ⟨b, off, rfl, hcap, q0, q1⟩ := pair_cells HRr hq
      rw [HD.out] at hcap
      have hj1 : (i : Int) < (n : Int) := by omega
      have HV3 := Lib.hid HV2
      clear HV HV2 HRr hq
      generalize hm q = ph at *
      generalize aw q = pa at *
      have C := Lib.hid (venueOf_impl ph pa x)
      have b0 : Below wr.heap.size wr (wr.alloc (.cells #[.int .i64 ph, .int .i64 pa] 63)) := (Below.refl _ _).alloc (Nat.le_refl _) _
      have HX : Hid (BoxN (wr.alloc (.cells #[.int .i64 ph, .int .i64 pa] 63)) wr.heap.size [.int .i64 ph, .int .i64 pa]) := BoxN.made (Below.refl _ _) rfl
      have HB2 : Hid (Below w.heap.size w (wr.alloc (.cells #[.int .i64 ph, .int .i64 pa] 63))) := HB.out.alloc HB.out.size _
      clear b0
      by_cases hm9 : ph = x ∨ pa = x
      · have HVx : Hid (afterV x p r = ph) := HV3.out.symm.trans (if_pos hm9)
        have hz : venueP ph pa x ≠ 0 := by
          unfold venueP
          by_cases h1 : ph = x
          · rw [if_pos h1]; decide
          · rw [if_neg h1, if_pos (hm9.resolve_left h1)]; decide
        have gz : (venueP ph pa x != 0) = true := by simpa using hz
        clear HV3 hm9 hz
        generalize venueP ph pa x = z at *
        go_wp2_with fail
        refine (C.out _).mono ?_
        rintro e w1 ⟨rfl, b1⟩
        have HB3 := Lib.hid (HB2.out.trans (b1.mono HB2.out.size))
        have d0 := ((HX.out.below b1).2 0 _ rfl)
        clear b1 C HB2 HX
        go_wp2
        go_ret
        exact ⟨by rw [HVx.out]; rfl, HB3.out⟩
      · have HVx : Hid (afterV x p (r.drop (i + 1)) = afterV x p r) := by show _ = _; rw [← HV3.out]; exact (if_neg hm9).symm
        have hz : venueP ph pa x = 0 := by
          unfold venueP
          rw [if_neg fun e => hm9 (.inl e), if_neg fun e => hm9 (.inr e)]
        have gz : (venueP ph pa x != 0) = false := by rw [hz]; rfl
        clear HV3 hm9 hz HX
        generalize venueP ph pa x = z at *
        go_wp2_with fail
        refine (C.out _).mono ?_
        rintro e w1 ⟨rfl, b1⟩
        have HB3 := Lib.hid (HB2.out.trans (b1.mono HB2.out.size))
        clear b1 C HB2
        go_wp2
        go_roundw
        case rel => exact ⟨i + 1, by omega, by go_num, HVx, HB3⟩
        case measure => simp [RowKit.intOf]; omega
    obtain rfl : i = n := by omega
    have HVx : Hid (afterV x p r = p) := by show _ = _; rw [← HV.out, List.drop_of_length_le (by have := HD.out; omega)]; rfl
    go_wp2
    go_ret
    exact ⟨by rw [HVx.out]; rfl, HB.out⟩
set_option maxRecDepth 100000 in
set_option maxHeartbeats 4000000 in
theorem trip_impl (n : Nat) (vk : Value) (K : List Int) (vr : Value) (D : List PairL) (t : Nat) (w : World) (M : Metric n K) (HH : teamsIn n D) (ht : t < n) (h : IntRow w vk K.length (getI K)) (hr : RdA tPairSS w [vr] D) :
    Calls Try.prog 65 #[.agg #[.int .i64 n, vk], vr, .int .i64 t] w fun e w' => e = .returned (.int .i64 (tripT n K D t)) ∧ Below w.heap.size w w' := by
  obtain ⟨ka, kc, rfl, hkn, _⟩ := h.form
  obtain ⟨ra, rc, rfl, hrn⟩ := schedule_form hr
  obtain ⟨nk, hnk⟩ : ∃ nk, K.length = nk := ⟨_, rfl⟩
  obtain ⟨nr, hnr⟩ : ∃ nr, List.length (α := PairL) D = nr := ⟨_, rfl⟩
  obtain ⟨U, hU⟩ : ∃ U, w.alloc (.cells #[.int .i64 n, .slice ka K.length kc] 26) = U := ⟨_, rfl⟩
  have bU : Below w.heap.size w U := by rw [← hU]; exact (Below.refl _ _).alloc (Nat.le_refl _) _
  have HS : Hid (MapAt U w.heap.size n ka K.length kc K) := by rw [← hU]; exact MapAt.made h
  have HR : Hid (RdA tPairSS U [.slice ra (List.length (α := PairL) D) rc] D) := hr.below bU
  have HB := Lib.hid bU
  have HHH := Lib.hid HH
  have HNR := Lib.hid hnr
  have h14 : nr ≤ 14 := by rw [← hnr]; exact HH.1
  have h8 := M.eight
  have HKB : Hid (∀ x y : Nat, x < n → y < n → 0 ≤ getI K (x * n + y) ∧ getI K (x * n + y) ≤ 5000) := fun x y hx hy => km_bnd M hx hy
  have HK0 : Hid (∀ x : Nat, x < n → getI K (x * n + x) = 0) := fun x hx => M.self x (by omega) (by omega)
  have HCP := Lib.hid (fun v r x p wa h => placeAfter_impl v r x p wa h)
  have CW : Hid (∀ (x y : Nat) wa, x < n → y < n → IntRow wa (.slice ka K.length kc) K.length (getI K) → Calls Try.prog 56 #[.agg #[.int .i64 n, .slice ka K.length kc], .int .i64 x, .int .i64 y] wa fun e w' => e = .returned (.int .i64 (getI K (x * n + y))) ∧ Below wa.heap.size wa w') := fun x y wa hx hy hw => way_impl n _ K x y wa M.len h8 hx hy hw
  obtain ⟨W, hW⟩ : ∃ W, tripT n K D t = W := ⟨_, rfl⟩
  have HW0 : Hid ((0 : Int) + wayT n K t t (D.drop 0) = W) := by show _ = _; rw [Int.zero_add]; exact hW
  rw [hnk] at hkn hU HS CW ⊢
  rw [hnr] at hrn HR ⊢
  rw [hW]
  clear h hr hnk hnr bU M HH hW
  obtain ⟨c0, c1⟩ := HS.out.cells
  go_enter Try.func65, Try.ntmps65
  go_wp2
  clear hU c0 c1
  go_loopw [7, 8, 15] (fun sv av iv wr => ∃ (k p : Nat) (s : Int), k ≤ nr ∧ iv = .int .i64 k ∧ av = .int .i64 p ∧ sv = .int .i64 s ∧ p < n ∧ 0 ≤ s ∧ s ≤ 5000 * k ∧ Hid (s + wayT n K t p (D.drop k) = W) ∧ Hid (Below U.heap.size U wr)) (fun _ _ iv _ => nr - (RowKit.intOf iv).toNat)
  case atStart => exact ⟨0, t, 0, Nat.zero_le _, rfl, rfl, rfl, ht, Int.le_refl _, by omega, HW0, Below.refl _ _⟩
  case round =>
    clear HW0
    obtain ⟨k, p, s, hk9, rfl, rfl, rfl, hp, hs0, hs5, HV, HBr⟩ := hrel
    have HSr := Lib.hid (HS.out.below HBr.out)
    by_cases hlt : k < nr
    · obtain ⟨r, hrr⟩ : ∃ r : PairL, D[k]? = some r := ⟨_, List.getElem?_eq_getElem (by rw [HNR.out]; exact hlt)⟩
      have HRr : Hid (RdA tPairSS wr [.slice ra (List.length (α := PairL) D) rc] D) := by rw [HNR.out]; exact HR.out.below HBr.out
      obtain ⟨rb, ro, xa, xc, hra, hcap2, hq, hrd, hx63⟩ := round_cells HRr.out hrr
      subst hra
      rw [HNR.out] at hcap2
      have hj1 : (k : Int) < (nr : Int) := by omega
      have htm := HHH.out.2 r (List.mem_of_getElem? hrr)
      have hbd := hostV_in (x := (t : Int)) htm
      obtain ⟨q, hq9, hqn⟩ : ∃ q : Nat, afterV t p r = q ∧ q < n := by
        rw [after_host fun x hx => (htm x hx).1]
        by_cases e : 0 ≤ hostV t r
        · rw [if_pos e]; exact ⟨(hostV t r).toNat, by omega, by omega⟩
        · rw [if_neg e]; exact ⟨p, rfl, hp⟩
      have HV2 : Hid (s + getI K (p * n + q) + wayT n K t q (D.drop (k + 1)) = W) := by
        show _ = _
        rw [← HV.out, drop_at hrr, wayT_cons]
        have e9 := after_host (x := (t : Int)) (p := (p : Int)) fun x hx => (htm x hx).1
        rw [hq9] at e9
        by_cases e : 0 ≤ hostV t r
        · rw [if_pos e] at e9 ⊢
          rw [← e9]
          have : kmI n K (p : Int) (q : Int) = getI K (p * n + q) := rfl
          omega
        · rw [if_neg e] at e9 ⊢
          have : q = p := by omega
          subst this
          rw [HK0.out q hqn]
          omega
      have CP := Lib.hid (HCP.out _ r t p wr hrd)
      rw [hq9] at CP
      obtain ⟨x1, hx1⟩ : ∃ x, getI K (p * n + q) = x := ⟨_, rfl⟩
      have hkb := HKB.out p q hp hqn
      have CWQ := Lib.hid (fun wa => CW.out p q wa hp hqn)
      rw [hx1] at HV2 hkb CWQ
      clear hrr hrd HV htm hbd hq9 hx1
      generalize hxl : List.length (α := tPair.D) r = xn at *
      clear hxl
      obtain ⟨c0, c1⟩ := HSr.out.cells
      go_wp2_with fail
      refine CP.out.mono ?_
      rintro e w1 ⟨rfl, b⟩
      have HB1 := Lib.hid (HBr.out.trans (b.mono HBr.out.size))
      have HS1 := Lib.hid (HSr.out.below b)
      clear b c0 c1 hq CP
      obtain ⟨c0, c1⟩ := HS1.out.cells
      go_wp2_with fail
      refine (CWQ.out _ HS1.out.2).mono ?_
      rintro e w2 ⟨rfl, b⟩
      have HB2 := Lib.hid (HB1.out.trans (b.mono HB1.out.size))
      clear b c0 c1 CWQ
      have s1 : IntKind.i64.wrap (s + x1) = s + x1 := IntWalk.i64_in _ (by omega)
      go_wp2
      go_roundw
      case rel => exact ⟨k + 1, q, s + x1, by omega, by go_num, rfl, rfl, hqn, by omega, by omega, HV2, HB2⟩
      case measure => simp [RowKit.intOf]; omega
    obtain rfl : k = nr := by omega
    have hkb := HKB.out p t hp ht
    have CWQ := Lib.hid (fun wa => CW.out p t wa hp ht)
    have HVx : Hid (W = s + getI K (p * n + t)) := by
      show _ = _
      rw [← HV.out, List.drop_of_length_le (by have := HNR.out; omega)]
      rfl
    generalize getI K (p * n + t) = x at *
    obtain ⟨c0, c1⟩ := HSr.out.cells
    go_wp2_with fail
    refine (CWQ.out _ HSr.out.2).mono ?_
    rintro e w2 ⟨rfl, b⟩
    have HB2 := Lib.hid (HBr.out.trans (b.mono HBr.out.size))
    clear b c0 c1 CWQ
    have s1 : IntKind.i64.wrap (s + x) = s + x := IntWalk.i64_in _ (by omega)
    go_wp2
    go_ret
    exact ⟨by rw [HVx.out]; rfl, HB.out.trans (HB2.out.mono HB.out.size)⟩
set_option maxRecDepth 100000 in
set_option maxHeartbeats 4000000 in
theorem travel_impl (n : Nat) (vk : Value) (K : List Int) (vr : Value) (D : List PairL) (w : World) (M : Metric n K) (HH : teamsIn n D) (h : IntRow w vk K.length (getI K)) (hr : RdA tPairSS w [vr] D) :
    Calls Try.prog 62 #[.agg #[.int .i64 n, vk], vr] w fun e w' => e = .returned (.int .i64 (travT n K D)) ∧ Below w.heap.size w w' := by
  obtain ⟨ka, kc, rfl, hkn, _⟩ := h.form
  obtain ⟨nk, hnk⟩ : ∃ nk, K.length = nk := ⟨_, rfl⟩
  obtain ⟨U, hU⟩ : ∃ U, w.alloc (.cells #[.int .i64 n, .slice ka K.length kc] 26) = U := ⟨_, rfl⟩
  have bU : Below w.heap.size w U := by rw [← hU]; exact (Below.refl _ _).alloc (Nat.le_refl _) _
  have HS : Hid (MapAt U w.heap.size n ka K.length kc K) := by rw [← hU]; exact MapAt.made h
  have HR : Hid (RdA tPairSS U [vr] D) := hr.below bU
  have HB := Lib.hid bU
  have CT : Hid (∀ (t : Nat) wa, t < n → IntRow wa (.slice ka nk kc) nk (getI K) → RdA tPairSS wa [vr] D → Calls Try.prog 65 #[.agg #[.int .i64 n, .slice ka nk kc], vr, .int .i64 t] wa fun e w' => e = .returned (.int .i64 (tripT n K D t)) ∧ Below wa.heap.size wa w') := fun t wa ht h1 h2 => trip_impl n _ K vr D t wa M HH ht (by rw [hnk]; exact h1) h2
  have hh : hostsP n D := HH.hosts (by have := M.two; omega)
  have HBD : Hid (∀ t, t < n → 0 ≤ tripT n K D t ∧ tripT n K D t ≤ 75000) := fun t ht => by
    have h9 := wayT_bnd M (tm := t) ⟨by omega, by omega⟩ D t (fun r hr => hh.2 r hr t) ⟨by omega, by omega⟩
    have := HH.1
    unfold tripT
    omega
  have HSB : Hid (∀ k, k ≤ n → 0 ≤ sumZN (fun t => tripT n K D t) k ∧ sumZN (fun t => tripT n K D t) k ≤ 600000) := fun k hk => by
    have h9 := sumZN_bnd (f := fun t => tripT n K D t) (n := n) (lo := 0) (hi := 75000) (fun t ht => HBD.out t ht) k hk
    have := M.eight
    omega
  have h8 := M.eight
  have HST : Hid (∀ t, sumZN (fun t => tripT n K D t) (t + 1) = sumZN (fun t => tripT n K D t) t + tripT n K D t) := fun t => rfl
  have HS0 : Hid (sumZN (fun t => tripT n K D t) 0 = 0) := rfl
  unfold travT
  generalize sumZN (fun t => tripT n K D t) = SS at *
  obtain ⟨ra, rc, hvr, hrn⟩ := schedule_form hr
  subst hvr
  rw [hnk] at hkn hU HS ⊢
  generalize hdl : List.length (α := PairL) D = nd at *
  clear h hr hnk bU M HH hh hdl
  obtain ⟨c0, c1⟩ := HS.out.cells
  go_enter Try.func62, Try.ntmps62
  go_wp2
  clear hU c0 c1
  go_loopw [5, 9] (fun sv tv wr => ∃ (t : Nat) (s : Int), t ≤ n ∧ tv = .int .i64 t ∧ sv = .int .i64 s ∧ Hid (s = SS t) ∧ Hid (Below U.heap.size U wr)) (fun _ tv _ => n - (RowKit.intOf tv).toNat)
  case atStart => exact ⟨0, 0, Nat.zero_le _, rfl, rfl, HS0.out.symm, Below.refl _ _⟩
  case round =>
    obtain ⟨t, s, ht9, rfl, rfl, HV, HBr⟩ := hrel
    have HSr := Lib.hid (HS.out.below HBr.out)
    obtain ⟨c0, c1⟩ := HSr.out.cells
    by_cases hlt : t < n
    · have hj1 : (t : Int) < (n : Int) := by omega
      have hb1 := HBD.out t hlt
      have hb2 := HSB.out t ht9
      rw [← HV.out] at hb2
      have HVN : Hid (s + tripT n K D t = SS (t + 1)) := by show _ = _; rw [HST.out, ← HV.out]
      have CTt := Lib.hid (CT.out t wr hlt HSr.out.2 (HR.out.below HBr.out))
      generalize tripT n K D t = x at *
      go_wp2_with fail
      refine CTt.out.mono ?_
      rintro e w1 ⟨rfl, b⟩
      have HB1 := Lib.hid (HBr.out.trans (b.mono HBr.out.size))
      clear b c0 c1 CTt
      have s1 : IntKind.i64.wrap (s + x) = s + x := IntWalk.i64_in _ (by omega)
      go_wp2
      go_roundw
      case rel => exact ⟨t + 1, s + x, by omega, by go_num, rfl, HVN, HB1⟩
      case measure => simp [RowKit.intOf]; omega
    obtain rfl : t = n := by omega
    go_wp2
    go_ret
    exact ⟨by rw [← HV.out]; rfl, HB.out.trans (HBr.out.mono HB.out.size)⟩
set_option maxRecDepth 100000 in
set_option maxHeartbeats 4000000 in
theorem isJourney_impl (s : Int) (vk : Value) (K : List Int) (vr : Value) (D : List PairL) (R : Bool) (w : World) (hR : R = true ↔ mapP s K ∧ schedP s D) (h : IntRow w vk K.length (getI K)) (hr : RdA tPairSS w [vr] D) (hw : tPairSS.wt D ≤ 1048576) :
    Calls Try.prog 47 #[.agg #[.int .i64 s, vk], vr] w fun e w' => e = .returned (.bool R) ∧ Below w.heap.size w w' := by
  obtain ⟨ka, kc, rfl, hkn, _⟩ := h.form
  obtain ⟨nk, hnk⟩ : ∃ nk, K.length = nk := ⟨_, rfl⟩
  obtain ⟨r1, hr1⟩ := boolEx (mapP s K)
  obtain ⟨r2, hr2⟩ := boolEx (schedP s D)
  obtain ⟨U, hU⟩ : ∃ U, w.alloc (.cells #[.int .i64 s, .slice ka K.length kc] 26) = U := ⟨_, rfl⟩
  have HS : Hid (MapAt U w.heap.size s ka K.length kc K) := by rw [← hU]; exact MapAt.made h
  have bU : Below w.heap.size w U := by rw [← hU]; exact (Below.refl _ _).alloc (Nat.le_refl _) _
  have HB := Lib.hid bU
  have HR : Hid (RdA tPairSS U [vr] D) := hr.below bU
  have CM := Lib.hid (mapOk_impl s (.slice ka K.length kc) K r1 U hr1 (h.below bU (Nat.le_refl _)))
  have CS := Lib.hid (fun wa h => isSchedule_impl vr D s r2 wa hr2 h hw)
  have HF : Hid (R = (r1 && r2)) := by
    show _ = _
    cases r1 <;> cases r2 <;> first | (exact hR.2 ⟨hr1.1 rfl, hr2.1 rfl⟩) | (refine boolF hR ?_; rintro ⟨a, b⟩; first | exact absurd (hr1.2 a) (by decide) | exact absurd (hr2.2 b) (by decide))
  rw [hnk] at hkn hU HS CM ⊢
  clear h hr hR hnk hr1 hr2 bU hw
  obtain ⟨c0, c1⟩ := HS.out.cells
  go_enter Try.func47, Try.ntmps47
  go_wp2_with fail
  clear hU
  refine CM.out.mono ?_
  rintro e w1 ⟨rfl, bb⟩
  have HS1 := Lib.hid (HS.out.below bb)
  have HRA := Lib.hid (HR.out.below bb)
  have HB1 := Lib.hid (HB.out.trans (bb.mono HB.out.size))
  clear bb c0 c1 HS HB CM HR
  obtain ⟨c0, c1⟩ := HS1.out.cells
  cases r1 with
  | false =>
    go_wp2
    go_ret
    exact ⟨by rw [HF.out]; rfl, HB1.out⟩
  | true =>
  go_wp2_with fail
  refine (CS.out _ HRA.out).mono ?_
  rintro e w2 ⟨rfl, bb⟩
  have HB2 := Lib.hid (HB1.out.trans (bb.mono HB1.out.size))
  clear bb c0 c1 HS1 HB1 HRA CS
  have HF2 : Hid (R = r2) := HF.out
  clear HF
  go_wp2
  go_ret
  exact ⟨by rw [HF2.out]; rfl, HB2.out⟩
set_option maxRecDepth 100000 in
set_option maxHeartbeats 4000000 in
theorem tripOf_impl (s : Int) (vk : Value) (K : List Int) (vr : Value) (D : List PairL) (tm : Int) (R : Bool) (w : World) (hR : R = true ↔ mapP s K ∧ schedP s D ∧ (0 ≤ tm ∧ tm ≤ s - 1)) (h : IntRow w vk K.length (getI K)) (hr : RdA tPairSS w [vr] D) (hw : tPairSS.wt D ≤ 1048576) :
    Calls Try.prog 20 #[.agg #[.int .i64 s, vk], vr, .int .i64 tm] w fun e w' => e = .returned (.int .i64 (tripV R s K D tm)) ∧ Below w.heap.size w w' := by
  obtain ⟨ka, kc, rfl, hkn, _⟩ := h.form
  obtain ⟨nk, hnk⟩ : ∃ nk, K.length = nk := ⟨_, rfl⟩
  obtain ⟨r1, hr1⟩ := boolEx (mapP s K ∧ schedP s D)
  obtain ⟨r2, hr2⟩ := boolEx (0 ≤ tm ∧ tm ≤ s - 1)
  obtain ⟨U, hU⟩ : ∃ U, w.alloc (.cells #[.int .i64 s, .slice ka K.length kc] 26) = U := ⟨_, rfl⟩
  have HS : Hid (MapAt U w.heap.size s ka K.length kc K) := by rw [← hU]; exact MapAt.made h
  have bU : Below w.heap.size w U := by rw [← hU]; exact (Below.refl _ _).alloc (Nat.le_refl _) _
  have HB := Lib.hid bU
  have HR : Hid (RdA tPairSS U [vr] D) := hr.below bU
  have CJ := Lib.hid (isJourney_impl s (.slice ka K.length kc) K vr D r1 U hr1 (h.below bU (Nat.le_refl _)) (hr.below bU) hw)
  have CT : Hid (∀ wa, Calls Try.prog 64 #[.agg #[.int .i64 s, .slice ka nk kc], .int .i64 tm] wa fun e w' => e = .returned (.bool r2) ∧ Below wa.heap.size wa w') := fun wa => hasTeam_impl s _ tm r2 wa hr2 ⟨_, _, _, rfl⟩
  have HNK := Lib.hid hnk
  have HR1 := Lib.hid hr1
  have HR2 := Lib.hid hr2
  have HRR := Lib.hid hR
  have HV : Hid (tripV R s K D tm = if R = true then tripT s.toNat K D tm else -1) := rfl
  rw [hnk] at hkn hU HS CJ ⊢
  clear h hr hR hnk hr1 hr2 bU hw
  generalize tripV R s K D tm = V at *
  obtain ⟨c0, c1⟩ := HS.out.cells
  go_enter Try.func20, Try.ntmps20
  go_wp2_with fail
  clear hU
  refine CJ.out.mono ?_
  rintro e w1 ⟨rfl, bb⟩
  have HS1 := Lib.hid (HS.out.below bb)
  have HRA := Lib.hid (HR.out.below bb)
  have HB1 := Lib.hid (HB.out.trans (bb.mono HB.out.size))
  clear bb c0 c1 HS HB CJ HR
  obtain ⟨c0, c1⟩ := HS1.out.cells
  cases r1 with
  | false =>
    have hf : R = false := by cases R with | false => rfl | true => have h9 := HRR.out.1 rfl; have := HR1.out.2 ⟨h9.1, h9.2.1⟩; cases this
    have HVX : Hid (V = -1) := by show _ = _; rw [HV.out, hf]; rfl
    go_wp2
    go_ret
    exact ⟨by rw [HVX.out]; rfl, HB1.out⟩
  | true =>
  have HMS := Lib.hid (HR1.out.1 (by first | rfl | trivial))
  clear HR1
  go_wp2_with fail
  refine (CT.out _).mono ?_
  rintro e w2 ⟨rfl, bb⟩
  have HS2 := Lib.hid (HS1.out.below bb)
  have HRB := Lib.hid (HRA.out.below bb)
  have HB2 := Lib.hid (HB1.out.trans (bb.mono HB1.out.size))
  clear bb c0 c1 HS1 HB1 HRA CT
  obtain ⟨c0, c1⟩ := HS2.out.cells
  cases r2 with
  | false =>
    have hf : R = false := by cases R with | false => rfl | true => have := HR2.out.2 (HRR.out.1 rfl).2.2; cases this
    have HVX : Hid (V = -1) := by show _ = _; rw [HV.out, hf]; rfl
    go_wp2
    go_ret
    exact ⟨by rw [HVX.out]; rfl, HB2.out⟩
  | true =>
  have ht := HR2.out.1 (by first | rfl | trivial)
  have hf : R = true := HRR.out.2 ⟨HMS.out.1, HMS.out.2, ht⟩
  obtain ⟨n, rfl⟩ : ∃ n : Nat, s = n := ⟨s.toNat, by have := HMS.out.1.1; omega⟩
  obtain ⟨t, rfl, kt⟩ := nat_in ht
  have HMM : Hid (Metric n K) := by have h9 := HMS.out.1.metric; rw [Int.toNat_natCast] at h9; exact h9
  have HVX : Hid (V = tripT n K D t) := by show _ = _; rw [HV.out, hf, if_pos rfl, Int.toNat_natCast]
  have CTT := Lib.hid (trip_impl n (.slice ka nk kc) K vr D t w2 HMM.out (teams_of HMS.out.2) kt (by rw [HNK.out]; exact HS2.out.2) HRB.out)
  rw [← HVX.out] at CTT
  clear HR2 HRR HV hf ht HMS
  go_wp2_with fail
  refine CTT.out.mono ?_
  rintro e w3 ⟨rfl, bb⟩
  have HB3 := Lib.hid (HB2.out.trans (bb.mono HB2.out.size))
  clear bb c0 c1
  go_wp2
  go_ret
  exact ⟨rfl, HB3.out⟩
set_option maxRecDepth 100000 in
set_option maxHeartbeats 4000000 in
theorem totalTravel_impl (s : Int) (vk : Value) (K : List Int) (vr : Value) (D : List PairL) (R : Bool) (w : World) (hR : R = true ↔ mapP s K ∧ schedP s D) (h : IntRow w vk K.length (getI K)) (hr : RdA tPairSS w [vr] D) (hw : tPairSS.wt D ≤ 1048576) :
    Calls Try.prog 18 #[.agg #[.int .i64 s, vk], vr] w fun e w' => e = .returned (.int .i64 (travV R s K D)) ∧ Below w.heap.size w w' := by
  obtain ⟨ka, kc, rfl, hkn, _⟩ := h.form
  obtain ⟨nk, hnk⟩ : ∃ nk, K.length = nk := ⟨_, rfl⟩
  obtain ⟨U, hU⟩ : ∃ U, w.alloc (.cells #[.int .i64 s, .slice ka K.length kc] 26) = U := ⟨_, rfl⟩
  have HS : Hid (MapAt U w.heap.size s ka K.length kc K) := by rw [← hU]; exact MapAt.made h
  have bU : Below w.heap.size w U := by rw [← hU]; exact (Below.refl _ _).alloc (Nat.le_refl _) _
  have HB := Lib.hid bU
  have HR : Hid (RdA tPairSS U [vr] D) := hr.below bU
  have CJ := Lib.hid (isJourney_impl s (.slice ka K.length kc) K vr D R U hR (h.below bU (Nat.le_refl _)) (hr.below bU) hw)
  have HNK := Lib.hid hnk
  have HRR := Lib.hid hR
  have HV : Hid (travV R s K D = if R = true then travT s.toNat K D else -1) := rfl
  rw [hnk] at hkn hU HS CJ ⊢
  clear h hr hR hnk bU hw
  generalize travV R s K D = V at *
  obtain ⟨c0, c1⟩ := HS.out.cells
  go_enter Try.func18, Try.ntmps18
  go_wp2_with fail
  clear hU
  refine CJ.out.mono ?_
  rintro e w1 ⟨rfl, bb⟩
  have HS1 := Lib.hid (HS.out.below bb)
  have HRA := Lib.hid (HR.out.below bb)
  have HB1 := Lib.hid (HB.out.trans (bb.mono HB.out.size))
  clear bb c0 c1 HS HB CJ HR
  obtain ⟨c0, c1⟩ := HS1.out.cells
  cases R with
  | false =>
    have HVX : Hid (V = -1) := HV.out
    clear HRR HV
    go_wp2
    go_ret
    exact ⟨by rw [HVX.out]; rfl, HB1.out⟩
  | true =>
  have HMS := Lib.hid (HRR.out.1 (by first | rfl | trivial))
  obtain ⟨n, rfl⟩ : ∃ n : Nat, s = n := ⟨s.toNat, by have := HMS.out.1.1; omega⟩
  have HMM : Hid (Metric n K) := by have h9 := HMS.out.1.metric; rw [Int.toNat_natCast] at h9; exact h9
  have HVX : Hid (V = travT n K D) := by show _ = _; rw [HV.out, if_pos rfl, Int.toNat_natCast]
  have CTT := Lib.hid (travel_impl n (.slice ka nk kc) K vr D w1 HMM.out (teams_of HMS.out.2) (by rw [HNK.out]; exact HS1.out.2) HRA.out)
  rw [← HVX.out] at CTT
  clear HRR HV HMS
  go_wp2_with fail
  refine CTT.out.mono ?_
  rintro e w3 ⟨rfl, bb⟩
  have HB3 := Lib.hid (HB1.out.trans (bb.mono HB1.out.size))
  clear bb c0 c1
  go_wp2
  go_ret
  exact ⟨rfl, HB3.out⟩
end Go.Proofs.Ytfkfolglfmmkoaa
set_option linter.unusedVariables false
namespace Go.Proofs.Ytfkfolglfmmkoaa
open Go.RowKit

def Whole (w : World) (B : Nat) (cs : Array Value) (t : TypeId) : Prop := w.heap[B]? = some (.cells cs t (0, 0))
theorem Whole.lt {w : World} {B : Nat} {cs : Array Value} {t : TypeId} (h : Whole w B cs t) : B < w.heap.size := (Array.getElem?_eq_some_iff.1 h).1
theorem Whole.made (w : World) (cs : Array Value) (t : TypeId) : Whole (w.alloc (.cells cs t)) w.heap.size cs t := by
  show (w.heap.push _)[w.heap.size]? = _
  simp
theorem Whole.below {w w' : World} {B : Nat} {cs : Array Value} {t : TypeId} (h : Whole w B cs t) (hb : Below w.heap.size w w') : Whole w' B cs t := (hb.block B h.lt).trans h
theorem Whole.low {w w' : World} {B base : Nat} {cs : Array Value} {t : TypeId} (h : Whole w B cs t) (hb : Below base w w') (hB : B < base) : Whole w' B cs t := (hb.block B hB).trans h
theorem Whole.cell {w : World} {B j : Nat} {cs : Array Value} {t : TypeId} (h : Whole w B cs t) {v : Value} (hv : cs[j]? = some v) : w.cell? ⟨B, j, none⟩ = some v := (cell_of_row w B j cs t (0, 0) h).trans hv
theorem Whole.free {w : World} {B : Nat} {cs : Array Value} {t : TypeId} (h : Whole w B cs t) (j : Nat) : w.frozen? ⟨B, j, none⟩ = false := frozen_of_row w B j cs t h
theorem Whole.set {w : World} {B : Nat} {cs : Array Value} {t : TypeId} (h : Whole w B cs t) (j : Nat) (v : Value) : Whole (w.setCell ⟨B, j, none⟩ v) B (cs.setIfInBounds j v) t := by
  show (w.heap.modify B _)[B]? = _
  rw [Array.getElem?_modify, if_pos rfl, show w.heap[B]? = _ from h]
  rfl
theorem Whole.other {w : World} {B : Nat} {cs : Array Value} {t : TypeId} (h : Whole w B cs t) (a : Addr) (v : Value) (hne : a.block ≠ B) : Whole (w.setCell a v) B cs t := by
  show (w.heap.modify a.block _)[B]? = _
  rw [Array.getElem?_modify, if_neg hne]
  exact h
theorem Whole.setRow {w : World} {B : Nat} {cs ds : Array Value} {t : TypeId} (h : Whole w B cs t) : Whole (w.setRow B ds) B ds t := setRow_heap w B cs ds t (0, 0) h
theorem below_setRow {w w' : World} {base B : Nat} {ds : Array Value} (h : Below base w w') (hB : base ≤ B) : Below base w (w'.setRow B ds) :=
  ⟨h.os, h.tape, h.output, by simpa [World.setRow] using h.size, fun k hk => (setRow_other w' B k ds (by omega)).trans (h.block k hk)⟩
theorem results_cell1 {fn : Func} {p : Tmp} {ty : TypeId} (h : fn.results = #[.cell p ty]) {tmps : Array Value} {P : Program} {w : World} {B : Nat} {v : Value} (ha : tmps.getD p undef = .pointer (some ⟨B, 0, none⟩)) (hl : (loadVar ty ⟨B, 0, none⟩).run P w = .ok v w) :
    (results fn tmps).run P w = .ok v w := by
  simp only [results, h]
  simp [asAddr, -Array.getD_eq_getD_getElem?, ha, hl]
end Go.Proofs.Ytfkfolglfmmkoaa
set_option linter.unusedVariables false
namespace Go.Proofs.Ytfkfolglfmmkoaa
open Go.RowKit

theorem teams_mem {p : tPair.D} : ∀ {r : PairL}, p ∈ (r : List tPair.D) → hm p ∈ teamsR r ∧ aw p ∈ teamsR r
  | q :: r, h => by
    rcases List.mem_cons.1 h with h | h
    · subst h
      exact ⟨List.mem_cons_self .., List.mem_cons_of_mem _ (List.mem_cons_self ..)⟩
    · have h9 := teams_mem h
      exact ⟨List.mem_cons_of_mem _ (List.mem_cons_of_mem _ h9.1), List.mem_cons_of_mem _ (List.mem_cons_of_mem _ h9.2)⟩
def IntZ (cs : Array Value) (K : Nat) (C : Nat → Int) : Prop := cs.size = K ∧ ∀ j, j < K → cs[j]? = some (.int .i64 (C j))
theorem IntZ.congr {cs : Array Value} {K : Nat} {C D : Nat → Int} (h : IntZ cs K C) (e : ∀ j, j < K → C j = D j) : IntZ cs K D := ⟨h.1, fun j hj => by rw [h.2 j hj, e j hj]⟩
theorem IntZ.set {cs : Array Value} {K : Nat} {C : Nat → Int} (h : IntZ cs K C) (m : Nat) (x : Int) (hm : m < K) : IntZ (cs.setIfInBounds m (.int .i64 x)) K (fun j => if j = m then x else C j) := by
  refine ⟨by rw [Array.size_setIfInBounds]; exact h.1, fun j hj => ?_⟩
  rw [Array.getElem?_setIfInBounds]
  by_cases e : m = j
  · subst e
    rw [if_pos rfl, if_pos (by rw [h.1]; exact hj)]
    show _ = some (Value.int .i64 (if m = m then x else C m))
    rw [if_pos rfl]
  · rw [if_neg e]
    show _ = some (Value.int .i64 (if j = m then x else C j))
    rw [if_neg (Ne.symm e)]
    exact h.2 j hj
theorem IntZ.eight {cs : Array Value} {G : Nat → Int} (h : IntZ cs 8 G) : cs = #[.int .i64 (G 0), .int .i64 (G 1), .int .i64 (G 2), .int .i64 (G 3), .int .i64 (G 4), .int .i64 (G 5), .int .i64 (G 6), .int .i64 (G 7)] := by
  obtain ⟨hs, hc⟩ := h
  refine Array.ext_getElem? fun j => ?_
  by_cases hj : j < 8
  · rw [hc j hj]
    rcases j with _ | _ | _ | _ | _ | _ | _ | _ | j
    all_goals first | rfl | omega
  · rw [Array.getElem?_eq_none (by omega), Array.getElem?_eq_none (by show 8 ≤ j; omega)]
theorem run_index8 {cs : Array Value} {G : Nat → Int} (h : IntZ cs 8 G) {i : Nat} (hi : i < 8) (w : World) : (Instr.index 87 (.agg cs) (.int .i64 (i : Int))).run Try.prog w = .ok (.int .i64 (G i)) w := by
  rw [h.eight]
  rcases i with _ | _ | _ | _ | _ | _ | _ | _ | j
  · generalize G 0 = x0, G 1 = x1, G 2 = x2, G 3 = x3, G 4 = x4, G 5 = x5, G 6 = x6, G 7 = x7; kernel_rfl
  · show (Instr.index 87 _ (.int .i64 1)).run _ _ = .ok (.int .i64 (G 1)) w; generalize G 0 = x0, G 1 = x1, G 2 = x2, G 3 = x3, G 4 = x4, G 5 = x5, G 6 = x6, G 7 = x7; kernel_rfl
  · show (Instr.index 87 _ (.int .i64 2)).run _ _ = .ok (.int .i64 (G 2)) w; generalize G 0 = x0, G 1 = x1, G 2 = x2, G 3 = x3, G 4 = x4, G 5 = x5, G 6 = x6, G 7 = x7; kernel_rfl
  · show (Instr.index 87 _ (.int .i64 3)).run _ _ = .ok (.int .i64 (G 3)) w; generalize G 0 = x0, G 1 = x1, G 2 = x2, G 3 = x3, G 4 = x4, G 5 = x5, G 6 = x6, G 7 = x7; kernel_rfl
  · show (Instr.index 87 _ (.int .i64 4)).run _ _ = .ok (.int .i64 (G 4)) w; generalize G 0 = x0, G 1 = x1, G 2 = x2, G 3 = x3, G 4 = x4, G 5 = x5, G 6 = x6, G 7 = x7; kernel_rfl
  · show (Instr.index 87 _ (.int .i64 5)).run _ _ = .ok (.int .i64 (G 5)) w; generalize G 0 = x0, G 1 = x1, G 2 = x2, G 3 = x3, G 4 = x4, G 5 = x5, G 6 = x6, G 7 = x7; kernel_rfl
  · show (Instr.index 87 _ (.int .i64 6)).run _ _ = .ok (.int .i64 (G 6)) w; generalize G 0 = x0, G 1 = x1, G 2 = x2, G 3 = x3, G 4 = x4, G 5 = x5, G 6 = x6, G 7 = x7; kernel_rfl
  · show (Instr.index 87 _ (.int .i64 7)).run _ _ = .ok (.int .i64 (G 7)) w; generalize G 0 = x0, G 1 = x1, G 2 = x2, G 3 = x3, G 4 = x4, G 5 = x5, G 6 = x6, G 7 = x7; kernel_rfl
  · omega
def farM (n : Nat) (K : List Int) (t : Int) (m : Int) (p : tPair.D) : Int := if aw p = t then max m (kmI n K t (hm p)) else m
def farS (n : Nat) (K : List Int) (t m : Int) (L : PairL) : Int := List.foldl (α := Int) (β := tPair.D) (farM n K t) m L
theorem farS_cons (n : Nat) (K : List Int) (t m : Int) (p : tPair.D) (L : PairL) : farS n K t m (p :: L) = farS n K t (farM n K t m p) L := rfl
theorem farS_app (n : Nat) (K : List Int) (t m : Int) (A B : PairL) : farS n K t m (A ++ B) = farS n K t (farS n K t m A) B := List.foldl_append ..
theorem farS_none {n : Nat} {K : List Int} {t : Int} : ∀ {L : PairL} {m : Int}, ¬ t ∈ teamsR L → farS n K t m L = m
  | [], _, _ => rfl
  | p :: L, m, h => by
    have h1 : aw p ≠ t := fun e => h (by unfold teamsR; simp [e])
    rw [farS_cons, show farM n K t m p = m from if_neg h1]
    exact farS_none (fun e => h (by unfold teamsR; simp [e]))
theorem farS_round {n : Nat} {K : List Int} (M : Metric n K) {t : Int} (ht : 0 ≤ t ∧ t < n) : ∀ {r : PairL} {m : Int}, 0 ≤ m → (∀ x ∈ teamsR r, 0 ≤ x ∧ x ≤ (n : Int) - 1) → (teamsR r).Nodup → farS n K t m r = if 0 ≤ hostV t r then max m (kmI n K t (hostV t r)) else m
  | [], m, _, _, _ => rfl
  | p :: r, m, hm0, hb, hnd => by
    have hp : 0 ≤ hm p := (hb _ (by unfold teamsR; simp)).1
    have hnd' : hm p ∉ aw p :: teamsR r ∧ (aw p ∉ teamsR r ∧ (teamsR r).Nodup) := by
      have h9 : (hm p :: aw p :: teamsR r).Nodup := hnd
      rw [List.nodup_cons, List.nodup_cons] at h9
      exact h9
    have hbr : ∀ x ∈ teamsR r, 0 ≤ x ∧ x ≤ (n : Int) - 1 := fun x hx => hb x (by unfold teamsR; simp [hx])
    rw [farS_cons]
    by_cases e1 : aw p = t
    · have eh : hostV t (p :: r) = hm p := (hostV_cons ..).trans (if_pos (Or.inr e1))
      rw [show farM n K t m p = max m (kmI n K t (hm p)) from if_pos e1, eh, if_pos hp]
      exact farS_none (by rw [← e1]; exact hnd'.2.1)
    · rw [show farM n K t m p = m from if_neg e1]
      by_cases e2 : hm p = t
      · have eh : hostV t (p :: r) = t := ((hostV_cons ..).trans (if_pos (Or.inl e2))).trans e2
        rw [eh, if_pos ht.1, M.self t ht.1 ht.2]
        rw [farS_none (by rw [← e2]; exact fun h => hnd'.1 (List.mem_cons_of_mem _ h))]
        omega
      · have eh : hostV t (p :: r) = hostV t r := (hostV_cons ..).trans (if_neg fun h => h.elim e2 e1)
        rw [eh]
        exact farS_round M ht hm0 hbr hnd'.2.2
theorem farS_all {n : Nat} {K : List Int} (M : Metric n K) {t : Int} (ht : 0 ≤ t ∧ t < n) : ∀ {D : List PairL} {m : Int}, 0 ≤ m → (∀ r ∈ D, onceP n (teamsR r)) → farS n K t m (List.flatten (α := tPair.D) D) = max m (farT n K t D)
  | [], m, h, _ => by show m = max m 0; omega
  | r :: D, m, h, hd => by
    have hr := hd r (List.mem_cons_self ..)
    rw [List.flatten_cons, farS_app, farS_round M ht h hr.1 hr.2, farT_cons]
    by_cases e : 0 ≤ hostV t r
    · rw [if_pos e, if_pos e, farS_all M ht (by omega) fun r hr => hd r (List.mem_cons_of_mem _ hr)]
      omega
    · rw [if_neg e, if_neg e]
      exact farS_all M ht h fun r hr => hd r (List.mem_cons_of_mem _ hr)
theorem farS_out {n : Nat} {K : List Int} {t : Int} (ht : (n : Int) ≤ t) : ∀ {D : List PairL} {m : Int}, (∀ r ∈ D, onceP n (teamsR r)) → farS n K t m (List.flatten (α := tPair.D) D) = m
  | [], m, _ => rfl
  | r :: D, m, hd => by
    have e1 : farS n K t m r = m := farS_none (fun h => by have := (hd r (List.mem_cons_self ..)).1 t h; omega)
    rw [List.flatten_cons, farS_app, e1]
    exact farS_out ht fun r hr => hd r (List.mem_cons_of_mem _ hr)
theorem farS_bnd {n : Nat} {K : List Int} (M : Metric n K) {t : Int} : ∀ {L : PairL} {m : Int}, 0 ≤ m ∧ m ≤ 5000 → (∀ x ∈ teamsR L, 0 ≤ x ∧ x ≤ (n : Int) - 1) → 0 ≤ farS n K t m L ∧ farS n K t m L ≤ 5000
  | [], _, h, _ => h
  | p :: L, m, h, hb => by
    rw [farS_cons]
    refine farS_bnd M ?_ fun x hx => hb x (by unfold teamsR; simp [hx])
    unfold farM
    by_cases e : aw p = t
    · rw [if_pos e]
      have h1 := hb (hm p) (by unfold teamsR; simp)
      have h2 := hb (aw p) (by unfold teamsR; simp)
      have h3 := M.nonneg t (hm p) (by omega) (by omega) (by omega) (by omega)
      omega
    · rw [if_neg e]; exact h
theorem teams_flat {n : Nat} : ∀ {D : List PairL}, (∀ r ∈ D, onceP n (teamsR r)) → ∀ x ∈ teamsR (List.flatten (α := tPair.D) D), 0 ≤ x ∧ x ≤ (n : Int) - 1
  | [], _, x, hx => by cases hx
  | r :: D, h, x, hx => by
    rw [List.flatten_cons, teamsR_app] at hx
    rcases List.mem_append.1 hx with hx | hx
    · exact (h r (List.mem_cons_self ..)).1 x hx
    · exact teams_flat (fun r hr => h r (List.mem_cons_of_mem _ hr)) x hx
theorem teams_take {r : PairL} {j : Nat} {x : Int} (h : x ∈ teamsR (List.take (α := tPair.D) j r)) : x ∈ teamsR r := by
  have e : r = List.take (α := tPair.D) j r ++ List.drop (α := tPair.D) j r := (List.take_append_drop (α := tPair.D) j r).symm
  rw [e, teamsR_app]
  exact List.mem_append.2 (.inl h)
def gone (D : List PairL) (k : Nat) (r : PairL) (j : Nat) : PairL := List.flatten (α := tPair.D) (D.take k) ++ List.take (α := tPair.D) j r
theorem gone_zero (D : List PairL) (k : Nat) (r : PairL) : gone D k r 0 = List.flatten (α := tPair.D) (D.take k) := by unfold gone; rw [List.take_zero, List.append_nil]
theorem gone_succ {D : List PairL} {k : Nat} {r : PairL} {j : Nat} {p : tPair.D} (hp : r[j]? = some p) : gone D k r (j + 1) = gone D k r j ++ [p] := by
  unfold gone
  rw [List.take_add_one, hp, List.append_assoc]
  rfl
theorem gone_full {D : List PairL} {k : Nat} {r : PairL} {j : Nat} (hr : D[k]? = some r) (hj : List.length (α := tPair.D) r ≤ j) : gone D k r j = List.flatten (α := tPair.D) (D.take (k + 1)) := by
  unfold gone
  rw [List.take_of_length_le hj, List.take_add_one, hr]
  show _ = List.flatten (α := tPair.D) (D.take k ++ [r])
  rw [List.flatten_append]
  simp
theorem gone_bnd {n : Nat} {K : List Int} (M : Metric n K) {D : List PairL} (h : ∀ r ∈ D, onceP n (teamsR r)) {k : Nat} {r : PairL} (hr : r ∈ D) (t : Int) (j : Nat) : 0 ≤ farS n K t 0 (gone D k r j) ∧ farS n K t 0 (gone D k r j) ≤ 5000 :=
  farS_bnd M ⟨Int.le_refl _, by omega⟩ fun x hx => by
    unfold gone at hx
    rw [teamsR_app] at hx
    rcases List.mem_append.1 hx with hx | hx
    · exact teams_flat (fun r hr => h r (List.mem_of_mem_take hr)) x hx
    · exact (h r hr).1 x (teams_take hx)
theorem sumZN_more {f : Nat → Int} {n : Nat} (h0 : ∀ t, n ≤ t → f t = 0) : ∀ m, n ≤ m → sumZN f m = sumZN f n
  | 0, h => by have : n = 0 := by omega
               subst this; rfl
  | m + 1, h => by
    by_cases e : n = m + 1
    · subst e; rfl
    · show sumZN f m + f m = _
      rw [sumZN_more h0 m (by omega), h0 m (by omega), Int.add_zero]
theorem floor_is {n : Nat} {K : List Int} (M : Metric n K) {D : List PairL} (h : ∀ r ∈ D, onceP n (teamsR r)) : sumZN (fun t => 2 * farS n K t 0 (List.flatten (α := tPair.D) D)) 8 = floorT n K D := by
  rw [sumZN_more (n := n) (fun t ht => by rw [farS_out (by omega) h]; rfl) 8 M.eight]
  refine sumZN_congr n fun t ht => ?_
  rw [farS_all M ⟨by omega, by omega⟩ (Int.le_refl _) h]
  have h9 := farT_bnd M (tm := t) ⟨by omega, by omega⟩ D (fun r hr => by have h1 := hostV_in (x := (t : Int)) (h r hr).1; omega)
  omega
set_option maxRecDepth 100000 in
set_option maxHeartbeats 8000000 in
theorem travelFloor_impl (s : Int) (vk : Value) (K : List Int) (vr : Value) (D : List PairL) (R : Bool) (w : World) (hR : R = true ↔ mapP s K ∧ schedP s D) (h : IntRow w vk K.length (getI K)) (hr : RdA tPairSS w [vr] D) (hw : tPairSS.wt D ≤ 1048576) :
    Calls Try.prog 15 #[.agg #[.int .i64 s, vk], vr] w fun e w' => e = .returned (.int .i64 (floorV R s K D)) ∧ Below w.heap.size w w' := by
  obtain ⟨ka, kc, rfl, hkn, _⟩ := h.form
  obtain ⟨ra, rc, rfl, hrn⟩ := schedule_form hr
  obtain ⟨nk, hnk⟩ : ∃ nk, K.length = nk := ⟨_, rfl⟩
  obtain ⟨nr, hnr⟩ : ∃ nr, List.length (α := PairL) D = nr := ⟨_, rfl⟩
  obtain ⟨U, hU⟩ : ∃ U, w.alloc (.cells #[.int .i64 s, .slice ka K.length kc] 26) = U := ⟨_, rfl⟩
  have HS : Hid (MapAt U w.heap.size s ka K.length kc K) := by rw [← hU]; exact MapAt.made h
  have bU : Below w.heap.size w U := by rw [← hU]; exact (Below.refl _ _).alloc (Nat.le_refl _) _
  have hUs : U.heap.size = w.heap.size + 1 := by rw [← hU]; simp
  have HB := Lib.hid bU
  have HR : Hid (RdA tPairSS U [.slice ra (List.length (α := PairL) D) rc] D) := hr.below bU
  have CJ := Lib.hid (isJourney_impl s (.slice ka K.length kc) K _ D R U hR (h.below bU (Nat.le_refl _)) (hr.below bU) hw)
  have HNK := Lib.hid hnk
  have HNR := Lib.hid hnr
  have HRR := Lib.hid hR
  have HUS := Lib.hid hUs
  have HV : Hid (floorV R s K D = if R = true then floorT s.toNat K D else -1) := rfl
  rw [hnk] at hkn hU HS CJ ⊢
  rw [hnr] at hrn CJ ⊢
  clear h hr hR hnk hnr bU hw hUs
  generalize floorV R s K D = V at *
  obtain ⟨c0, c1⟩ := HS.out.cells
  go_enter Try.func15, Try.ntmps15
  go_wp2_with fail
  clear hU
  refine CJ.out.mono ?_
  rintro e w1 ⟨rfl, bb⟩
  have hu1 : U.heap.size ≤ w1.heap.size := bb.size
  have HB1 := Lib.hid bb
  clear bb c0 c1 CJ
  cases R with
  | false =>
    have HVX : Hid (V = -1) := HV.out
    have HBx := Lib.hid (HB.out.trans (HB1.out.mono HB.out.size))
    clear HRR HV HB HB1
    go_wp2
    go_ret
    exact ⟨by rw [HVX.out]; rfl, HBx.out⟩
  | true =>
  have HMS := Lib.hid (HRR.out.1 (by first | rfl | trivial))
  obtain ⟨n, rfl⟩ : ∃ n : Nat, s = n := ⟨s.toNat, by have := HMS.out.1.1; omega⟩
  have HMM : Hid (Metric n K) := by have h9 := HMS.out.1.metric; rw [Int.toNat_natCast] at h9; exact h9
  have HON : Hid (∀ r ∈ D, onceP n (teamsR r)) := HMS.out.2.2.2
  have h14 : nr ≤ 14 := by rw [← HNR.out]; exact HMS.out.2.2.1
  have h8 : n ≤ 8 := HMM.out.eight
  have HVX : Hid (V = sumZN (fun t => 2 * farS n K t 0 (List.flatten (α := tPair.D) D)) 8) := by show _ = _; rw [HV.out, if_pos rfl, Int.toNat_natCast, floor_is HMM.out HON.out]
  have CW : Hid (∀ (x y : Nat) wa, x < n → y < n → IntRow wa (.slice ka nk kc) nk (getI K) → Calls Try.prog 56 #[.agg #[.int .i64 n, .slice ka nk kc], .int .i64 x, .int .i64 y] wa fun e w' => e = .returned (.int .i64 (getI K (x * n + y))) ∧ Below wa.heap.size wa w') := fun x y wa hx hy hw => way_impl n _ K x y wa HMM.out.len h8 hx hy (by rw [HNK.out]; exact hw)
  clear HRR HV HMS
  obtain ⟨U2, hU2⟩ : ∃ U2, w1.alloc (.cells #[.int .i64 0, .int .i64 0, .int .i64 0, .int .i64 0, .int .i64 0, .int .i64 0, .int .i64 0, .int .i64 0] 87) = U2 := ⟨_, rfl⟩
  have HW0 : Hid (∃ cs, IntZ cs 8 (fun t => farS n K t 0 (List.flatten (α := tPair.D) (D.take 0))) ∧ Whole U2 w1.heap.size cs 87) := by
    rw [← hU2]
    refine ⟨_, ⟨rfl, fun j hj => ?_⟩, Whole.made _ _ _⟩
    have e : (#[Value.int .i64 0, .int .i64 0, .int .i64 0, .int .i64 0, .int .i64 0, .int .i64 0, .int .i64 0, .int .i64 0] : Array Value) = Array.replicate 8 (.int .i64 0) := rfl
    rw [e, Array.getElem?_replicate, if_pos hj]
    rfl
  have HBU : Hid (Below U.heap.size U U2) := by rw [← hU2]; exact HB1.out.alloc hu1 _
  go_wp2
  clear hU2
  go_loopw [19] (fun iv wr => ∃ (k : Nat) (cs : Array Value), k ≤ nr ∧ iv = .int .i64 k ∧ Hid (IntZ cs 8 (fun t => farS n K t 0 (List.flatten (α := tPair.D) (D.take k)))) ∧ Hid (Whole wr w1.heap.size cs 87) ∧ Hid (Below U.heap.size U wr)) (fun iv _ => nr - (RowKit.intOf iv).toNat)
  case atStart =>
    obtain ⟨cs, h1, h2⟩ := HW0.out
    exact ⟨0, cs, Nat.zero_le _, rfl, h1, h2, HBU⟩
  case round =>
    clear HW0 HBU
    obtain ⟨k, cs, hk9, rfl, HC, HW, HBr⟩ := hrel
    by_cases hlt : k < nr
    · obtain ⟨r, hrr⟩ : ∃ r : PairL, D[k]? = some r := ⟨_, List.getElem?_eq_getElem (by rw [HNR.out]; exact hlt)⟩
      obtain ⟨rb, ro, xa, xc, hra, hcap2, hq0, hrd, hx63⟩ := round_cells HR.out hrr
      subst hra
      rw [HNR.out] at hcap2
      have hq := (HBr.out.cell (p := ⟨rb, ro + k, none⟩) (World.block_lt_of_cell? U _ hq0)).trans hq0
      have hj1 : (k : Int) < (nr : Int) := by omega
      have HRW := Lib.hid hrd
      have HRD := Lib.hid hrr
      obtain ⟨m, hm9⟩ : ∃ m, List.length (α := tPair.D) r = m := ⟨_, rfl⟩
      have HM := Lib.hid hm9
      rw [hm9] at hq hx63
      have HC2 : Hid (IntZ cs 8 (fun t => farS n K t 0 (gone D k r 0))) := HC.out.congr (fun j _ => by rw [gone_zero])
      clear hm9 hrd hrr HC hq0
      go_wp2
      clear hq
      generalize wr = w3 at *
      go_loopw [25] (fun iv wr => ∃ (j : Nat) (cs : Array Value), j ≤ m ∧ iv = .int .i64 j ∧ Hid (IntZ cs 8 (fun t => farS n K t 0 (gone D k r j))) ∧ Hid (Whole wr w1.heap.size cs 87) ∧ Hid (Below U.heap.size U wr)) (fun iv _ => m - (RowKit.intOf iv).toNat)
      case atStart => exact ⟨0, cs, Nat.zero_le _, rfl, HC2, HW, HBr⟩
      case round =>
        clear HC2 HW HBr
        obtain ⟨j, cs, hj9, rfl, HC, HW, HBr⟩ := hrel
        by_cases hlt2 : j < m
        · obtain ⟨pp, hp⟩ : ∃ p : tPair.D, r[j]? = some p := ⟨_, List.getElem?_eq_getElem (by rw [HM.out]; exact hlt2)⟩
          obtain ⟨bp, op, rfl, hcap3, e0, e1⟩ := pair_cells (HRW.out.below HBr.out) hp
          rw [HM.out] at hcap3
          have hj2 : (j : Int) < (m : Int) := by omega
          have ho9 := HON.out r (List.mem_of_getElem? HRD.out)
          have hmem : pp ∈ (r : List tPair.D) := List.mem_of_getElem? hp
          have hpt := teams_mem hmem
          have hb1 := ho9.1 _ hpt.1
          have hb2 := ho9.1 _ hpt.2
          have HGS : Hid (gone D k r (j + 1) = gone D k r j ++ [pp]) := gone_succ hp
          obtain ⟨p, hpp⟩ : ∃ p : Nat, hm pp = p := ⟨(hm pp).toNat, by omega⟩
          obtain ⟨q, hqq⟩ : ∃ q : Nat, aw pp = q := ⟨(aw pp).toNat, by omega⟩
          rw [hpp] at hb1 e0
          rw [hqq] at hb2 e1
          have hpn : p < n := by omega
          have hqn : q < n := by omega
          have q8 : q < 8 := by omega
          have q8' : (q : Int) < 8 := by omega
          obtain ⟨x, hx⟩ : ∃ x, farS n K q 0 (gone D k r j) = x := ⟨_, rfl⟩
          obtain ⟨y, hy⟩ : ∃ y, getI K (q * n + p) = y := ⟨_, rfl⟩
          have HX : Hid (cs[q]? = some (.int .i64 x)) := by show _ = _; rw [← hx]; exact HC.out.2 q q8
          have hx5 : 0 ≤ x ∧ x ≤ 5000 := by rw [← hx]; exact gone_bnd HMM.out HON.out (List.mem_of_getElem? HRD.out) q j
          have hy5 : 0 ≤ y ∧ y ≤ 5000 := by rw [← hy]; exact km_bnd HMM.out hqn hpn
          have HCN : Hid (∀ z, max x y = z → IntZ (cs.setIfInBounds q (.int .i64 z)) 8 (fun t => farS n K t 0 (gone D k r (j + 1)))) := fun z hz => by
            refine (IntZ.set HC.out q z q8).congr fun t ht => ?_
            show (if t = q then z else farS n K t 0 (gone D k r j)) = _
            rw [HGS.out, farS_app]
            show _ = farM n K t (farS n K t 0 (gone D k r j)) pp
            unfold farM
            rw [hqq, hpp]
            by_cases e : t = q
            · subst e
              rw [if_pos rfl, if_pos rfl, hx, ← hz, ← hy]
              rfl
            · rw [if_neg e, if_neg (by omega)]
          have CWQ := Lib.hid (fun wa => CW.out q p wa hqn hpn)
          rw [hy] at CWQ
          clear hx hy HGS hpp hqq hpt hmem ho9 hb1 hb2 HC hp
          obtain ⟨wS, hwS⟩ : ∃ wS, wr.alloc (.cells #[.int .i64 p, .int .i64 q] 63) = wS := ⟨_, rfl⟩
          have bS : Below wr.heap.size wr wS := by rw [← hwS]; exact (Below.refl _ _).alloc (Nat.le_refl _) _
          have HPS : Hid (BoxN wS wr.heap.size [.int .i64 (p : Int), .int .i64 (q : Int)]) := by rw [← hwS]; exact BoxN.made (Below.refl _ _) rfl
          have HWS := Lib.hid (HW.out.below bS)
          have HBS := Lib.hid (HBr.out.trans (bS.mono HBr.out.size))
          have HSS := Lib.hid (HS.out.below HBS.out)
          have HL1b : Hid (U.heap.size ≤ w1.heap.size) := hu1
          clear bS HW HBr
          by_cases hxy : x < y
          · have g1 : decide (x < y) = true := decide_eq_true hxy
            have HCY := Lib.hid (HCN.out y (by omega))
            go_wp2_with fail
            clear hwS e0 e1
            obtain ⟨F, HF⟩ : ∃ F : World → Prop, F = fun w' => MapAt w' w.heap.size n ka nk kc K ∧ BoxN w' wr.heap.size [.int .i64 (p : Int), .int .i64 (q : Int)] ∧ Whole w' w1.heap.size cs 87 := ⟨_, rfl⟩
            have FE : Hid (∀ wa, F wa → MapAt wa w.heap.size n ka nk kc K ∧ BoxN wa wr.heap.size [.int .i64 (p : Int), .int .i64 (q : Int)] ∧ Whole wa w1.heap.size cs 87) := by subst HF; exact fun _ h => h
            have FI : Hid (∀ wa, MapAt wa w.heap.size n ka nk kc K → BoxN wa wr.heap.size [.int .i64 (p : Int), .int .i64 (q : Int)] → Whole wa w1.heap.size cs 87 → F wa) := by subst HF; exact fun _ h1 h2 h3 => ⟨h1, h2, h3⟩
            have F0 : Hid (F wS.drew) := FI.out _ (HSS.out.below (Below.refl _ _).drew) (HPS.out.below (Below.refl _ _).drew) (HWS.out.below (Below.refl _ _).drew)
            clear HF
            refine Await.begin (S := Until 14 F) (by kernel_rfl) ?_ (fun hS => ?_)
            · exact Until.of F0.out
            clear F0
            have hd := (Below.refl wS.heap.size wS).drew
            have HW1 := Lib.hid (HWS.out.below hd)
            have HB1 := Lib.hid (HBS.out.trans (hd.mono HBS.out.size))
            clear HWS HBS HSS HPS hd
            generalize wS.drew = wd at *
            refine Await.pure (i := 0) (v := ?_) rfl (by kernel_rfl) (by kernel_rfl) (by kernel_rfl) (by kernel_rfl) (fun _ _ _ h => h) (Or.inl ⟨by rfl, ?_⟩) (by assumption) ?_
            rotate_left
            · (intro wa _; go_simp; try with_reducible rfl)
            simp only [Act.put, List.getElem_toArray, List.getElem_cons_zero, List.setIfInBounds_toArray, List.set_cons_zero, List.set_cons_succ]
            refine Await.takes (i := 1) [13] (v := ?_) rfl (by kernel_rfl) (by kernel_rfl) (by kernel_rfl) (by kernel_rfl) (fun _ _ _ h => h) (Or.inl ⟨by rfl, ?_⟩) (by assumption) ?_
            rotate_left
            · (intro wa hSw; obtain ⟨fm, fp, fw⟩ := FE.out wa hSw; obtain ⟨m0, m1⟩ := fm.cells; have p0 := fp.2 0 _ rfl; have p1 := fp.2 1 _ rfl; have a0 := fw.cell HX.out; go_simp; try with_reducible rfl)
            simp only [Act.put, List.getElem_toArray, List.getElem_cons_zero, List.getElem_cons_succ, List.setIfInBounds_toArray, List.set_cons_zero, List.set_cons_succ]
            refine Await.pure (i := 2) (v := ?_) rfl (by kernel_rfl) (by kernel_rfl) (by kernel_rfl) (by kernel_rfl) (fun _ _ _ h => h) (Or.inl ⟨by rfl, ?_⟩) (by assumption) ?_
            rotate_left
            · (intro wa _; go_simp; try with_reducible rfl)
            simp only [Act.put, List.getElem_toArray, List.getElem_cons_zero, List.getElem_cons_succ, List.setIfInBounds_toArray, List.set_cons_zero, List.set_cons_succ]
            refine Await.takes (i := 3) [4, 5, 12] (v := ?_) rfl (by kernel_rfl) (by kernel_rfl) (by kernel_rfl) (by kernel_rfl) (fun _ _ _ h => h) (Or.inl ⟨by rfl, ?_⟩) (by assumption) ?_
            rotate_left
            · (intro wa hSw; obtain ⟨fm, fp, fw⟩ := FE.out wa hSw; obtain ⟨m0, m1⟩ := fm.cells; have p0 := fp.2 0 _ rfl; have p1 := fp.2 1 _ rfl; have a0 := fw.cell HX.out; go_simp; try with_reducible rfl)
            simp only [Act.put, List.getElem_toArray, List.getElem_cons_zero, List.getElem_cons_succ, List.setIfInBounds_toArray, List.set_cons_zero, List.set_cons_succ]
            refine Await.pure (i := 4) (v := ?_) rfl (by kernel_rfl) (by kernel_rfl) (by kernel_rfl) (by kernel_rfl) (fun _ _ _ h => h) (Or.inl ⟨by rfl, ?_⟩) (by assumption) ?_
            rotate_left
            · (intro wa _; go_simp; try with_reducible rfl)
            simp only [Act.put, List.getElem_toArray, List.getElem_cons_zero, List.getElem_cons_succ, List.setIfInBounds_toArray, List.set_cons_zero, List.set_cons_succ]
            refine Await.takes (i := 5) [12] (v := ?_) rfl (by kernel_rfl) (by kernel_rfl) (by kernel_rfl) (by kernel_rfl) (fun _ _ _ h => h) (Or.inl ⟨by rfl, ?_⟩) (by assumption) ?_
            rotate_left
            · (intro wa hSw; obtain ⟨fm, fp, fw⟩ := FE.out wa hSw; obtain ⟨m0, m1⟩ := fm.cells; have p0 := fp.2 0 _ rfl; have p1 := fp.2 1 _ rfl; have a0 := fw.cell HX.out; go_simp; try with_reducible rfl)
            simp only [Act.put, List.getElem_toArray, List.getElem_cons_zero, List.getElem_cons_succ, List.setIfInBounds_toArray, List.set_cons_zero, List.set_cons_succ]
            refine Await.takes (i := 6) [11, 12] (v := ?_) rfl (by kernel_rfl) (by kernel_rfl) (by kernel_rfl) (by kernel_rfl) (fun _ _ _ h => h) (Or.inl ⟨by rfl, ?_⟩) (by assumption) ?_
            rotate_left
            · (intro wa hSw; obtain ⟨fm, fp, fw⟩ := FE.out wa hSw; obtain ⟨m0, m1⟩ := fm.cells; have p0 := fp.2 0 _ rfl; have p1 := fp.2 1 _ rfl; have a0 := fw.cell HX.out; go_simp; try with_reducible rfl)
            simp only [Act.put, List.getElem_toArray, List.getElem_cons_zero, List.getElem_cons_succ, List.setIfInBounds_toArray, List.set_cons_zero, List.set_cons_succ]
            refine Await.pure (i := 7) (v := ?_) rfl (by kernel_rfl) (by kernel_rfl) (by kernel_rfl) (by kernel_rfl) (fun _ _ _ h => h) (Or.inl ⟨by rfl, ?_⟩) (by assumption) ?_
            rotate_left
            · (intro wa _; go_simp; try with_reducible rfl)
            simp only [Act.put, List.getElem_toArray, List.getElem_cons_zero, List.getElem_cons_succ, List.setIfInBounds_toArray, List.set_cons_zero, List.set_cons_succ]
            refine Await.takes (i := 8) [11, 12] (v := ?_) rfl (by kernel_rfl) (by kernel_rfl) (by kernel_rfl) (by kernel_rfl) (fun _ _ _ h => h) (Or.inl ⟨by rfl, ?_⟩) (by assumption) ?_
            rotate_left
            · (intro wa hSw; obtain ⟨fm, fp, fw⟩ := FE.out wa hSw; obtain ⟨m0, m1⟩ := fm.cells; have p0 := fp.2 0 _ rfl; have p1 := fp.2 1 _ rfl; have a0 := fw.cell HX.out; go_simp; try with_reducible rfl)
            simp only [Act.put, List.getElem_toArray, List.getElem_cons_zero, List.getElem_cons_succ, List.setIfInBounds_toArray, List.set_cons_zero, List.set_cons_succ]
            refine Await.pure (i := 9) (v := ?_) rfl (by kernel_rfl) (by kernel_rfl) (by kernel_rfl) (by kernel_rfl) (fun _ _ _ h => h) (Or.inl ⟨by rfl, ?_⟩) (by assumption) ?_
            rotate_left
            · (intro wa _; go_simp; try with_reducible rfl)
            simp only [Act.put, List.getElem_toArray, List.getElem_cons_zero, List.getElem_cons_succ, List.setIfInBounds_toArray, List.set_cons_zero, List.set_cons_succ]
            refine Await.takes (i := 10) [11, 12] (v := ?_) rfl (by kernel_rfl) (by kernel_rfl) (by kernel_rfl) (by kernel_rfl) (fun _ _ _ h => h) (Or.inl ⟨by rfl, ?_⟩) (by assumption) ?_
            rotate_left
            · (intro wa hSw; obtain ⟨fm, fp, fw⟩ := FE.out wa hSw; obtain ⟨m0, m1⟩ := fm.cells; have p0 := fp.2 0 _ rfl; have p1 := fp.2 1 _ rfl; have a0 := fw.cell HX.out; go_simp; try with_reducible rfl)
            simp only [Act.put, List.getElem_toArray, List.getElem_cons_zero, List.getElem_cons_succ, List.setIfInBounds_toArray, List.set_cons_zero, List.set_cons_succ]
            refine Await.step (i := 11) (o := _) (by kernel_rfl) rfl (fun K1 hK1' => ?_)
            go_simp
            refine (CWQ.out _ (FE.out _ (hS (by kernel_rfl))).1.2).mono ?_
            rintro e w9 ⟨rfl, b9⟩
            (try go_wp2_with fail)
            refine hK1'.out _ _ ?_ (fun hS => ?_)
            · exact Until.of (FI.out _ ((FE.out _ (hS (by kernel_rfl))).1.below b9) ((FE.out _ (hS (by kernel_rfl))).2.1.below b9) ((FE.out _ (hS (by kernel_rfl))).2.2.below b9))
            clear hK1' K1
            refine Await.pure (i := 12) (v := ?_) rfl (by kernel_rfl) (by kernel_rfl) (by kernel_rfl) (by kernel_rfl) (fun _ _ _ h => h) (Or.inl ⟨by rfl, ?_⟩) (by assumption) ?_
            rotate_left
            · (intro wa _; go_simp; try with_reducible rfl)
            simp only [Act.put, List.getElem_toArray, List.getElem_cons_zero, List.getElem_cons_succ, List.setIfInBounds_toArray, List.set_cons_zero, List.set_cons_succ]
            refine Await.pure (i := 13) (v := ?_) rfl (by kernel_rfl) (by kernel_rfl) (by kernel_rfl) (by kernel_rfl) (fun _ _ _ h => h) (Or.inl ⟨by rfl, ?_⟩) (by assumption) ?_
            rotate_left
            · (intro wa _; go_simp; try with_reducible rfl)
            simp only [Act.put, List.getElem_toArray, List.getElem_cons_zero, List.getElem_cons_succ, List.setIfInBounds_toArray, List.set_cons_zero, List.set_cons_succ]
            have HW2 := Lib.hid (HW1.out.below b9)
            have HB2 := Lib.hid (HB1.out.trans (b9.mono HB1.out.size))
            have hw9 : w1.heap.size < w9.heap.size := HW2.out.lt
            have a0 := HW2.out.cell HX.out
            have f0 := HW2.out.free q
            clear b9 HB1 HW1
            refine Await.step (i := 14) (o := _) (by kernel_rfl) rfl (fun K1 hK1' => ?_)
            go_simp
            refine hK1'.out _ _ ?_ (fun hS => ?_)
            · exact Until.over (by kernel_rfl)
            clear hK1' K1
            refine Await.done (by kernel_rfl) ?_ _
            have HWN := Lib.hid (HW2.out.set q (.int .i64 y))
            have HBN : Hid (Below U.heap.size U (w9.setCell ⟨w1.heap.size, q, none⟩ (.int .i64 y))) := HB2.out.setCell (p := ⟨w1.heap.size, q, none⟩) HL1b.out _
            clear FE FI HW2 HB2 hS
            go_wp2
            go_roundw
            case rel => exact ⟨j + 1, _, by omega, by go_num, HCY, HWN, HBN⟩
            case measure => simp [RowKit.intOf]; omega
          · have g1 : decide (x < y) = false := decide_eq_false hxy
            have HCY := Lib.hid (HCN.out x (by omega))
            go_wp2_with fail
            clear hwS e0 e1
            obtain ⟨F, HF⟩ : ∃ F : World → Prop, F = fun w' => MapAt w' w.heap.size n ka nk kc K ∧ BoxN w' wr.heap.size [.int .i64 (p : Int), .int .i64 (q : Int)] ∧ Whole w' w1.heap.size cs 87 := ⟨_, rfl⟩
            have FE : Hid (∀ wa, F wa → MapAt wa w.heap.size n ka nk kc K ∧ BoxN wa wr.heap.size [.int .i64 (p : Int), .int .i64 (q : Int)] ∧ Whole wa w1.heap.size cs 87) := by subst HF; exact fun _ h => h
            have FI : Hid (∀ wa, MapAt wa w.heap.size n ka nk kc K → BoxN wa wr.heap.size [.int .i64 (p : Int), .int .i64 (q : Int)] → Whole wa w1.heap.size cs 87 → F wa) := by subst HF; exact fun _ h1 h2 h3 => ⟨h1, h2, h3⟩
            have F0 : Hid (F wS.drew) := FI.out _ (HSS.out.below (Below.refl _ _).drew) (HPS.out.below (Below.refl _ _).drew) (HWS.out.below (Below.refl _ _).drew)
            clear HF
            refine Await.begin (S := Until 14 F) (by kernel_rfl) ?_ (fun hS => ?_)
            · exact Until.of F0.out
            clear F0
            have hd := (Below.refl wS.heap.size wS).drew
            have HW1 := Lib.hid (HWS.out.below hd)
            have HB1 := Lib.hid (HBS.out.trans (hd.mono HBS.out.size))
            clear HWS HBS HSS HPS hd
            generalize wS.drew = wd at *
            refine Await.pure (i := 0) (v := ?_) rfl (by kernel_rfl) (by kernel_rfl) (by kernel_rfl) (by kernel_rfl) (fun _ _ _ h => h) (Or.inl ⟨by rfl, ?_⟩) (by assumption) ?_
            rotate_left
            · (intro wa _; go_simp; try with_reducible rfl)
            simp only [Act.put, List.getElem_toArray, List.getElem_cons_zero, List.setIfInBounds_toArray, List.set_cons_zero, List.set_cons_succ]
            refine Await.takes (i := 1) [13] (v := ?_) rfl (by kernel_rfl) (by kernel_rfl) (by kernel_rfl) (by kernel_rfl) (fun _ _ _ h => h) (Or.inl ⟨by rfl, ?_⟩) (by assumption) ?_
            rotate_left
            · (intro wa hSw; obtain ⟨fm, fp, fw⟩ := FE.out wa hSw; obtain ⟨m0, m1⟩ := fm.cells; have p0 := fp.2 0 _ rfl; have p1 := fp.2 1 _ rfl; have a0 := fw.cell HX.out; go_simp; try with_reducible rfl)
            simp only [Act.put, List.getElem_toArray, List.getElem_cons_zero, List.getElem_cons_succ, List.setIfInBounds_toArray, List.set_cons_zero, List.set_cons_succ]
            refine Await.pure (i := 2) (v := ?_) rfl (by kernel_rfl) (by kernel_rfl) (by kernel_rfl) (by kernel_rfl) (fun _ _ _ h => h) (Or.inl ⟨by rfl, ?_⟩) (by assumption) ?_
            rotate_left
            · (intro wa _; go_simp; try with_reducible rfl)
            simp only [Act.put, List.getElem_toArray, List.getElem_cons_zero, List.getElem_cons_succ, List.setIfInBounds_toArray, List.set_cons_zero, List.set_cons_succ]
            refine Await.takes (i := 3) [4, 5, 12] (v := ?_) rfl (by kernel_rfl) (by kernel_rfl) (by kernel_rfl) (by kernel_rfl) (fun _ _ _ h => h) (Or.inl ⟨by rfl, ?_⟩) (by assumption) ?_
            rotate_left
            · (intro wa hSw; obtain ⟨fm, fp, fw⟩ := FE.out wa hSw; obtain ⟨m0, m1⟩ := fm.cells; have p0 := fp.2 0 _ rfl; have p1 := fp.2 1 _ rfl; have a0 := fw.cell HX.out; go_simp; try with_reducible rfl)
            simp only [Act.put, List.getElem_toArray, List.getElem_cons_zero, List.getElem_cons_succ, List.setIfInBounds_toArray, List.set_cons_zero, List.set_cons_succ]
            refine Await.pure (i := 4) (v := ?_) rfl (by kernel_rfl) (by kernel_rfl) (by kernel_rfl) (by kernel_rfl) (fun _ _ _ h => h) (Or.inl ⟨by rfl, ?_⟩) (by assumption) ?_
            rotate_left
            · (intro wa _; go_simp; try with_reducible rfl)
            simp only [Act.put, List.getElem_toArray, List.getElem_cons_zero, List.getElem_cons_succ, List.setIfInBounds_toArray, List.set_cons_zero, List.set_cons_succ]
            refine Await.takes (i := 5) [12] (v := ?_) rfl (by kernel_rfl) (by kernel_rfl) (by kernel_rfl) (by kernel_rfl) (fun _ _ _ h => h) (Or.inl ⟨by rfl, ?_⟩) (by assumption) ?_
            rotate_left
            · (intro wa hSw; obtain ⟨fm, fp, fw⟩ := FE.out wa hSw; obtain ⟨m0, m1⟩ := fm.cells; have p0 := fp.2 0 _ rfl; have p1 := fp.2 1 _ rfl; have a0 := fw.cell HX.out; go_simp; try with_reducible rfl)
            simp only [Act.put, List.getElem_toArray, List.getElem_cons_zero, List.getElem_cons_succ, List.setIfInBounds_toArray, List.set_cons_zero, List.set_cons_succ]
            refine Await.takes (i := 6) [11, 12] (v := ?_) rfl (by kernel_rfl) (by kernel_rfl) (by kernel_rfl) (by kernel_rfl) (fun _ _ _ h => h) (Or.inl ⟨by rfl, ?_⟩) (by assumption) ?_
            rotate_left
            · (intro wa hSw; obtain ⟨fm, fp, fw⟩ := FE.out wa hSw; obtain ⟨m0, m1⟩ := fm.cells; have p0 := fp.2 0 _ rfl; have p1 := fp.2 1 _ rfl; have a0 := fw.cell HX.out; go_simp; try with_reducible rfl)
            simp only [Act.put, List.getElem_toArray, List.getElem_cons_zero, List.getElem_cons_succ, List.setIfInBounds_toArray, List.set_cons_zero, List.set_cons_succ]
            refine Await.pure (i := 7) (v := ?_) rfl (by kernel_rfl) (by kernel_rfl) (by kernel_rfl) (by kernel_rfl) (fun _ _ _ h => h) (Or.inl ⟨by rfl, ?_⟩) (by assumption) ?_
            rotate_left
            · (intro wa _; go_simp; try with_reducible rfl)
            simp only [Act.put, List.getElem_toArray, List.getElem_cons_zero, List.getElem_cons_succ, List.setIfInBounds_toArray, List.set_cons_zero, List.set_cons_succ]
            refine Await.takes (i := 8) [11, 12] (v := ?_) rfl (by kernel_rfl) (by kernel_rfl) (by kernel_rfl) (by kernel_rfl) (fun _ _ _ h => h) (Or.inl ⟨by rfl, ?_⟩) (by assumption) ?_
            rotate_left
            · (intro wa hSw; obtain ⟨fm, fp, fw⟩ := FE.out wa hSw; obtain ⟨m0, m1⟩ := fm.cells; have p0 := fp.2 0 _ rfl; have p1 := fp.2 1 _ rfl; have a0 := fw.cell HX.out; go_simp; try with_reducible rfl)
            simp only [Act.put, List.getElem_toArray, List.getElem_cons_zero, List.getElem_cons_succ, List.setIfInBounds_toArray, List.set_cons_zero, List.set_cons_succ]
            refine Await.pure (i := 9) (v := ?_) rfl (by kernel_rfl) (by kernel_rfl) (by kernel_rfl) (by kernel_rfl) (fun _ _ _ h => h) (Or.inl ⟨by rfl, ?_⟩) (by assumption) ?_
            rotate_left
            · (intro wa _; go_simp; try with_reducible rfl)
            simp only [Act.put, List.getElem_toArray, List.getElem_cons_zero, List.getElem_cons_succ, List.setIfInBounds_toArray, List.set_cons_zero, List.set_cons_succ]
            refine Await.takes (i := 10) [11, 12] (v := ?_) rfl (by kernel_rfl) (by kernel_rfl) (by kernel_rfl) (by kernel_rfl) (fun _ _ _ h => h) (Or.inl ⟨by rfl, ?_⟩) (by assumption) ?_
            rotate_left
            · (intro wa hSw; obtain ⟨fm, fp, fw⟩ := FE.out wa hSw; obtain ⟨m0, m1⟩ := fm.cells; have p0 := fp.2 0 _ rfl; have p1 := fp.2 1 _ rfl; have a0 := fw.cell HX.out; go_simp; try with_reducible rfl)
            simp only [Act.put, List.getElem_toArray, List.getElem_cons_zero, List.getElem_cons_succ, List.setIfInBounds_toArray, List.set_cons_zero, List.set_cons_succ]
            refine Await.step (i := 11) (o := _) (by kernel_rfl) rfl (fun K1 hK1' => ?_)
            go_simp
            refine (CWQ.out _ (FE.out _ (hS (by kernel_rfl))).1.2).mono ?_
            rintro e w9 ⟨rfl, b9⟩
            (try go_wp2_with fail)
            refine hK1'.out _ _ ?_ (fun hS => ?_)
            · exact Until.of (FI.out _ ((FE.out _ (hS (by kernel_rfl))).1.below b9) ((FE.out _ (hS (by kernel_rfl))).2.1.below b9) ((FE.out _ (hS (by kernel_rfl))).2.2.below b9))
            clear hK1' K1
            refine Await.pure (i := 12) (v := ?_) rfl (by kernel_rfl) (by kernel_rfl) (by kernel_rfl) (by kernel_rfl) (fun _ _ _ h => h) (Or.inl ⟨by rfl, ?_⟩) (by assumption) ?_
            rotate_left
            · (intro wa _; go_simp; try with_reducible rfl)
            simp only [Act.put, List.getElem_toArray, List.getElem_cons_zero, List.getElem_cons_succ, List.setIfInBounds_toArray, List.set_cons_zero, List.set_cons_succ]
            refine Await.pure (i := 13) (v := ?_) rfl (by kernel_rfl) (by kernel_rfl) (by kernel_rfl) (by kernel_rfl) (fun _ _ _ h => h) (Or.inl ⟨by rfl, ?_⟩) (by assumption) ?_
            rotate_left
            · (intro wa _; go_simp; try with_reducible rfl)
            simp only [Act.put, List.getElem_toArray, List.getElem_cons_zero, List.getElem_cons_succ, List.setIfInBounds_toArray, List.set_cons_zero, List.set_cons_succ]
            have HW2 := Lib.hid (HW1.out.below b9)
            have HB2 := Lib.hid (HB1.out.trans (b9.mono HB1.out.size))
            have hw9 : w1.heap.size < w9.heap.size := HW2.out.lt
            have a0 := HW2.out.cell HX.out
            have f0 := HW2.out.free q
            clear b9 HB1 HW1
            refine Await.step (i := 14) (o := _) (by kernel_rfl) rfl (fun K1 hK1' => ?_)
            go_simp
            refine hK1'.out _ _ ?_ (fun hS => ?_)
            · exact Until.over (by kernel_rfl)
            clear hK1' K1
            refine Await.done (by kernel_rfl) ?_ _
            have HWN := Lib.hid (HW2.out.set q (.int .i64 x))
            have HBN : Hid (Below U.heap.size U (w9.setCell ⟨w1.heap.size, q, none⟩ (.int .i64 x))) := HB2.out.setCell (p := ⟨w1.heap.size, q, none⟩) HL1b.out _
            clear FE FI HW2 HB2 hS
            go_wp2
            go_roundw
            case rel => exact ⟨j + 1, _, by omega, by go_num, HCY, HWN, HBN⟩
            case measure => simp [RowKit.intOf]; omega
        obtain rfl : j = m := by omega
        have HCx : Hid (IntZ cs 8 (fun t => farS n K t 0 (List.flatten (α := tPair.D) (D.take (k + 1))))) := HC.out.congr fun t _ => by rw [gone_full HRD.out (Nat.le_of_eq HM.out)]
        clear HC
        go_wp2
        go_roundw
        case rel => exact ⟨k + 1, cs, by omega, by go_num, HCx, HW, HBr⟩
        case measure => simp [RowKit.intOf]; omega
    obtain rfl : k = nr := by omega
    have HCx : Hid (IntZ cs 8 (fun t => farS n K t 0 (List.flatten (α := tPair.D) D))) := HC.out.congr fun t _ => by rw [List.take_of_length_le (by have := HNR.out; omega)]
    have HFB : Hid (∀ t : Nat, 0 ≤ farS n K t 0 (List.flatten (α := tPair.D) D) ∧ farS n K t 0 (List.flatten (α := tPair.D) D) ≤ 5000) := fun t => farS_bnd HMM.out ⟨Int.le_refl _, by omega⟩ (teams_flat HON.out)
    have HSB : Hid (∀ i, i ≤ 8 → 0 ≤ sumZN (fun t => 2 * farS n K t 0 (List.flatten (α := tPair.D) D)) i ∧ sumZN (fun t => 2 * farS n K t 0 (List.flatten (α := tPair.D) D)) i ≤ 80000) := fun i hi => by
      have h9 := sumZN_bnd (f := fun t => 2 * farS n K t 0 (List.flatten (α := tPair.D) D)) (n := 8) (lo := 0) (hi := 10000) (fun t ht => by have := HFB.out t; exact ⟨by omega, by omega⟩) i hi
      omega
    have HST : Hid (∀ i, sumZN (fun t => 2 * farS n K t 0 (List.flatten (α := tPair.D) D)) (i + 1) = sumZN (fun t => 2 * farS n K t 0 (List.flatten (α := tPair.D) D)) i + 2 * farS n K i 0 (List.flatten (α := tPair.D) D)) := fun i => rfl
    have HS0 : Hid (sumZN (fun t => 2 * farS n K t 0 (List.flatten (α := tPair.D) D)) 0 = 0) := rfl
    have HVV := Lib.hid HVX.out
    clear HVX HC
    generalize sumZN (fun t => 2 * farS n K t 0 (List.flatten (α := tPair.D) D)) = SS at *
    obtain ⟨G, hG⟩ : ∃ G : Nat → Int, G = fun (t : Nat) => farS n K t 0 (List.flatten (α := tPair.D) D) := ⟨_, rfl⟩
    have HCG : Hid (IntZ cs 8 G) := by rw [hG]; exact HCx.out
    have HGB : Hid (∀ t : Nat, 0 ≤ G t ∧ G t ≤ 5000) := by rw [hG]; exact HFB.out
    have HSG : Hid (∀ i, SS (i + 1) = SS i + 2 * G i) := by rw [hG]; exact HST.out
    clear hG HCx HFB HST
    have HSZ : Hid ((Try.prog.info? 87).map (·.size) = some cs.size) := by show _ = _; rw [HCG.out.1]; kernel_rfl
    have HBE : Hid (Below w.heap.size w wr) := HB.out.trans (HBr.out.mono HB.out.size)
    go_wp2_with (first | (refine wpList_load_row rfl 87 (.tmp 5) rfl w1.heap.size rfl 87 cs (0, 0) _ HW.out Try.underlying87 rfl HSZ.out ?_))
    generalize wr = w4 at *
    go_loopw [10, 46] (fun sv iv wr => ∃ (i : Nat) (x : Int), i ≤ 8 ∧ iv = .int .i64 i ∧ sv = .int .i64 x ∧ Hid (x = SS i) ∧ wr = w4) (fun _ iv _ => 8 - (RowKit.intOf iv).toNat)
    case atStart => exact ⟨0, 0, Nat.zero_le _, rfl, rfl, HS0.out.symm, rfl⟩
    case round =>
      obtain ⟨i, x, hi9, rfl, rfl, HXV, rfl⟩ := hrel
      by_cases hlt : i < 8
      · have hj1 : (i : Int) < 8 := by omega
        have hb2 := HSB.out i hi9
        rw [← HXV.out] at hb2
        have hb3 := HGB.out i
        have HXN : Hid (x + 2 * G i = SS (i + 1)) := by show _ = _; rw [HSG.out, ← HXV.out]
        have hrun := run_index8 HCG.out hlt wr
        generalize G i = g at *
        go_wp2
        go_roundw
        case rel => exact ⟨i + 1, x + 2 * g, by omega, by go_num, rfl, HXN, trivial⟩
        case measure => simp [RowKit.intOf]; omega
      obtain rfl : i = 8 := by omega
      go_wp2
      go_ret
      exact ⟨by rw [HVV.out, HXV.out]; rfl, HBE.out⟩
end Go.Proofs.Ytfkfolglfmmkoaa
