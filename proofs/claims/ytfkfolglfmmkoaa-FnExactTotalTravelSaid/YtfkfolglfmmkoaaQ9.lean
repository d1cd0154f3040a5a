/-
  Packed: Trip2, Trip3, GamesBase, RndImplA, GamesFuns, GamesImpl, RndImplD, RndImplE.
-/
import Derived.BigRegion
import Derived.Test.YtfkfolglfmmkoaaQ3
import Derived.Test.YtfkfolglfmmkoaaQ4
import Derived.Test.YtfkfolglfmmkoaaQ6
import Derived.Test.YtfkfolglfmmkoaaQ7
set_option linter.unusedVariables false
namespace Go.Proofs.Ytfkfolglfmmkoaa
open Go.RowKit

def hostsP (n : Nat) (D : List PairL) : Prop := List.length (α := PairL) D ≤ 14 ∧ ∀ r ∈ D, ∀ tm : Int, -1 ≤ hostV tm r ∧ hostV tm r ≤ (n : Int) - 1
theorem hosts_of {n : Nat} {D : List PairL} (h : schedP n D) : hostsP n D := ⟨h.2.1, fun r hr tm => hostV_round h hr tm⟩
theorem km_bnd {n : Nat} {K : List Int} (M : Metric n K) {p q : Nat} (hp : p < n) (hq : q < n) : 0 ≤ getI K (p * n + q) ∧ getI K (p * n + q) ≤ 5000 := M.nonneg p q (by omega) (by omega) (by omega) (by omega)
theorem schedule_cells {w : World} {a : Option Addr} {c : Nat} {d : List PairL} (h : RdA tPairSS w [.slice a (List.length (α := PairL) d) c] d) {n i : Nat} (hn : List.length (α := PairL) d = n) (hi : i < n) : ∃ r, d[i]? = some r := ⟨_, List.getElem?_eq_getElem (by rw [hn]; exact hi)⟩
set_option maxRecDepth 100000 in
set_option maxHeartbeats 4000000 in
theorem l11Trip_spec (n : Nat) (vk : Value) (K : List Int) (vr : Value) (D : List PairL) (t : Nat) (w : World) (M : Metric n K) (HH : hostsP n D) (ht : t < n) (h : IntRow w vk K.length (getI K)) (hr : RdA tPairSS w [vr] D) :
    Calls Try.prog 70 #[.agg #[.int .i64 n, vk], vr, .int .i64 t] w fun e w' => e = .returned (.int .i64 (tripT n K D t)) ∧ Below w.heap.size w w' := by
  obtain ⟨ka, kc, rfl, hkn, _⟩ := h.form
  obtain ⟨ra, rc, rfl, hrn⟩ := schedule_form hr
  obtain ⟨nk, hnk⟩ : ∃ nk, K.length = nk := ⟨_, rfl⟩
  obtain ⟨nr, hnr⟩ : ∃ nr, List.length (α := PairL) D = nr := ⟨_, rfl⟩
  obtain ⟨U, hU⟩ : ∃ U, w.alloc (.cells #[.int .i64 n, .slice ka K.length kc] 26) = U := ⟨_, rfl⟩
  have bU : Below w.heap.size w U := by rw [← hU]; exact (Below.refl _ _).alloc (Nat.le_refl _) _
  have HS : Hid (MapAt U w.heap.size n ka K.length kc K) := by rw [← hU]; exact MapAt.made h
  have HR : Hid (RdA tPairSS U [.slice ra (List.length (α := PairL) D) rc] D) := hr.below bU
  have HB := Lib.hid bU
  have HM := Lib.hid M
  have HHH := Lib.hid HH
  have HNR := Lib.hid hnr
  have h14 : nr ≤ 14 := by rw [← hnr]; exact HH.1
  have h8 := M.eight
  have HLEN : Hid (nk = n * n) := by rw [← hnk]; exact M.len
  have HCV := Lib.hid (fun v r x wa h => l11Venue_spec v r x wa h)
  obtain ⟨W, hW⟩ : ∃ W, tripT n K D t = W := ⟨_, rfl⟩
  have HW0 : Hid ((0 : Int) + wayT n K t t (D.drop 0) = W) := by show _ = _; rw [Int.zero_add]; exact hW
  rw [hnk] at hkn hU HS ⊢
  rw [hnr] at hrn ⊢
  rw [hW]
  clear h hr hnk hnr bU M HH hW
  obtain ⟨c0, c1⟩ := HS.out.cells
  go_enter Try.func70, Try.ntmps70
  go_wp2
  clear hU c0 c1
  go_loopw [7, 8, 15] (fun av sv iv wr => ∃ (k p : Nat) (s : Int), k ≤ nr ∧ iv = .int .i64 k ∧ av = .int .i64 p ∧ sv = .int .i64 s ∧ p < n ∧ 0 ≤ s ∧ s ≤ 5000 * k ∧ Hid (s + wayT n K t p (D.drop k) = W) ∧ Hid (Below U.heap.size U wr)) (fun _ _ iv _ => nr - (RowKit.intOf iv).toNat)
  case atStart => exact ⟨0, t, 0, Nat.zero_le _, rfl, rfl, rfl, ht, Int.le_refl _, by omega, HW0, Below.refl _ _⟩
  case round =>
    clear HW0
    obtain ⟨k, p, s, hk9, rfl, rfl, rfl, hp, hs0, hs5, HV, HBr⟩ := hrel
    have HSr := Lib.hid (HS.out.below HBr.out)
    obtain ⟨c0, c1⟩ := HSr.out.cells
    obtain ⟨z, hz⟩ : ∃ z : Nat, p * n = z := ⟨_, rfl⟩
    have e1 : (p : Int) * (n : Int) = (z : Int) := by rw [← hz]; exact (Int.natCast_mul p n).symm
    have hz64 : z ≤ 64 := by rw [← hz]; exact Nat.le_trans (Nat.mul_le_mul (show p ≤ 8 by omega) (show n ≤ 8 by omega)) (by decide)
    have HLT : Hid (∀ q, q < n → z + q < nk ∧ 0 ≤ getI K (z + q) ∧ getI K (z + q) ≤ 5000) := fun q hq => ⟨by rw [← hz, HLEN.out]; exact at_lt hp hq, by rw [← hz]; exact km_bnd HM.out hp hq⟩
    have HKM : Hid (∀ q : Nat, kmI n K (p : Int) (q : Int) = getI K (z + q)) := fun q => by rw [← hz]; rfl
    clear hz
    by_cases hlt : k < nr
    · obtain ⟨r, hrr⟩ : ∃ r : PairL, D[k]? = some r := ⟨_, List.getElem?_eq_getElem (by rw [HNR.out]; exact hlt)⟩
      obtain ⟨rb, ro, xa, xc, hra, hcap2, hq, hrd, hx63⟩ := round_cells (HR.out.below HBr.out) hrr
      subst hra
      rw [HNR.out] at hcap2
      have hj1 : (k : Int) < (nr : Int) := by omega
      have HV2 : Hid (s + (if 0 ≤ hostV t r then kmI n K p (hostV t r) + wayT n K t (hostV t r) (D.drop (k + 1)) else wayT n K t p (D.drop (k + 1))) = W) := by show _ = _; rw [← HV.out, drop_at hrr, wayT_cons]
      have hbd := HHH.out.2 r (List.mem_of_getElem? hrr) t
      have CV := Lib.hid (HCV.out _ r t wr hrd)
      obtain ⟨xn, hxn⟩ : ∃ xn, List.length (α := tPair.D) r = xn := ⟨_, rfl⟩
      rw [hxn] at hq hx63 CV
      clear hrr hxn hrd HV
      obtain ⟨v, hv⟩ : ∃ v, hostV t r = v := ⟨_, rfl⟩
      rw [hv] at hbd CV HV2
      clear hv
      go_wp2_with fail
      refine CV.out.mono ?_
      rintro e w1 ⟨rfl, b⟩
      have HB1 := Lib.hid (HBr.out.trans (b.mono HBr.out.size))
      have HS1 := Lib.hid (HSr.out.below b)
      clear b c0 c1 hq CV
      obtain ⟨c0, c1⟩ := HS1.out.cells
      by_cases hv0 : 0 ≤ v
      · obtain ⟨q, rfl⟩ : ∃ q : Nat, v = q := ⟨v.toNat, by omega⟩
        have g1 : decide ((0 : Int) ≤ (q : Int)) = true := decide_eq_true hv0
        obtain ⟨hlq, hl0, hl5⟩ := HLT.out q (by omega)
        obtain ⟨bo, oo, rfl, hcap, q0⟩ := int_at HS1.out.2 hlq
        have t1 : ((z : Int) + (q : Int)).toNat = z + q := by omega
        have t2 : (z : Int) + (q : Int) < (nk : Int) := by omega
        have HVx : Hid (s + getI K (z + q) + wayT n K t q (D.drop (k + 1)) = W) := by
          show _ = _
          rw [← HV2.out, if_pos hv0, HKM.out]
          omega
        clear HV2
        generalize getI K (z + q) = x at *
        go_wp2
        go_roundw
        case rel => exact ⟨k + 1, q, s + x, by omega, by go_num, rfl, rfl, by omega, by omega, by omega, HVx, HB1⟩
        case measure => simp [RowKit.intOf]; omega
      · have g1 : decide ((0 : Int) ≤ v) = false := decide_eq_false hv0
        have HVx : Hid (s + wayT n K t p (D.drop (k + 1)) = W) := by show _ = _; rw [← HV2.out, if_neg hv0]
        clear HV2
        go_wp2
        go_roundw
        case rel => exact ⟨k + 1, p, s, by omega, by go_num, rfl, rfl, hp, hs0, by omega, HVx, HB1⟩
        case measure => simp [RowKit.intOf]; omega
    obtain rfl : k = nr := by omega
    obtain ⟨hlq, hl0, hl5⟩ := HLT.out t ht
    obtain ⟨bo, oo, rfl, hcap, q0⟩ := int_at HSr.out.2 hlq
    have t1 : ((z : Int) + (t : Int)).toNat = z + t := by omega
    have t2 : (z : Int) + (t : Int) < (nk : Int) := by omega
    have HVx : Hid (W = s + getI K (z + t)) := by
      show _ = _
      rw [← HV.out, List.drop_of_length_le (by have := HNR.out; omega), ← HKM.out]
      rfl
    generalize getI K (z + t) = x at *
    go_wp2
    go_ret
    exact ⟨by rw [HVx.out]; rfl, HB.out.trans (HBr.out.mono HB.out.size)⟩
set_option maxRecDepth 100000 in
set_option maxHeartbeats 4000000 in
theorem l11Total_spec (n : Nat) (vk : Value) (K : List Int) (vr : Value) (D : List PairL) (w : World) (M : Metric n K) (HH : hostsP n D) (h : IntRow w vk K.length (getI K)) (hr : RdA tPairSS w [vr] D) :
    Calls Try.prog 73 #[.agg #[.int .i64 n, vk], vr] w fun e w' => e = .returned (.int .i64 (travT n K D)) ∧ Below w.heap.size w w' := by
  obtain ⟨ka, kc, rfl, hkn, _⟩ := h.form
  obtain ⟨nk, hnk⟩ : ∃ nk, K.length = nk := ⟨_, rfl⟩
  obtain ⟨U, hU⟩ : ∃ U, w.alloc (.cells #[.int .i64 n, .slice ka K.length kc] 26) = U := ⟨_, rfl⟩
  have bU : Below w.heap.size w U := by rw [← hU]; exact (Below.refl _ _).alloc (Nat.le_refl _) _
  have HS : Hid (MapAt U w.heap.size n ka K.length kc K) := by rw [← hU]; exact MapAt.made h
  have HR : Hid (RdA tPairSS U [vr] D) := hr.below bU
  have HB := Lib.hid bU
  have CT : Hid (∀ (t : Nat) wa, t < n → IntRow wa (.slice ka nk kc) nk (getI K) → RdA tPairSS wa [vr] D → Calls Try.prog 70 #[.agg #[.int .i64 n, .slice ka nk kc], vr, .int .i64 t] wa fun e w' => e = .returned (.int .i64 (tripT n K D t)) ∧ Below wa.heap.size wa w') := fun t wa ht h1 h2 => l11Trip_spec n _ K vr D t wa M HH ht (by rw [hnk]; exact h1) h2
  have HBD : Hid (∀ t, t < n → 0 ≤ tripT n K D t ∧ tripT n K D t ≤ 75000) := fun t ht => by
    have h9 := wayT_bnd M (tm := t) ⟨by omega, by omega⟩ D t (fun r hr => HH.2 r hr t) ⟨by omega, by omega⟩
    have := HH.1
    unfold tripT
    omega
  have HSB : Hid (∀ k, k ≤ n → 0 ≤ sumZN (fun t => tripT n K D t) k ∧ sumZN (fun t => tripT n K D t) k ≤ 600000) := fun k hk => by
    have h9 := sumZN_bnd (f := fun t => tripT n K D t) (n := n) (lo := 0) (hi := 75000) (fun t ht => HBD.out t ht) k hk
    have := M.eight
    omega
  have h8 := M.eight
  have HST : Hid (∀ t, sumZN (fun t => tripT n K D t) (t + 1) = sumZN (fun t => tripT n K D t) t + tripT n K D t) := fun t => rfl
  have HS0 : Hid (sumZN (fun t => tripT n K D t) 0 = 0) := rfl
  unfold travT
  generalize sumZN (fun t => tripT n K D t) = SS at *
  rw [hnk] at hkn hU HS ⊢
  clear h hr hnk bU M HH
  obtain ⟨c0, c1⟩ := HS.out.cells
  go_enter Try.func73, Try.ntmps73
  go_wp2
  clear hU c0 c1
  go_loopw [5, 6] (fun sv tv wr => ∃ (t : Nat) (s : Int), t ≤ n ∧ tv = .int .i64 t ∧ sv = .int .i64 s ∧ Hid (s = SS t) ∧ Hid (Below U.heap.size U wr)) (fun _ tv _ => n - (RowKit.intOf tv).toNat)
  case atStart => exact ⟨0, 0, Nat.zero_le _, rfl, rfl, HS0.out.symm, Below.refl _ _⟩
  case round =>
    obtain ⟨t, s, ht9, rfl, rfl, HV, HBr⟩ := hrel
    have HSr := Lib.hid (HS.out.below HBr.out)
    obtain ⟨c0, c1⟩ := HSr.out.cells
    by_cases hlt : t < n
    · have hj1 : (t : Int) < (n : Int) := by omega
      have hb1 := HBD.out t hlt
      have hb2 := HSB.out t ht9
      rw [← HV.out] at hb2
      have HVN : Hid (s + tripT n K D t = SS (t + 1)) := by show _ = _; rw [HST.out, ← HV.out]
      have CTt := Lib.hid (CT.out t wr hlt HSr.out.2 (HR.out.below HBr.out))
      generalize tripT n K D t = x at *
      go_wp2_with fail
      refine CTt.out.mono ?_
      rintro e w1 ⟨rfl, b⟩
      have HB1 := Lib.hid (HBr.out.trans (b.mono HBr.out.size))
      clear b c0 c1 CTt
      go_wp2
      go_roundw
      case rel => exact ⟨t + 1, s + x, by omega, by go_num, rfl, HVN, HB1⟩
      case measure => simp [RowKit.intOf]; omega
    obtain rfl : t = n := by omega
    go_wp2
    go_ret
    exact ⟨by rw [← HV.out]; rfl, HB.out.trans (HBr.out.mono HB.out.size)⟩
end Go.Proofs.Ytfkfolglfmmkoaa
set_option linter.unusedVariables false
namespace Go.Proofs.Ytfkfolglfmmkoaa
open Go.RowKit

def tripV (R : Bool) (s : Int) (K : List Int) (D : List PairL) (tm : Int) : Int := if R = true then tripT s.toNat K D tm else -1
def travV (R : Bool) (s : Int) (K : List Int) (D : List PairL) : Int := if R = true then travT s.toNat K D else -1
def floorV (R : Bool) (s : Int) (K : List Int) (D : List PairL) : Int := if R = true then floorT s.toNat K D else -1
set_option maxRecDepth 100000 in
set_option maxHeartbeats 4000000 in
theorem tripOf_spec (s : Int) (vk : Value) (K : List Int) (vr : Value) (D : List PairL) (tm : Int) (R : Bool) (w : World) (hR : R = true ↔ mapP s K ∧ schedP s D ∧ (0 ≤ tm ∧ tm ≤ s - 1)) (h : IntRow w vk K.length (getI K)) (hr : RdA tPairSS w [vr] D) (hw : tPairSS.wt D ≤ 1048576) :
    Calls Try.prog 28 #[.agg #[.int .i64 s, vk], vr, .int .i64 tm] w fun e w' => e = .returned (.int .i64 (tripV R s K D tm)) ∧ Below w.heap.size w w' := by
  obtain ⟨ka, kc, rfl, hkn, _⟩ := h.form
  obtain ⟨nk, hnk⟩ : ∃ nk, K.length = nk := ⟨_, rfl⟩
  obtain ⟨r1, hr1⟩ := boolEx (mapP s K)
  obtain ⟨r2, hr2⟩ := boolEx (schedP s D)
  obtain ⟨U, hU⟩ : ∃ U, w.alloc (.cells #[.int .i64 s, .slice ka K.length kc] 26) = U := ⟨_, rfl⟩
  have HS : Hid (MapAt U w.heap.size s ka K.length kc K) := by rw [← hU]; exact MapAt.made h
  have bU : Below w.heap.size w U := by rw [← hU]; exact (Below.refl _ _).alloc (Nat.le_refl _) _
  have HB := Lib.hid bU
  have HR : Hid (RdA tPairSS U [vr] D) := hr.below bU
  have CM := Lib.hid (mapOk_spec s (.slice ka K.length kc) K r1 U hr1 (h.below bU (Nat.le_refl _)))
  have CS := Lib.hid (fun wa h => isSchedule_spec vr D s r2 wa hr2 h hw)
  have HNK := Lib.hid hnk
  have HR1 := Lib.hid hr1
  have HR2 := Lib.hid hr2
  have HRR := Lib.hid hR
  have HV : Hid (tripV R s K D tm = if R = true then tripT s.toNat K D tm else -1) := rfl
  rw [hnk] at hkn hU HS CM ⊢
  clear h hr hR hnk hr1 hr2 bU hw
  generalize tripV R s K D tm = V at *
  obtain ⟨c0, c1⟩ := HS.out.cells
  go_enter Try.func28, Try.ntmps28
  go_wp2_with fail
  clear hU
  refine CM.out.mono ?_
  rintro e w1 ⟨rfl, bb⟩
  have HS1 := Lib.hid (HS.out.below bb)
  have HRA := Lib.hid (HR.out.below bb)
  have HB1 := Lib.hid (HB.out.trans (bb.mono HB.out.size))
  clear bb c0 c1 HS HB CM HR
  obtain ⟨c0, c1⟩ := HS1.out.cells
  cases r1 with
  | false =>
    have hf : R = false := by cases R with | false => rfl | true => have := HR1.out.2 (HRR.out.1 rfl).1; cases this
    have HVX : Hid (V = -1) := by show _ = _; rw [HV.out, hf]; rfl
    go_wp2
    go_ret
    exact ⟨by rw [HVX.out]; rfl, HB1.out⟩
  | true =>
  have HMP : Hid (mapP s K) := HR1.out.1 (by first | rfl | trivial)
  have hs := HMP.out.1
  obtain ⟨hs1, hs2⟩ := hs
  clear HR1
  go_wp2_with fail
  refine (CS.out _ HRA.out).mono ?_
  rintro e w2 ⟨rfl, bb⟩
  have HS2 := Lib.hid (HS1.out.below bb)
  have HRB := Lib.hid (HRA.out.below bb)
  have HB2 := Lib.hid (HB1.out.trans (bb.mono HB1.out.size))
  clear bb c0 c1 HS1 HB1 HRA CS
  obtain ⟨c0, c1⟩ := HS2.out.cells
  cases r2 with
  | false =>
    have hf : R = false := by cases R with | false => rfl | true => have := HR2.out.2 (HRR.out.1 rfl).2.1; cases this
    have HVX : Hid (V = -1) := by show _ = _; rw [HV.out, hf]; rfl
    go_wp2
    go_ret
    exact ⟨by rw [HVX.out]; rfl, HB2.out⟩
  | true =>
  have HSP : Hid (schedP s D) := HR2.out.1 (by first | rfl | trivial)
  clear HR2
  obtain ⟨r3, hr3⟩ := boolEx (0 ≤ tm ∧ tm ≤ s - 1)
  have HR3 := Lib.hid hr3
  clear hr3
  go_wp2_with fail
  refine (l01In_bool _ _ _ r3 HR3.out _).mono ?_
  rintro e wx ⟨rfl, rfl⟩
  cases r3 with
  | false =>
    have hf : R = false := by cases R with | false => rfl | true => have := HR3.out.2 (HRR.out.1 rfl).2.2; cases this
    have HVX : Hid (V = -1) := by show _ = _; rw [HV.out, hf]; rfl
    go_wp2
    go_ret
    exact ⟨by rw [HVX.out]; rfl, HB2.out⟩
  | true =>
  have ht := HR3.out.1 (by first | rfl | trivial)
  have hf : R = true := HRR.out.2 ⟨HMP.out, HSP.out, ht⟩
  obtain ⟨n, rfl⟩ : ∃ n : Nat, s = n := ⟨s.toNat, by omega⟩
  obtain ⟨t, rfl, kt⟩ := nat_in ht
  have HMM : Hid (Metric n K) := by have h9 := HMP.out.metric; rw [Int.toNat_natCast] at h9; exact h9
  have HVX : Hid (V = tripT n K D t) := by show _ = _; rw [HV.out, hf, if_pos rfl, Int.toNat_natCast]
  have CT := Lib.hid (l11Trip_spec n (.slice ka nk kc) K vr D t w2 HMM.out (hosts_of HSP.out) kt (by rw [HNK.out]; exact HS2.out.2) HRB.out)
  rw [← HVX.out] at CT
  clear HR3 HRR HV hf
  go_wp2_with fail
  refine CT.out.mono ?_
  rintro e w3 ⟨rfl, bb⟩
  have HB3 := Lib.hid (HB2.out.trans (bb.mono HB2.out.size))
  clear bb c0 c1
  go_wp2
  go_ret
  exact ⟨rfl, HB3.out⟩
set_option maxRecDepth 100000 in
set_option maxHeartbeats 4000000 in
theorem totalTravel_spec (s : Int) (vk : Value) (K : List Int) (vr : Value) (D : List PairL) (R : Bool) (w : World) (hR : R = true ↔ mapP s K ∧ schedP s D) (h : IntRow w vk K.length (getI K)) (hr : RdA tPairSS w [vr] D) (hw : tPairSS.wt D ≤ 1048576) :
    Calls Try.prog 31 #[.agg #[.int .i64 s, vk], vr] w fun e w' => e = .returned (.int .i64 (travV R s K D)) ∧ Below w.heap.size w w' := by
  obtain ⟨ka, kc, rfl, hkn, _⟩ := h.form
  obtain ⟨nk, hnk⟩ : ∃ nk, K.length = nk := ⟨_, rfl⟩
  obtain ⟨r1, hr1⟩ := boolEx (mapP s K)
  obtain ⟨r2, hr2⟩ := boolEx (schedP s D)
  obtain ⟨U, hU⟩ : ∃ U, w.alloc (.cells #[.int .i64 s, .slice ka K.length kc] 26) = U := ⟨_, rfl⟩
  have HS : Hid (MapAt U w.heap.size s ka K.length kc K) := by rw [← hU]; exact MapAt.made h
  have bU : Below w.heap.size w U := by rw [← hU]; exact (Below.refl _ _).alloc (Nat.le_refl _) _
  have HB := Lib.hid bU
  have HR : Hid (RdA tPairSS U [vr] D) := hr.below bU
  have CM := Lib.hid (mapOk_spec s (.slice ka K.length kc) K r1 U hr1 (h.below bU (Nat.le_refl _)))
  have CS := Lib.hid (fun wa h => isSchedule_spec vr D s r2 wa hr2 h hw)
  have HNK := Lib.hid hnk
  have HR1 := Lib.hid hr1
  have HR2 := Lib.hid hr2
  have HRR := Lib.hid hR
  have HV : Hid (travV R s K D = if R = true then travT s.toNat K D else -1) := rfl
  rw [hnk] at hkn hU HS CM ⊢
  clear h hr hR hnk hr1 hr2 bU hw
  generalize travV R s K D = V at *
  obtain ⟨c0, c1⟩ := HS.out.cells
  go_enter Try.func31, Try.ntmps31
  go_wp2_with fail
  clear hU
  refine CM.out.mono ?_
  rintro e w1 ⟨rfl, bb⟩
  have HS1 := Lib.hid (HS.out.below bb)
  have HRA := Lib.hid (HR.out.below bb)
  have HB1 := Lib.hid (HB.out.trans (bb.mono HB.out.size))
  clear bb c0 c1 HS HB CM HR
  obtain ⟨c0, c1⟩ := HS1.out.cells
  cases r1 with
  | false =>
    have hf : R = false := by cases R with | false => rfl | true => have := HR1.out.2 (HRR.out.1 rfl).1; cases this
    have HVX : Hid (V = -1) := by show _ = _; rw [HV.out, hf]; rfl
    go_wp2
    go_ret
    exact ⟨by rw [HVX.out]; rfl, HB1.out⟩
  | true =>
  have HMP : Hid (mapP s K) := HR1.out.1 (by first | rfl | trivial)
  have hs := HMP.out.1
  obtain ⟨hs1, hs2⟩ := hs
  clear HR1
  go_wp2_with fail
  refine (CS.out _ HRA.out).mono ?_
  rintro e w2 ⟨rfl, bb⟩
  have HS2 := Lib.hid (HS1.out.below bb)
  have HRB := Lib.hid (HRA.out.below bb)
  have HB2 := Lib.hid (HB1.out.trans (bb.mono HB1.out.size))
  clear bb c0 c1 HS1 HB1 HRA CS
  obtain ⟨c0, c1⟩ := HS2.out.cells
  cases r2 with
  | false =>
    have hf : R = false := by cases R with | false => rfl | true => have := HR2.out.2 (HRR.out.1 rfl).2; cases this
    have HVX : Hid (V = -1) := by show _ = _; rw [HV.out, hf]; rfl
    go_wp2
    go_ret
    exact ⟨by rw [HVX.out]; rfl, HB2.out⟩
  | true =>
  have HSP : Hid (schedP s D) := HR2.out.1 (by first | rfl | trivial)
  clear HR2
  have hf : R = true := HRR.out.2 ⟨HMP.out, HSP.out⟩
  obtain ⟨n, rfl⟩ : ∃ n : Nat, s = n := ⟨s.toNat, by omega⟩
  have HMM : Hid (Metric n K) := by have h9 := HMP.out.metric; rw [Int.toNat_natCast] at h9; exact h9
  have HVX : Hid (V = travT n K D) := by show _ = _; rw [HV.out, hf, if_pos rfl, Int.toNat_natCast]
  have CT := Lib.hid (l11Total_spec n (.slice ka nk kc) K vr D w2 HMM.out (hosts_of HSP.out) (by rw [HNK.out]; exact HS2.out.2) HRB.out)
  rw [← HVX.out] at CT
  clear HRR HV hf
  go_wp2_with fail
  refine CT.out.mono ?_
  rintro e w3 ⟨rfl, bb⟩
  have HB3 := Lib.hid (HB2.out.trans (bb.mono HB2.out.size))
  clear bb c0 c1
  go_wp2
  go_ret
  exact ⟨rfl, HB3.out⟩
set_option maxRecDepth 100000 in
set_option maxHeartbeats 4000000 in
theorem travelFloor_spec (s : Int) (vk : Value) (K : List Int) (vr : Value) (D : List PairL) (R : Bool) (w : World) (hR : R = true ↔ mapP s K ∧ schedP s D) (h : IntRow w vk K.length (getI K)) (hr : RdA tPairSS w [vr] D) (hw : tPairSS.wt D ≤ 1048576) :
    Calls Try.prog 32 #[.agg #[.int .i64 s, vk], vr] w fun e w' => e = .returned (.int .i64 (floorV R s K D)) ∧ Below w.heap.size w w' := by
  obtain ⟨ka, kc, rfl, hkn, _⟩ := h.form
  obtain ⟨nk, hnk⟩ : ∃ nk, K.length = nk := ⟨_, rfl⟩
  obtain ⟨r1, hr1⟩ := boolEx (mapP s K)
  obtain ⟨r2, hr2⟩ := boolEx (schedP s D)
  obtain ⟨U, hU⟩ : ∃ U, w.alloc (.cells #[.int .i64 s, .slice ka K.length kc] 26) = U := ⟨_, rfl⟩
  have HS : Hid (MapAt U w.heap.size s ka K.length kc K) := by rw [← hU]; exact MapAt.made h
  have bU : Below w.heap.size w U := by rw [← hU]; exact (Below.refl _ _).alloc (Nat.le_refl _) _
  have HB := Lib.hid bU
  have HR : Hid (RdA tPairSS U [vr] D) := hr.below bU
  have CM := Lib.hid (mapOk_spec s (.slice ka K.length kc) K r1 U hr1 (h.below bU (Nat.le_refl _)))
  have CS := Lib.hid (fun wa h => isSchedule_spec vr D s r2 wa hr2 h hw)
  have HNK := Lib.hid hnk
  have HR1 := Lib.hid hr1
  have HR2 := Lib.hid hr2
  have HRR := Lib.hid hR
  have HV : Hid (floorV R s K D = if R = true then floorT s.toNat K D else -1) := rfl
  rw [hnk] at hkn hU HS CM ⊢
  clear h hr hR hnk hr1 hr2 bU hw
  generalize floorV R s K D = V at *
  obtain ⟨c0, c1⟩ := HS.out.cells
  go_enter Try.func32, Try.ntmps32
  go_wp2_with fail
  clear hU
  refine CM.out.mono ?_
  rintro e w1 ⟨rfl, bb⟩
  have HS1 := Lib.hid (HS.out.below bb)
  have HRA := Lib.hid (HR.out.below bb)
  have HB1 := Lib.hid (HB.out.trans (bb.mono HB.out.size))
  clear bb c0 c1 HS HB CM HR
  obtain ⟨c0, c1⟩ := HS1.out.cells
  cases r1 with
  | false =>
    have hf : R = false := by cases R with | false => rfl | true => have := HR1.out.2 (HRR.out.1 rfl).1; cases this
    have HVX : Hid (V = -1) := by show _ = _; rw [HV.out, hf]; rfl
    go_wp2
    go_ret
    exact ⟨by rw [HVX.out]; rfl, HB1.out⟩
  | true =>
  have HMP : Hid (mapP s K) := HR1.out.1 (by first | rfl | trivial)
  have hs := HMP.out.1
  obtain ⟨hs1, hs2⟩ := hs
  clear HR1
  go_wp2_with fail
  refine (CS.out _ HRA.out).mono ?_
  rintro e w2 ⟨rfl, bb⟩
  have HS2 := Lib.hid (HS1.out.below bb)
  have HRB := Lib.hid (HRA.out.below bb)
  have HB2 := Lib.hid (HB1.out.trans (bb.mono HB1.out.size))
  clear bb c0 c1 HS1 HB1 HRA CS
  obtain ⟨c0, c1⟩ := HS2.out.cells
  cases r2 with
  | false =>
    have hf : R = false := by cases R with | false => rfl | true => have := HR2.out.2 (HRR.out.1 rfl).2; cases this
    have HVX : Hid (V = -1) := by show _ = _; rw [HV.out, hf]; rfl
    go_wp2
    go_ret
    exact ⟨by rw [HVX.out]; rfl, HB2.out⟩
  | true =>
  have HSP : Hid (schedP s D) := HR2.out.1 (by first | rfl | trivial)
  clear HR2
  have hf : R = true := HRR.out.2 ⟨HMP.out, HSP.out⟩
  obtain ⟨n, rfl⟩ : ∃ n : Nat, s = n := ⟨s.toNat, by omega⟩
  have HMM : Hid (Metric n K) := by have h9 := HMP.out.metric; rw [Int.toNat_natCast] at h9; exact h9
  have HHH : Hid (hostsP n D) := hosts_of HSP.out
  have HVX : Hid (V = floorT n K D) := by show _ = _; rw [HV.out, hf, if_pos rfl, Int.toNat_natCast]
  have HCV := Lib.hid (fun v r x wa h => l11Venue_spec v r x wa h)
  have HLEN : Hid (nk = n * n) := by show _ = _; rw [← HNK.out]; exact HMM.out.len
  have HFB : Hid (∀ t : Nat, t < n → 0 ≤ farT n K t D ∧ farT n K t D ≤ 5000) := fun t ht => farT_bnd HMM.out ⟨by omega, by omega⟩ D (fun r hr => HHH.out.2 r hr t)
  have HSB : Hid (∀ k, k ≤ n → 0 ≤ sumZN (fun t => 2 * farT n K t D) k ∧ sumZN (fun t => 2 * farT n K t D) k ≤ 80000) := fun k hk => by
    have h9 := sumZN_bnd (f := fun t => 2 * farT n K t D) (n := n) (lo := 0) (hi := 10000) (fun t ht => by have := HFB.out t ht; exact ⟨by omega, by omega⟩) k hk
    have := HMM.out.eight
    omega
  have HST : Hid (∀ t, sumZN (fun t => 2 * farT n K t D) (t + 1) = sumZN (fun t => 2 * farT n K t D) t + 2 * farT n K t D) := fun t => rfl
  have HS0 : Hid (sumZN (fun t => 2 * farT n K t D) 0 = 0) := rfl
  have HVS : Hid (V = sumZN (fun t => 2 * farT n K t D) n) := HVX.out
  generalize sumZN (fun t => 2 * farT n K t D) = SS at *
  obtain ⟨ra, rc, hvr, hrn⟩ := schedule_form HRB.out
  subst hvr
  obtain ⟨nr, hnr⟩ : ∃ nr, List.length (α := PairL) D = nr := ⟨_, rfl⟩
  have HNR := Lib.hid hnr
  rw [hnr] at hrn ⊢
  have h14 : nr ≤ 14 := by rw [← hnr]; exact HHH.out.1
  have h8 := HMM.out.eight
  clear HRR HV hf hnr HVX HSP HMP
  go_wp2
  clear c0 c1
  go_loopw [5, 6] (fun sv tv wr => ∃ (t : Nat) (x : Int), t ≤ n ∧ tv = .int .i64 t ∧ sv = .int .i64 x ∧ Hid (x = SS t) ∧ Hid (Below w2.heap.size w2 wr)) (fun _ tv _ => n - (RowKit.intOf tv).toNat)
  case atStart => exact ⟨0, 0, Nat.zero_le _, rfl, rfl, HS0.out.symm, Below.refl _ _⟩
  case round =>
    obtain ⟨t, x, ht9, rfl, rfl, HV, HBr⟩ := hrel
    have HSr := Lib.hid (HS2.out.below HBr.out)
    obtain ⟨c0, c1⟩ := HSr.out.cells
    by_cases hlt : t < n
    · have hj1 : (t : Int) < (n : Int) := by omega
      have hb1 := HFB.out t hlt
      have hb2 := HSB.out t ht9
      rw [← HV.out] at hb2
      have HVN : Hid (x + 2 * farT n K t D = SS (t + 1)) := by show _ = _; rw [HST.out, ← HV.out]
      obtain ⟨z, hz⟩ : ∃ z : Nat, t * n = z := ⟨_, rfl⟩
      have e1 : (t : Int) * (n : Int) = (z : Int) := by rw [← hz]; exact (Int.natCast_mul t n).symm
      have hz64 : z ≤ 64 := by rw [← hz]; exact Nat.le_trans (Nat.mul_le_mul (show t ≤ 8 by omega) (show n ≤ 8 by omega)) (by decide)
      have HLT : Hid (∀ q, q < n → z + q < nk ∧ 0 ≤ getI K (z + q) ∧ getI K (z + q) ≤ 5000) := fun q hq => ⟨by rw [← hz, HLEN.out]; exact at_lt hlt hq, by rw [← hz]; exact km_bnd HMM.out hlt hq⟩
      have HKM : Hid (∀ q : Nat, kmI n K (t : Int) (q : Int) = getI K (z + q)) := fun q => by rw [← hz]; rfl
      obtain ⟨F, hF⟩ : ∃ F, farT n K t D = F := ⟨_, rfl⟩
      have HF0 : Hid (max 0 (farT n K t (D.drop 0)) = F) := by show _ = _; rw [← hF]; have := hb1.1; show max 0 (farT n K t D) = farT n K t D; omega
      rw [hF] at hb1 HVN
      clear hz hF
      go_wp2
      clear c0 c1
      generalize wr = w4 at *
      go_loopw [7, 29] (fun fv iv wr => ∃ (k : Nat) (f : Int), k ≤ nr ∧ iv = .int .i64 k ∧ fv = .int .i64 f ∧ 0 ≤ f ∧ Hid (max f (farT n K t (D.drop k)) = F) ∧ Hid (Below w4.heap.size w4 wr)) (fun _ iv _ => nr - (RowKit.intOf iv).toNat)
      case atStart => exact ⟨0, 0, Nat.zero_le _, rfl, rfl, Int.le_refl _, HF0, Below.refl _ _⟩
      case round =>
        clear HF0
        obtain ⟨k, f, hk9, rfl, rfl, hf0, HW, HB4⟩ := hrel
        have HSx := Lib.hid (HSr.out.below HB4.out)
        have HRx := Lib.hid ((HRB.out.below HBr.out).below HB4.out)
        obtain ⟨c0, c1⟩ := HSx.out.cells
        by_cases hlk : k < nr
        · obtain ⟨r, hrr⟩ : ∃ r : PairL, D[k]? = some r := ⟨_, List.getElem?_eq_getElem (by rw [HNR.out]; exact hlk)⟩
          obtain ⟨rb, ro, xa, xc, hra, hcap2, hq, hrd, hx63⟩ := round_cells HRx.out hrr
          subst hra
          rw [HNR.out] at hcap2
          have hj2 : (k : Int) < (nr : Int) := by omega
          have HW2 : Hid (max f (if 0 ≤ hostV t r then max (kmI n K t (hostV t r)) (farT n K t (D.drop (k + 1))) else farT n K t (D.drop (k + 1))) = F) := by show _ = _; rw [← HW.out, drop_at hrr, farT_cons]
          have hbd := HHH.out.2 r (List.mem_of_getElem? hrr) t
          have CV := Lib.hid (HCV.out _ r t wr hrd)
          obtain ⟨xn, hxn⟩ : ∃ xn, List.length (α := tPair.D) r = xn := ⟨_, rfl⟩
          rw [hxn] at hq hx63 CV
          clear hrr hxn hrd HW
          obtain ⟨v, hv⟩ : ∃ v, hostV t r = v := ⟨_, rfl⟩
          rw [hv] at hbd CV HW2
          clear hv
          go_wp2_with fail
          refine CV.out.mono ?_
          rintro e w5 ⟨rfl, b⟩
          have HB5 := Lib.hid (HB4.out.trans (b.mono HB4.out.size))
          have HS5 := Lib.hid (HSx.out.below b)
          clear b c0 c1 hq CV
          obtain ⟨c0, c1⟩ := HS5.out.cells
          by_cases hv0 : 0 ≤ v
          · obtain ⟨q, rfl⟩ : ∃ q : Nat, v = q := ⟨v.toNat, by omega⟩
            have g1 : decide ((0 : Int) ≤ (q : Int)) = true := decide_eq_true hv0
            obtain ⟨hlq, hl0, hl5⟩ := HLT.out q (by omega)
            obtain ⟨bo, oo, rfl, hcap, q0⟩ := int_at HS5.out.2 hlq
            have t1 : ((z : Int) + (q : Int)).toNat = z + q := by omega
            have t2 : (z : Int) + (q : Int) < (nk : Int) := by omega
            have HWx : Hid (max (max f (getI K (z + q))) (farT n K t (D.drop (k + 1))) = F) := by
              show _ = _
              rw [← HW2.out, if_pos hv0, HKM.out]
              omega
            clear HW2
            generalize getI K (z + q) = y at *
            obtain ⟨FF, hFF⟩ : ∃ FF, farT n K t (D.drop (k + 1)) = FF := ⟨_, rfl⟩
            have HFFx := Lib.hid hFF
            rw [hFF] at HWx
            clear hFF
            by_cases hfy : f < y
            · have HWz : Hid (max y (farT n K t (D.drop (k + 1))) = F) := by show _ = _; rw [HFFx.out, ← HWx.out]; omega
              have n1 : ¬ y < f := by omega
              go_wp2
              go_roundw
              case rel => exact ⟨k + 1, y, by omega, by go_num, rfl, hl0, HWz, HB5⟩
              case measure => simp [RowKit.intOf]; omega
            · have HWz : Hid (max f (farT n K t (D.drop (k + 1))) = F) := by show _ = _; rw [HFFx.out, ← HWx.out]; omega
              by_cases hyf : y < f
              · go_wp2
                go_roundw
                case rel => exact ⟨k + 1, f, by omega, by go_num, rfl, hf0, HWz, HB5⟩
                case measure => simp [RowKit.intOf]; omega
              · obtain rfl : f = y := by omega
                go_wp2
                go_roundw
                case rel => exact ⟨k + 1, f, by omega, by go_num, rfl, hf0, HWz, HB5⟩
                case measure => simp [RowKit.intOf]; omega
          · have g1 : decide ((0 : Int) ≤ v) = false := decide_eq_false hv0
            have HWx : Hid (max f (farT n K t (D.drop (k + 1))) = F) := by show _ = _; rw [← HW2.out, if_neg hv0]
            clear HW2
            go_wp2
            go_roundw
            case rel => exact ⟨k + 1, f, by omega, by go_num, rfl, hf0, HWx, HB5⟩
            case measure => simp [RowKit.intOf]; omega
        obtain rfl : k = nr := by omega
        have hfF : f = F := by
          have h9 := HW.out
          rw [List.drop_of_length_le (by have := HNR.out; omega)] at h9
          have h8 : max f 0 = F := h9
          omega
        subst hfF
        have HBW := Lib.hid (HBr.out.trans (HB4.out.mono HBr.out.size))
        go_wp2
        go_roundw
        case rel => exact ⟨t + 1, x + 2 * f, by omega, by go_num, rfl, HVN, HBW⟩
        case measure => simp [RowKit.intOf]; omega
    obtain rfl : t = n := by omega
    have HVE : Hid (V = x) := by show _ = _; rw [HVS.out, HV.out]
    go_wp2
    go_ret
    exact ⟨by rw [HVE.out]; rfl, HB2.out.trans (HBr.out.mono HB2.out.size)⟩
end Go.Proofs.Ytfkfolglfmmkoaa
set_option linter.unusedVariables false
namespace Go.Proofs.Ytfkfolglfmmkoaa
open Go.RowKit

theorem bool_of {R : Bool} {p : Prop} (h : R = true ↔ p) (hp : p) : R = true := h.2 hp
theorem bool_not {R : Bool} {p : Prop} (h : R = true ↔ p) (hp : ¬ p) : R = false := by
  cases R with
  | false => rfl
  | true => exact absurd (h.1 rfl) hp

theorem areOpp_impl (n a b : Int) (R : Bool) (w : World) (hR : R = true ↔ (0 ≤ a ∧ a < n ∧ 0 ≤ b ∧ b < n ∧ a ≠ b)) :
    Calls Try.prog 122 #[.int .i64 n, .int .i64 a, .int .i64 b] w fun e w' => e = .returned (.bool R) ∧ w = w' := by
  have HN := Lib.hid (bool_not hR)
  have HY := Lib.hid (bool_of hR)
  clear hR
  by_cases h1 : 0 ≤ a
  case neg =>
    have g1 : decide (0 ≤ a) = false := decide_eq_false h1
    obtain rfl := HN.out fun h => h1 h.1
    clear HN HY h1
    go_enter Try.func122, Try.ntmps122
    go_wp2
    go_ret
    exact ⟨by first | rfl | exact congrArg (fun q => Ending.returned (Value.bool q)) (by unfold bne; rw [g5]; rfl), rfl⟩
  have g1 : decide (0 ≤ a) = true := decide_eq_true h1
  by_cases h2 : a < n
  case neg =>
    have g2 : decide (a < n) = false := decide_eq_false h2
    obtain rfl := HN.out fun h => h2 h.2.1
    clear HN HY h2
    go_enter Try.func122, Try.ntmps122
    go_wp2
    go_ret
    exact ⟨by first | rfl | exact congrArg (fun q => Ending.returned (Value.bool q)) (by unfold bne; rw [g5]; rfl), rfl⟩
  have g2 : decide (a < n) = true := decide_eq_true h2
  by_cases h3 : 0 ≤ b
  case neg =>
    have g3 : decide (0 ≤ b) = false := decide_eq_false h3
    obtain rfl := HN.out fun h => h3 h.2.2.1
    clear HN HY h3
    go_enter Try.func122, Try.ntmps122
    go_wp2
    go_ret
    exact ⟨by first | rfl | exact congrArg (fun q => Ending.returned (Value.bool q)) (by unfold bne; rw [g5]; rfl), rfl⟩
  have g3 : decide (0 ≤ b) = true := decide_eq_true h3
  by_cases h4 : b < n
  case neg =>
    have g4 : decide (b < n) = false := decide_eq_false h4
    obtain rfl := HN.out fun h => h4 h.2.2.2.1
    clear HN HY h4
    go_enter Try.func122, Try.ntmps122
    go_wp2
    go_ret
    exact ⟨by first | rfl | exact congrArg (fun q => Ending.returned (Value.bool q)) (by unfold bne; rw [g5]; rfl), rfl⟩
  have g4 : decide (b < n) = true := decide_eq_true h4
  by_cases h5 : a ≠ b
  case neg =>
    have g5 : (a == b) = true := by simpa using h5
    obtain rfl := HN.out fun h => h5 h.2.2.2.2
    clear HN HY h5
    go_enter Try.func122, Try.ntmps122
    go_wp2
    go_ret
    exact ⟨by first | rfl | exact congrArg (fun q => Ending.returned (Value.bool q)) (by unfold bne; rw [g5]; rfl), rfl⟩
  have g5 : (a == b) = false := beq_eq_false_iff_ne.2 h5
  obtain rfl := HY.out ⟨h1, h2, h3, h4, h5⟩
  clear HN HY h5
  go_enter Try.func122, Try.ntmps122
  go_wp2
  go_ret
  exact ⟨congrArg (fun q => Ending.returned (Value.bool q)) (by unfold bne; rw [g5]; rfl), rfl⟩
theorem bool_ex (p : Prop) : ∃ R : Bool, R = true ↔ p := by
  by_cases h : p
  · exact ⟨true, fun _ => h, fun _ => rfl⟩
  · exact ⟨false, (fun e => by cases e), fun e => absurd e h⟩
end Go.Proofs.Ytfkfolglfmmkoaa
set_option linter.unusedVariables false
namespace Go.Proofs.Ytfkfolglfmmkoaa
open Go.RowKit

def venueP (h a x : Int) : Int := if h = x then 1 else if a = x then 2 else 0
theorem venueOf_impl (h a x : Int) (w : World) :
    Calls Try.prog 120 #[.agg #[.int .i64 h, .int .i64 a], .int .i64 x] w fun e w' => e = .returned (.int .i64 (venueP h a x)) ∧ Below w.heap.size w w' := by
  have b1 : Below w.heap.size w (w.alloc (.cells #[.int .i64 h, .int .i64 a] 63)) := (Below.refl _ _).alloc (Nat.le_refl _) _
  have HB := Lib.hid b1
  clear b1
  by_cases h1 : h = x
  · have g1 : (x == h) = true := beq_iff_eq.2 h1.symm
    have e : venueP h a x = 1 := if_pos h1
    rw [e]
    clear h1 e
    go_enter Try.func120, Try.ntmps120
    go_wp2
    go_ret
    exact ⟨rfl, HB.out⟩
  have g1 : (x == h) = false := beq_eq_false_iff_ne.2 fun e => h1 e.symm
  by_cases h2 : a = x
  · have g2 : (x == a) = true := beq_iff_eq.2 h2.symm
    have e : venueP h a x = 2 := (if_neg h1).trans (if_pos h2)
    rw [e]
    clear h1 h2 e
    go_enter Try.func120, Try.ntmps120
    go_wp2
    go_ret
    exact ⟨rfl, HB.out⟩
  have g2 : (x == a) = false := beq_eq_false_iff_ne.2 fun e => h2 e.symm
  have e : venueP h a x = 0 := (if_neg h1).trans (if_neg h2)
  rw [e]
  clear h1 h2 e
  go_enter Try.func120, Try.ntmps120
  go_wp2
  go_ret
  exact ⟨rfl, HB.out⟩
end Go.Proofs.Ytfkfolglfmmkoaa
set_option linter.unusedVariables false
namespace Go.Proofs.Ytfkfolglfmmkoaa
open Go.RowKit

def twoBoxes (f B1 B2 : Nat) : Value := .func (.func f) #[] #[.pointer (some ⟨B1, 0, none⟩), .pointer (some ⟨B2, 0, none⟩)]
end Go.Proofs.Ytfkfolglfmmkoaa
set_option linter.unusedVariables false
namespace Go.Proofs.Ytfkfolglfmmkoaa
open Go.RowKit

theorem SeenN.below {K : Nat} {w w' : World} {B : Nat} {S : Nat → Bool} (h : SeenN K w B S) (hb : Below w.heap.size w w') : SeenN K w' B S :=
  ⟨Nat.lt_of_lt_of_le h.1 hb.size, fun j hj => ⟨(hb.cell (p := ⟨B, j, none⟩) h.1).trans (h.2 j hj).1, (hb.frozen (p := ⟨B, j, none⟩) h.1).trans (h.2 j hj).2⟩⟩
def pairG (g : Nat → GameD) (i : Nat) : Int := (g i).home * 8 + (g i).away
theorem pair_first {n : Int} {m k : Nat} {g : Nat → GameD} (hk : k < m) (hall : ∀ i, i < k → gameP n (g i)) (hg : gameP n (g k)) :
    firstI (atG g (g k).home (g k).away) m 0 = (k : Int) ↔ ¬ hasP (pairG g) (pairG g k) k := by
  rw [firstI_eq m 0 k]
  obtain ⟨⟨_, hn⟩, ⟨q1, q2⟩, ⟨q3, q4⟩, _⟩ := hg
  constructor
  · rintro ⟨_, _, h⟩ ⟨i, hi, e⟩
    obtain ⟨_, ⟨r1, r2⟩, ⟨r3, r4⟩, _⟩ := hall i hi
    have h2 := h i (Nat.zero_le _) hi
    unfold pairG at e
    have e1 : (g i).home = (g k).home := by omega
    have e2 : (g i).away = (g k).away := by omega
    unfold atG at h2
    rw [e1, e2] at h2
    simp at h2
  · intro h
    refine ⟨⟨Nat.zero_le _, by omega⟩, by simp [atG], fun i _ hi => ?_⟩
    cases hq : atG g (g k).home (g k).away i with
    | false => rfl
    | true =>
      unfold atG at hq
      simp only [Bool.and_eq_true, beq_iff_eq] at hq
      exact absurd ⟨i, hi, by unfold pairG; rw [hq.1, hq.2]⟩ h

end Go.Proofs.Ytfkfolglfmmkoaa
set_option linter.unusedVariables false
namespace Go.Proofs.Ytfkfolglfmmkoaa
open Go.RowKit

set_option maxRecDepth 100000 in
set_option maxHeartbeats 4000000 in
theorem isRound_impl (N : Int) (v : Value) (r : PairL) (R : Bool) (hR : R = true ↔ onceP N (teamsR r)) (hN : N ≤ 8) (w : World) (h : RdA tPairS w [v] r) :
    Calls Try.prog 112 #[.int .i64 N, v] w fun e w' => e = .returned (.bool R) ∧ Below w.heap.size w w' := by
  obtain ⟨a, c, rfl, hn⟩ := pairs_form h
  have HR := Lib.hid h
  clear h
  obtain ⟨n, hd⟩ : ∃ n, List.length (α := tPair.D) r = n := ⟨_, rfl⟩
  have HD := Lib.hid hd
  rw [hd] at hn ⊢
  clear hd
  have HNo := Lib.hid (boolF hR)
  have HY := Lib.hid (boolT hR)
  clear hR
  have s1 := SeenN.made 8 w #[.bool false, .bool false, .bool false, .bool false, .bool false, .bool false, .bool false, .bool false] 147 (fun j hj => by match j, hj with | 0, _ => rfl | 1, _ => rfl | 2, _ => rfl | 3, _ => rfl | 4, _ => rfl | 5, _ => rfl | 6, _ => rfl | 7, _ => rfl)
  have HS0 := Lib.hid s1
  have HB0 : Hid (Below w.heap.size w (w.alloc (.cells #[.bool false, .bool false, .bool false, .bool false, .bool false, .bool false, .bool false, .bool false] 147))) := (Below.refl _ _).alloc (Nat.le_refl _) _
  clear s1
  go_enter Try.func112, Try.ntmps112
  go_wp2
  go_loopw [10] (fun iv wr => ∃ (k : Nat) (M : Nat → Bool), k ≤ n ∧ iv = .int .i64 k ∧ Hid (onceP N (teamsR (r.take k))) ∧ Hid (SeenN 8 wr w.heap.size M) ∧ Hid (∀ j : Nat, j < 8 → (M j = true ↔ (j : Int) ∈ teamsR (r.take k))) ∧ Hid (Below w.heap.size w wr)) (fun iv _ => n - (RowKit.intOf iv).toNat)
  case atStart => exact ⟨0, _, Nat.zero_le _, rfl, ⟨fun t ht => by simp [teamsR] at ht, by simp [teamsR]⟩, HS0, fun j _ => (by simp [teamsR]), HB0⟩
  case round =>
    clear HS0 HB0
    obtain ⟨k, M, hk9, rfl, HV, HS, HM, HB⟩ := hrel
    by_cases hlt : k < n
    · obtain ⟨p, hp⟩ : ∃ p : tPair.D, r[k]? = some p := ⟨_, List.getElem?_eq_getElem (by rw [HD.out]; exact hlt)⟩
      have HRr := HR.out.below HB.out
      obtain ⟨b, off, rfl, hcap, q0, q1⟩ := pair_cells HRr hp
      rw [HD.out] at hcap
      have hj1 : (k : Int) < (n : Int) := by omega
      have HTK : Hid (teamsR (r.take (k + 1)) = teamsR (r.take k) ++ [hm p, aw p]) := by show _ = _; rw [List.take_add_one, hp]; exact teamsR_app _ _
      have HTA : Hid (teamsR r = teamsR (r.take k) ++ hm p :: aw p :: teamsR (r.drop (k + 1))) := by
        show _ = _
        have e : teamsR r = teamsR (r.take k ++ r.drop k) := by rw [List.take_append_drop]
        rw [e, teamsR_app, drop_at hp]; rfl
      clear hp HRr
      generalize hm p = ph at *
      generalize aw p = pa at *
      obtain ⟨U, hU⟩ : ∃ U, wr.alloc (.cells #[.int .i64 ph, .int .i64 pa] 63) = U := ⟨_, rfl⟩
      have bU : Below wr.heap.size wr U := by rw [← hU]; exact (Below.refl _ _).alloc (Nat.le_refl _) _
      have HXU : Hid (BoxN U wr.heap.size [.int .i64 ph, .int .i64 pa]) := by rw [← hU]; exact BoxN.made (Below.refl _ _) rfl
      have HSU := Lib.hid (HS.out.below bU)
      have HBU := Lib.hid (HB.out.trans (bU.mono HB.out.size))
      have HP : Hid (w.heap.size ≠ wr.heap.size) := fun e => by have := HS.out.1; omega
      have x0 := HXU.out.2 0 _ rfl
      have x1 := HXU.out.2 1 _ rfl
      clear bU HS HB
      by_cases ho : 0 ≤ ph ∧ ph < N ∧ 0 ≤ pa ∧ pa < N ∧ ph ≠ pa
      case neg =>
        have HF : R = false := HNo.out (fun e => ho (by
          rw [HTA.out] at e
          have e1 := e.1 ph (List.mem_append_right _ (List.mem_cons_self ..))
          have e2 := e.1 pa (List.mem_append_right _ (List.mem_cons_of_mem _ (List.mem_cons_self ..)))
          refine ⟨e1.1, by omega, e2.1, by omega, fun e3 => ?_⟩
          have h9 := (List.nodup_append.1 e.2).2.1
          subst e3
          exact (List.nodup_cons.1 h9).1 (List.mem_cons_self ..)))
        subst HF
        have CA := Lib.hid (areOpp_impl N ph pa false U (by constructor; (intro h; cases h); (intro h; exact absurd h ho)))
        clear HNo HY HTA HTK HV HM
        go_wp2_with fail
        refine CA.out.mono ?_
        rintro e wx ⟨rfl, rfl⟩
        clear hU CA
        go_wp2
        go_ret
        exact ⟨rfl, HBU.out⟩
      have CA := Lib.hid (areOpp_impl N ph pa true U ⟨fun _ => ho, fun _ => rfl⟩)
      obtain ⟨o1, o2, o3, o4, o5⟩ := ho
      obtain ⟨p, rfl⟩ : ∃ p : Nat, ph = p := ⟨ph.toNat, by omega⟩
      obtain ⟨q, rfl⟩ : ∃ q : Nat, pa = q := ⟨pa.toNat, by omega⟩
      have p8 : p < 8 := by omega
      have q8 : q < 8 := by omega
      have p8' : (p : Int) < 8 := by omega
      have q8' : (q : Int) < 8 := by omega
      have hpq : p ≠ q := fun e => o5 (by rw [e])
      have m0 := (HSU.out.2 p p8).1
      have m1 := (HSU.out.2 q q8).1
      have HMp := Lib.hid (HM.out p p8)
      have HMq := Lib.hid (HM.out q q8)
      have f0 := (HSU.out.2 p p8).2
      have f1 := (HSU.out.2 q q8).2
      by_cases hp1 : M p = true
      · rw [hp1] at m0
        have HF : R = false := HNo.out (fun e => by rw [HTA.out] at e; exact not_once_dup (HMp.out.1 hp1) e)
        subst HF
        clear HNo HY HTA HTK HV HM HMp HMq hp1
        go_wp2_with fail
        refine CA.out.mono ?_
        rintro e wx ⟨rfl, rfl⟩
        clear hU CA
        go_wp2
        go_ret
        exact ⟨rfl, HBU.out⟩
      have hp1' : M p = false := by simpa using hp1
      rw [hp1'] at m0
      by_cases hq1 : M q = true
      · rw [hq1] at m1
        have HF : R = false := HNo.out (fun e => by
          have e3 : teamsR (r.take k) ++ (p : Int) :: (q : Int) :: teamsR (r.drop (k + 1)) = (teamsR (r.take k) ++ [(p : Int)]) ++ (q : Int) :: teamsR (r.drop (k + 1)) := by simp
          rw [HTA.out, e3] at e
          exact not_once_dup (List.mem_append_left _ (HMq.out.1 hq1)) e)
        subst HF
        clear HNo HY HTA HTK HV HM HMp HMq hp1 hq1 hp1'
        go_wp2_with fail
        refine CA.out.mono ?_
        rintro e wx ⟨rfl, rfl⟩
        clear hU CA
        go_wp2
        go_ret
        exact ⟨rfl, HBU.out⟩
      have hq1' : M q = false := by simpa using hq1
      rw [hq1'] at m1
      have HVN : Hid (onceP N (teamsR (r.take (k + 1)))) := by
        show onceP _ _
        rw [HTK.out, show teamsR (r.take k) ++ [(p : Int), (q : Int)] = (teamsR (r.take k) ++ [(p : Int)]) ++ [(q : Int)] by simp]
        refine onceP_push (onceP_push HV.out ⟨o1, by omega⟩ (fun e => hp1 (HMp.out.2 e))) ⟨o3, by omega⟩ (fun e => ?_)
        rcases List.mem_append.1 e with e | e
        · exact hq1 (HMq.out.2 e)
        · have := List.mem_singleton.1 e; omega
      have HMN : Hid (∀ j : Nat, j < 8 → (((M j || decide (j = p)) || decide (j = q)) = true ↔ (j : Int) ∈ teamsR (r.take (k + 1)))) := fun j hj => by
        rw [HTK.out, List.mem_append]
        have h1 := HM.out j hj
        simp only [Bool.or_eq_true, decide_eq_true_eq, List.mem_cons, List.not_mem_nil, or_false]
        rw [h1]
        constructor
        · rintro ((h | h) | h)
          · exact .inl h
          · exact .inr (.inl (by rw [h]))
          · exact .inr (.inr (by rw [h]))
        · rintro (h | h | h)
          · exact .inl (.inl h)
          · exact .inl (.inr (by omega))
          · exact .inr (by omega)
      have HSN : Hid (SeenN 8 ((U.setCell ⟨w.heap.size, p, none⟩ (.bool true)).setCell ⟨w.heap.size, q, none⟩ (.bool true)) w.heap.size (fun j => (M j || decide (j = p)) || decide (j = q))) := (HSU.out.set p p8).set q q8
      have HBN : Hid (Below w.heap.size w ((U.setCell ⟨w.heap.size, p, none⟩ (.bool true)).setCell ⟨w.heap.size, q, none⟩ (.bool true))) := (HBU.out.setCell (Nat.le_refl _) _).setCell (Nat.le_refl _) _
      clear HNo HY HTA HTK HV HM HMp HMq hp1 hq1 hp1' hq1' o5
      go_wp2_with fail
      refine CA.out.mono ?_
      rintro e wx ⟨rfl, rfl⟩
      clear hU CA
      have hne : w.heap.size ≠ wr.heap.size := HP.out
      go_wp2_with fail
      go_region
      all_goals (try go_wp2)
      all_goals go_roundw
      case rel => exact ⟨k + 1, _, by omega, by go_num, HVN, HSN.out.below (Below.refl _ _).drew, HMN, HBN.out.drew⟩
      case measure => simp [RowKit.intOf]; omega
    obtain rfl : k = n := by omega
    obtain rfl := HY.out (by have h9 := HV.out; rw [List.take_of_length_le (by have := HD.out; omega)] at h9; exact h9)
    go_wp2
    go_ret
    exact ⟨rfl, HB.out⟩
end Go.Proofs.Ytfkfolglfmmkoaa
set_option linter.unusedVariables false
namespace Go.Proofs.Ytfkfolglfmmkoaa
open Go.RowKit

theorem notRound_impl (N : Int) (v : Value) (r : PairL) (B : Nat) (R : Bool) (hR : R = true ↔ onceP N (teamsR r)) (hN : N ≤ 8) (w : World) (h : RdA tPairS w [v] r) (v1 : BoxN w B [.int .i64 N]) :
    Calls Try.prog 111 #[v, .pointer (some ⟨B, 0, none⟩)] w fun e w' => e = .returned (.bool (!R)) ∧ Below w.heap.size w w' := by
  have C := Lib.hid (isRound_impl N v r R hR hN w h)
  have c1 := v1.2 0 _ rfl
  clear h hR
  go_enter Try.func111, Try.ntmps111
  go_wp2_with fail
  refine C.out.mono ?_
  rintro e w1 ⟨rfl, b1⟩
  have HB := Lib.hid b1
  clear b1 C c1
  go_wp2
  go_ret
  exact ⟨rfl, HB.out⟩
set_option maxRecDepth 100000 in
set_option maxHeartbeats 4000000 in
theorem indexBad_impl (v : Value) (d : List PairL) (N : Int) (B : Nat) (hN : N ≤ 8) (w : World) (h : RdA tPairSS w [v] d) (v1 : BoxN w B [.int .i64 N]) :
    Calls Try.prog 121 #[v, .func (.func 111) #[] #[.pointer (some ⟨B, 0, none⟩)]] w fun e w' => ∃ z : Int, e = .returned (.int .i64 z) ∧ (0 ≤ z ↔ ¬ ∀ r ∈ d, onceP N (teamsR r)) ∧ Below w.heap.size w w' := by
  obtain ⟨a, c, rfl, hn⟩ := schedule_form h
  have HR := Lib.hid h
  have K1 := Lib.hid v1
  clear h v1
  obtain ⟨n, hd⟩ : ∃ n, List.length (α := PairL) d = n := ⟨_, rfl⟩
  have HD := Lib.hid hd
  rw [hd] at hn ⊢
  clear hd
  go_enter Try.func121, Try.ntmps121
  go_wp2
  go_loopw [8] (fun iv wr => ∃ k : Nat, k ≤ n ∧ iv = .int .i64 k ∧ Hid (∀ r ∈ d.take k, onceP N (teamsR r)) ∧ Hid (Below w.heap.size w wr)) (fun iv _ => n - (RowKit.intOf iv).toNat)
  case atStart => exact ⟨0, Nat.zero_le _, rfl, fun r hr => (by simp at hr), Below.refl _ _⟩
  case round =>
    obtain ⟨k, hk9, rfl, HV, HB⟩ := hrel
    by_cases hlt : k < n
    · obtain ⟨r, hr⟩ : ∃ r : PairL, d[k]? = some r := ⟨_, List.getElem?_eq_getElem (by rw [HD.out]; exact hlt)⟩
      have HRr := HR.out.below HB.out
      obtain ⟨b, off, x, xc, rfl, hcap, q0, hrr, hm63⟩ := round_cells HRr hr
      rw [HD.out] at hcap
      have hj1 : (k : Int) < (n : Int) := by omega
      obtain ⟨R, hR⟩ := boolEx (onceP N (teamsR r))
      have C := Lib.hid (notRound_impl N _ r B R hR hN _ hrr (K1.out.below HB.out))
      have HIN : Hid (r ∈ d) := List.mem_of_getElem? hr
      have HTK : Hid (d.take (k + 1) = d.take k ++ [r]) := by show _ = _; rw [List.take_add_one, hr]; rfl
      clear hr HRr hrr
      obtain ⟨m, hm⟩ : ∃ m, List.length (α := tPair.D) r = m := ⟨_, rfl⟩
      rw [hm] at q0 hm63 C
      clear hm
      cases R with
      | false =>
        have HVx : Hid ((0 : Int) ≤ k ↔ ¬ ∀ r ∈ d, onceP N (teamsR r)) := ⟨fun _ h => (by have := hR.2 (h r HIN.out); cases this), fun _ => Int.natCast_nonneg k⟩
        clear hR HTK HV
        go_wp2_with (go_at_call 111; refine C.out.mono ?_; rintro e w2 ⟨rfl, b2⟩; have HB2 := Lib.hid (HB.out.trans (b2.mono HB.out.size)); clear b2)
        go_ret
        exact ⟨_, rfl, HVx.out, HB2.out⟩
      | true =>
        have HVx : Hid (∀ r ∈ d.take (k + 1), onceP N (teamsR r)) := fun q hq => by
          rw [HTK.out] at hq
          rcases List.mem_append.1 hq with hq | hq
          · exact HV.out q hq
          · rw [List.mem_singleton.1 hq]; exact hR.1 rfl
        clear hR HTK HV
        go_wp2_with (go_at_call 111; refine C.out.mono ?_; rintro e w2 ⟨rfl, b2⟩; have HB2 := Lib.hid (HB.out.trans (b2.mono HB.out.size)); clear b2)
        go_roundw
        case rel => exact ⟨k + 1, by omega, by go_num, HVx, HB2⟩
        case measure => simp [RowKit.intOf]; omega
    obtain rfl : k = n := by omega
    have HVx : Hid ((0 : Int) ≤ -1 ↔ ¬ ∀ r ∈ d, onceP N (teamsR r)) := ⟨fun h => absurd h (by omega), fun h => absurd (fun r hr => HV.out r (by rw [List.take_of_length_le (by have := HD.out; omega)]; exact hr)) h⟩
    clear HV
    go_wp2
    go_ret
    exact ⟨_, rfl, HVx.out, HB.out⟩
theorem containsBad_impl (v : Value) (d : List PairL) (N : Int) (B : Nat) (hN : N ≤ 8) (R : Bool) (hR : R = true ↔ ∀ r ∈ d, onceP N (teamsR r)) (w : World) (h : RdA tPairSS w [v] d) (v1 : BoxN w B [.int .i64 N]) :
    Calls Try.prog 110 #[v, .func (.func 111) #[] #[.pointer (some ⟨B, 0, none⟩)]] w fun e w' => e = .returned (.bool (!R)) ∧ Below w.heap.size w w' := by
  have C := Lib.hid (indexBad_impl v d N B hN w h v1)
  have HR := Lib.hid hR
  clear hR h v1
  go_enter Try.func110, Try.ntmps110
  go_wp2_with fail
  refine C.out.mono ?_
  rintro e w1 ⟨z, rfl, hz, b1⟩
  have HB := Lib.hid b1
  have e : decide (0 ≤ z) = !R := by
    cases R with
    | true => exact decide_eq_false fun h => hz.1 h (HR.out.1 rfl)
    | false => exact decide_eq_true (hz.2 fun h => by have := HR.out.2 h; cases this)
  clear b1 C hz HR
  go_wp2
  go_ret
  exact ⟨by first | rfl | (rw [← e]; rfl) | (rw [e]; rfl), HB.out⟩
set_option maxRecDepth 100000 in
set_option maxHeartbeats 4000000 in
theorem isSchedule_impl (v : Value) (d : List PairL) (N : Int) (R : Bool) (w : World) (hR : R = true ↔ schedP N d) (h : RdA tPairSS w [v] d) (hw : tPairSS.wt d ≤ 1048576) :
    Calls Try.prog 82 #[.int .i64 N, v] w fun e w' => e = .returned (.bool R) ∧ Below w.heap.size w w' := by
  have b1 : Below w.heap.size w (w.alloc (.cells #[.int .i64 N] 3)) := (Below.refl _ _).alloc (Nat.le_refl _) _
  have HB := Lib.hid b1
  have BX : BoxN (w.alloc (.cells #[.int .i64 N] 3)) w.heap.size [.int .i64 N] := BoxN.made (Below.refl _ _) rfl
  have h1 := h.below b1
  obtain ⟨a, c, rfl, hn⟩ := schedule_form h
  have HN := Lib.hid (boolF hR)
  have HY := Lib.hid (boolT hR)
  obtain ⟨r1, hr1⟩ := boolEx (∀ r ∈ d, onceP N (teamsR r))
  have C := Lib.hid (fun hN => containsBad_impl _ d N w.heap.size hN r1 hr1 _ h1 BX)
  clear h h1 BX b1 hR hw
  obtain ⟨n, hd⟩ : ∃ n, List.length (α := PairL) d = n := ⟨_, rfl⟩
  have HD := Lib.hid hd
  rw [hd] at hn C ⊢
  clear hd
  by_cases h2 : 2 ≤ N
  case neg =>
    have g1 : decide (2 ≤ N) = false := decide_eq_false h2
    obtain rfl := HN.out (fun e => h2 e.1.1)
    clear HN HY C hr1
    go_enter Try.func82, Try.ntmps82
    go_wp2
    go_ret
    exact ⟨rfl, HB.out⟩
  have g1 : decide (2 ≤ N) = true := decide_eq_true h2
  by_cases h8 : N ≤ 8
  case neg =>
    have g2 : decide (N ≤ 8) = false := decide_eq_false h8
    obtain rfl := HN.out (fun e => h8 e.1.2)
    clear HN HY C hr1
    go_enter Try.func82, Try.ntmps82
    go_wp2
    go_ret
    exact ⟨rfl, HB.out⟩
  have g2 : decide (N ≤ 8) = true := decide_eq_true h8
  by_cases hl : n ≤ 14
  case neg =>
    have g3 : decide ((n : Int) ≤ 14) = false := decide_eq_false (by omega)
    have g3' : decide (n ≤ 14) = false := decide_eq_false (by omega)
    obtain rfl := HN.out (fun e => hl (by have := e.2.1; rw [HD.out] at this; exact this))
    clear HN HY C hr1
    go_enter Try.func82, Try.ntmps82
    go_wp2
    go_ret
    exact ⟨rfl, HB.out⟩
  have g3 : decide ((n : Int) ≤ 14) = true := decide_eq_true (by omega)
  have g3' : decide (n ≤ 14) = true := decide_eq_true (by omega)
  have e : R = r1 := by
    cases r1 with
    | true => exact HY.out ⟨⟨h2, h8⟩, by rw [HD.out]; exact hl, hr1.1 rfl⟩
    | false => exact HN.out fun h => by have := hr1.2 h.2.2; cases this
  subst e
  have C2 := Lib.hid (C.out h8)
  have hmf : ∀ (fn : Fn) (first cap : Array Value) (w : World), (Instr.makeFunc fn first cap).run Try.prog w = .ok (.func fn first cap) w := fun _ _ _ _ => rfl
  clear HN HY C hr1
  go_enter Try.func82, Try.ntmps82
  go_wp2_with fail
  refine C2.out.mono ?_
  rintro e w1 ⟨rfl, b1⟩
  have HB2 := Lib.hid (HB.out.trans (b1.mono HB.out.size))
  clear b1 C2 HB hmf
  cases R with
  | true =>
    go_wp2
    go_ret
    exact ⟨rfl, HB2.out⟩
  | false =>
    go_wp2
    go_ret
    exact ⟨rfl, HB2.out⟩
end Go.Proofs.Ytfkfolglfmmkoaa
