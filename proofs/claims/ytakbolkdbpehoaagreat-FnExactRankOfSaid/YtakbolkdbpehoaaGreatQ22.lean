/-
  Packed: TyIntSS, RankTy.
-/
import Derived.Test.YtakbolkdbpehoaaGreatQ7
import Derived.Test.YtakbolkdbpehoaaGreatQ10
import Derived.Test.YtakbolkdbpehoaaGreatQ11
import Derived.Test.YtakbolkdbpehoaaGreatQ20
import Derived.Test.YtakbolkdbpehoaaGreatQ21
set_option linter.unusedVariables false
namespace Go.Proofs.YtakbolkdbpehoaaGreat
open Go.RowKit

def tIntSS : Ty := tSl 24 tIntS
theorem opens_IntSS : Opens Tryz.prog 34 tIntSS := opens_sl Tryz.underlying34 (by kernel_rfl) opens_IntS
set_option maxRecDepth 100000 in
set_option maxHeartbeats 2000000 in
theorem y_eq_IntSS (v v' : Value) (d : List tIntS.D) (w : World) (h : RdA tIntSS w [v] d) (h' : RdA tIntSS w [v'] d) : Calls Tryz.prog 22 #[v, v'] w fun e w' => e = .returned (.bool true) ∧ Below w.heap.size w w' := by
  obtain ⟨a, cap, rfl, hn⟩ := rd_row_form h
  obtain ⟨a', cap', rfl, _⟩ := rd_row_form h'
  have HV := Lib.hid h
  have HV' := Lib.hid h'
  clear h h'
  obtain ⟨n, hd⟩ : ∃ n, d.length = n := ⟨_, rfl⟩
  have HD := Lib.hid hd
  rw [hd] at hn HV HV'
  rw [hd]
  clear hd
  go_enter Tryz.func22, Tryz.ntmps22
  go_wp2
  go_loopw [5] (fun i wr => ∃ j : Nat, j ≤ n ∧ i = .int .i64 j ∧ Hid (Below w.heap.size w wr)) (fun i _ => n - (RowKit.intOf i).toNat)
  case atStart => exact ⟨0, Nat.zero_le _, rfl, Below.refl _ _⟩
  case round =>
    obtain ⟨j, hj, rfl, hb⟩ := hrel
    by_cases hlt : j < n
    · obtain ⟨y, hy⟩ : ∃ y, d[j]? = some y := ⟨_, List.getElem?_eq_getElem (by have := HD.out; omega)⟩
      obtain ⟨b, off, k, u, hv, hcap, hc, hu⟩ := rd_cell rfl (RdA.below HV.out hb.out) hy
      obtain ⟨b', off', k', u', hv', hcap', hc', hu'⟩ := rd_cell rfl (RdA.below HV'.out hb.out) hy
      simp only [Value.slice.injEq] at hv hv'
      obtain ⟨rfl, hv2, rfl⟩ := hv
      obtain ⟨rfl, hv2', rfl⟩ := hv'
      clear hv2 hv2'
      rw [HD.out] at hcap hcap'
      have hj0 : (0 : Int) ≤ (j : Int) := by omega
      have hj1 : (j : Int) < (n : Int) := by omega
      have HC := Lib.hid (And.intro hc (And.intro hu (And.intro hc' (And.intro hu' hb.out))))
      clear hc hu hc' hu' HV HV' hy hb
      obtain ⟨S, HSd⟩ : ∃ S : World → Prop, S = fun w' => CellsAt w' b (off + j) [u] ∧ RdA tIntS w' [u] y ∧ CellsAt w' b' (off' + j) [u'] ∧ RdA tIntS w' [u'] y ∧ Below w.heap.size w w' := ⟨_, rfl⟩
      have KS : Hid (∀ wa wb, S wa → Below wa.heap.size wa wb → S wb) := by subst HSd; exact fun wa wb h b => ⟨h.1.below b, h.2.1.below b, h.2.2.1.below b, h.2.2.2.1.below b, h.2.2.2.2.trans (b.mono h.2.2.2.2.size)⟩
      have OS : Hid (∀ wa, S wa → CellsAt wa b (off + j) [u] ∧ RdA tIntS wa [u] y ∧ CellsAt wa b' (off' + j) [u'] ∧ RdA tIntS wa [u'] y ∧ Below w.heap.size w wa) := by subst HSd; exact fun wa h => h
      have IS : Hid (∀ wa, CellsAt wa b (off + j) [u] ∧ RdA tIntS wa [u] y ∧ CellsAt wa b' (off' + j) [u'] ∧ RdA tIntS wa [u'] y ∧ Below w.heap.size w wa → S wa) := by subst HSd; exact fun wa h => h
      clear HSd
      go_wp2_with fail
      refine wp_region_held_drew (S := S) (by kernel_rfl) ?_ (fun hHeld => ?_)
      · exact IS.out _ ((fun (h : CellsAt wr b (off + j) [u] ∧ RdA tIntS wr [u] y ∧ CellsAt wr b' (off' + j) [u'] ∧ RdA tIntS wr [u'] y ∧ Below w.heap.size w wr) (b : Below wr.heap.size wr _) => ⟨h.1.below b, h.2.1.below b, h.2.2.1.below b, h.2.2.2.1.below b, h.2.2.2.2.trans (b.mono h.2.2.2.2.size)⟩) HC.out (Below.refl _ _).drew)
      refine wpAnyH_take (i := 0) (v := ?_) rfl (by kernel_rfl) (by kernel_rfl) (by kernel_rfl) (fun _ _ _ h => h) (Or.inl ⟨by rfl, ?_⟩) hHeld ?_
      rotate_left
      · (intro wa hSw; go_simp; try with_reducible rfl)
      simp only [Act.put, List.getElem_toArray, List.getElem_cons_zero, List.setIfInBounds_toArray, List.set_cons_zero, List.set_cons_succ]
      refine wpAnyH_take (i := 1) (v := ?_) rfl (by kernel_rfl) (by kernel_rfl) (by kernel_rfl) (fun _ _ _ h => h) (Or.inl ⟨by rfl, ?_⟩) hHeld ?_
      rotate_left
      · (intro wa hSw; go_simp; try with_reducible rfl)
      simp only [Act.put, List.getElem_toArray, List.getElem_cons_zero, List.getElem_cons_succ, List.setIfInBounds_toArray, List.set_cons_zero, List.set_cons_succ]
      refine wpAnyH_take (i := 2) (v := ?_) rfl (by kernel_rfl) (by kernel_rfl) (by kernel_rfl) (fun _ _ _ h => h) (Or.inl ⟨by rfl, ?_⟩) hHeld ?_
      rotate_left
      · (intro wa hSw; go_simp; try with_reducible rfl)
      simp only [Act.put, List.getElem_toArray, List.getElem_cons_zero, List.getElem_cons_succ, List.setIfInBounds_toArray, List.set_cons_zero, List.set_cons_succ]
      refine wpAnyH_take (i := 3) (v := ?_) rfl (by kernel_rfl) (by kernel_rfl) (by kernel_rfl) (fun _ _ _ h => h) (Or.inl ⟨by rfl, ?_⟩) hHeld ?_
      rotate_left
      · (intro wa hSw; have K := OS.out _ hSw; have c0 : wa.cell? ⟨b, off + j, none⟩ = some u := K.1.2 0 _ rfl; have c1 : wa.cell? ⟨b', off' + j, none⟩ = some u' := K.2.2.1.2 0 _ rfl; go_simp; try with_reducible rfl)
      simp only [Act.put, List.getElem_toArray, List.getElem_cons_zero, List.getElem_cons_succ, List.setIfInBounds_toArray, List.set_cons_zero, List.set_cons_succ]
      refine wpAnyH_take (i := 4) (v := ?_) rfl (by kernel_rfl) (by kernel_rfl) (by kernel_rfl) (fun _ _ _ h => h) (Or.inl ⟨by rfl, ?_⟩) hHeld ?_
      rotate_left
      · (intro wa hSw; go_simp; try with_reducible rfl)
      simp only [Act.put, List.getElem_toArray, List.getElem_cons_zero, List.getElem_cons_succ, List.setIfInBounds_toArray, List.set_cons_zero, List.set_cons_succ]
      refine wpAnyH_take (i := 5) (v := ?_) rfl (by kernel_rfl) (by kernel_rfl) (by kernel_rfl) (fun _ _ _ h => h) (Or.inl ⟨by rfl, ?_⟩) hHeld ?_
      rotate_left
      · (intro wa hSw; go_simp; try with_reducible rfl)
      simp only [Act.put, List.getElem_toArray, List.getElem_cons_zero, List.getElem_cons_succ, List.setIfInBounds_toArray, List.set_cons_zero, List.set_cons_succ]
      refine wpAnyH_take (i := 6) (v := ?_) rfl (by kernel_rfl) (by kernel_rfl) (by kernel_rfl) (fun _ _ _ h => h) (Or.inl ⟨by rfl, ?_⟩) hHeld ?_
      rotate_left
      · (intro wa hSw; go_simp; try with_reducible rfl)
      simp only [Act.put, List.getElem_toArray, List.getElem_cons_zero, List.getElem_cons_succ, List.setIfInBounds_toArray, List.set_cons_zero, List.set_cons_succ]
      refine wpAnyH_take (i := 7) (v := ?_) rfl (by kernel_rfl) (by kernel_rfl) (by kernel_rfl) (fun _ _ _ h => h) (Or.inl ⟨by rfl, ?_⟩) hHeld ?_
      rotate_left
      · (intro wa hSw; have K := OS.out _ hSw; have c0 : wa.cell? ⟨b, off + j, none⟩ = some u := K.1.2 0 _ rfl; have c1 : wa.cell? ⟨b', off' + j, none⟩ = some u' := K.2.2.1.2 0 _ rfl; go_simp; try with_reducible rfl)
      simp only [Act.put, List.getElem_toArray, List.getElem_cons_zero, List.getElem_cons_succ, List.setIfInBounds_toArray, List.set_cons_zero, List.set_cons_succ]
      refine wpAnyH_ready (rs := [8]) (by kernel_rfl) (by simp) ?_
      refine AllReadyH.cons (o := _) rfl (fun K hK => ?_) AllReadyH.nil
      go_simp
      have KK := OS.out _ hHeld
      refine (y_eq_IntS u u' y _ KK.2.1 KK.2.2.2.1).mono ?_
      rintro e w101 ⟨rfl, b101⟩
      clear KK
      (try go_wp2_with fail)
      refine hK.out _ _ ?_ (fun hHeld101 => ?_)
      · exact KS.out _ _ hHeld b101
      clear hK K
      refine wpAnyH_take (i := 9) (v := ?_) rfl (by kernel_rfl) (by kernel_rfl) (by kernel_rfl) (fun _ _ _ h => h) (Or.inl ⟨by rfl, ?_⟩) hHeld101 ?_
      rotate_left
      · (intro wa hSw; go_simp; try with_reducible rfl)
      simp only [Act.put, List.getElem_toArray, List.getElem_cons_zero, List.getElem_cons_succ, List.setIfInBounds_toArray, List.set_cons_zero, List.set_cons_succ]
      refine wpAnyH_done (by kernel_rfl) ?_ _
      have KE := Lib.hid (OS.out _ hHeld101)
      clear KS OS IS hHeld hHeld101
      have HE := Lib.hid KE.out.2.2.2.2
      clear KE HC
      go_wp2
      go_roundw
      case rel => exact ⟨j + 1, by omega, by go_num, HE.out⟩
      case measure => simp [RowKit.intOf]; omega
    · obtain rfl : j = n := by omega
      go_wp2
      go_ret
      exact ⟨rfl, hb.out⟩
set_option maxRecDepth 100000 in
set_option maxHeartbeats 2000000 in
theorem yb_mk_IntSS (v : Value) (d : List tIntS.D) (k : Int) (lo : Nat) (bs : List Nat) (w : World) (h : tIntSS.Ow w lo [v] d bs) (hnd : bs.Nodup) (h0 : 0 < k) (hk : k + tIntSS.mks d ≤ 1000000000000) : Calls Tryz.prog 27 #[v, .int .i64 k] w (MarkC tIntSS [v] (tIntSS.mkd k d) (tIntSS.mks d) k bs w) := by
  obtain ⟨f, us, R⟩ := RowsOw.of rfl h hnd
  obtain ⟨a, cap, rfl, hn⟩ := rd_row_form (tIntSS.ow_rd h)
  have HR := Lib.hid R
  have HM : Hid (tIntSS.mks d = (d.map tIntS.mks).sum) := rfl
  have HK := Lib.hid hk
  clear R h hnd hk
  obtain ⟨n, hd⟩ : ∃ n, d.length = n := ⟨_, rfl⟩
  have HD := Lib.hid hd
  rw [hd] at hn HR
  rw [hd]
  clear hd
  go_enter Tryz.func27, Tryz.ntmps27
  go_wp2
  go_loopw [1, 5] (fun kv i wr => ∃ j : Nat, j ≤ n ∧ i = .int .i64 j ∧ Hid (kv = .int .i64 (k + (((d.take j).map tIntS.mks).sum : Nat))) ∧ Hid (KeepB ((List.range j).flatMap f) w wr) ∧ Hid (∀ i y, i < j → d[i]? = some y → tIntS.Rd wr (fun q => q ∈ f i) [us i] (tIntS.mkd (k + (((d.take i).map tIntS.mks).sum : Nat)) y))) (fun _ i _ => n - (RowKit.intOf i).toNat)
  case atStart => exact ⟨0, Nat.zero_le _, rfl, (by show _ = _; simp), KeepB.refl _ _, fun i y hi => absurd hi (Nat.not_lt_zero _)⟩
  case round =>
    obtain ⟨j, hj, rfl, hkv, hkb, hrd⟩ := hrel
    by_cases hlt : j < n
    · obtain ⟨y, hy⟩ : ∃ y, d[j]? = some y := ⟨_, List.getElem?_eq_getElem (by have := HD.out; omega)⟩
      have hjl : j < d.length := (List.getElem?_eq_some_iff.1 hy).1
      have hin : ∀ q, q ∈ (List.range j).flatMap f → ∃ i, i < j ∧ q ∈ f i := fun q hq => by obtain ⟨i, hi, hqi⟩ := List.mem_flatMap.1 hq; exact ⟨i, List.mem_range.1 hi, hqi⟩
      obtain ⟨b, off, c, hv, hcap, hc⟩ := HR.out.cell hkb.out (fun q hq hqf => by obtain ⟨i, hi, hqi⟩ := hin q hqf; exact (HR.out.outer q hq).2 i (by omega) hqi) hjl
      have how := KeepB.ow (HR.out.own j y hy) hkb.out (fun q hq hqf => by obtain ⟨i, hi, hqi⟩ := hin q hqf; exact HR.out.apart i j (by omega) hjl (by omega) q hqi hq)
      have HW := Lib.hid how
      simp only [Value.slice.injEq] at hv
      obtain ⟨rfl, hv2, rfl⟩ := hv
      clear hv2
      rw [HD.out] at hcap
      have hts := take_sum (f := tIntS.mks) hy
      have hle := take_sum_le (f := tIntS.mks) (L := d) (j + 1)
      obtain ⟨K, hK⟩ : ∃ K : Int, k + (((d.take j).map tIntS.mks).sum : Nat) = K := ⟨_, rfl⟩
      have hkk := HK.out
      rw [HM.out] at hkk
      have hK0 : 0 < K := by omega
      have hKk : K + (tIntS.mks y : Nat) ≤ 1000000000000 := by omega
      have HK2 : Hid (K + (tIntS.mks y : Nat) = k + (((d.take (j + 1)).map tIntS.mks).sum : Nat)) := (by show _ = _; omega)
      have HKj : Hid (k + (((d.take j).map tIntS.mks).sum : Nat) = K) := hK
      have hkv2 := hkv.out
      rw [hK] at hkv2
      subst hkv2
      clear hts hle hkk hK hin how hkv
      go_wp2_with fail
      refine (yb_mk_IntS (us j) y K lo (f j) wr HW.out (HR.out.nodup j hjl) hK0 hKk).mono ?_
      rintro e w1 ⟨rfl, hr1, hk1⟩
      have HR1 := Lib.hid hr1
      have HKB := Lib.hid (hkb.out.trans hk1)
      have HK1 := Lib.hid hk1
      clear hr1 hk1 hc
      go_wp2
      go_roundw
      case rel =>
        refine ⟨j + 1, by omega, by go_num, (by show _ = _; rw [HK2.out]), (by show KeepB _ _ _; rw [range_flat_succ]; exact HKB.out), fun i z hi hz => ?_⟩
        by_cases hij : i = j
        · subst hij
          rw [hy] at hz
          cases hz
          rw [HKj.out]
          exact HR1.out
        · exact KeepB.rd (hrd.out i z (by omega) hz) HK1.out (HR.out.apart i j (by omega) hjl hij)
      case measure => simp [RowKit.intOf]; omega
    · obtain rfl : j = n := by omega
      have hdone := RowsOw.done rfl (HR.out) (k := k) (w' := wr) (by rw [HD.out]; exact hkb.out) (fun i y hy => hrd.out i y (by have := (List.getElem?_eq_some_iff.1 hy).1; have := HD.out; omega) hy)
      have HF := Lib.hid hdone
      have hkv2 := hkv.out
      rw [List.take_of_length_le (by have := HD.out; omega)] at hkv2
      subst hkv2
      clear hdone hkv
      go_wp2
      go_ret
      exact ⟨(congrArg (fun z : Nat => Ending.returned (.int .i64 (k + (z : Int)))) HM.out).symm, HF.out.1, HF.out.2⟩
theorem y_mk_IntSS (v : Value) (d : List tIntS.D) (k : Int) (lo hi : Nat) (w : World) (h : OwN tIntSS w lo hi [v] d) (h0 : 0 < k) (hk : k + tIntSS.mks d ≤ 1000000000000) : Calls Tryz.prog 27 #[v, .int .i64 k] w (MarkT tIntSS [v] d k lo hi w) :=
  mark_windowC h fun bs ho hnd => yb_mk_IntSS v d k lo bs w ho hnd h0 hk
set_option maxRecDepth 100000 in
set_option maxHeartbeats 2000000 in
theorem y_hd_IntSS (v : Value) (d : List tIntS.D) (k : Int) (w : World) (h : RdA tIntSS w [v] (tIntSS.mkd k d)) (h0 : 0 < k) (hk : k + tIntSS.mks d ≤ 1000000000000) : Calls Tryz.prog 28 #[v, .int .i64 k] w (HeldT tIntSS d k w) := by
  obtain ⟨a, cap, rfl, hn⟩ := rd_row_form h
  have HV := Lib.hid h
  have HM : Hid (tIntSS.mks d = (d.map tIntS.mks).sum) := rfl
  have HK := Lib.hid hk
  have hln : List.length (α := tIntS.D) (tIntSS.mkd k d) = d.length := mkList_len _ _ _ _
  rw [hln] at hn HV
  rw [hln]
  have HL := Lib.hid hln
  clear h hk hln
  obtain ⟨n, hd⟩ : ∃ n, d.length = n := ⟨_, rfl⟩
  have HD := Lib.hid hd
  rw [hd] at hn HV
  rw [hd]
  clear hd
  go_enter Tryz.func28, Tryz.ntmps28
  go_wp2
  go_loopw [1, 5] (fun kv i wr => ∃ j : Nat, j ≤ n ∧ i = .int .i64 j ∧ Hid (kv = .int .i64 (k + (((d.take j).map tIntS.mks).sum : Nat))) ∧ Hid (Below w.heap.size w wr)) (fun _ i _ => n - (RowKit.intOf i).toNat)
  case atStart => exact ⟨0, Nat.zero_le _, rfl, (by show _ = _; simp), Below.refl _ _⟩
  case round =>
    obtain ⟨j, hj, rfl, hkv, hb⟩ := hrel
    by_cases hlt : j < n
    · obtain ⟨y, hy⟩ : ∃ y, d[j]? = some y := ⟨_, List.getElem?_eq_getElem (by have := HD.out; omega)⟩
      have hmy : (mkList tIntS.mks tIntS.mkd k d)[j]? = some (tIntS.mkd (k + (((d.take j).map tIntS.mks).sum : Nat)) y) := by rw [mkList_at, hy]; rfl
      obtain ⟨b, off, c, u, hv, hcap, hc, hu⟩ := rd_cell rfl (RdA.below HV.out hb.out) hmy
      simp only [Value.slice.injEq] at hv
      obtain ⟨rfl, hv2, rfl⟩ := hv
      clear hv2
      rw [HL.out, HD.out] at hcap
      have hts := take_sum (f := tIntS.mks) hy
      have hle := take_sum_le (f := tIntS.mks) (L := d) (j + 1)
      obtain ⟨K, hK⟩ : ∃ K : Int, k + (((d.take j).map tIntS.mks).sum : Nat) = K := ⟨_, rfl⟩
      have hkk := HK.out
      rw [HM.out] at hkk
      have hK0 : 0 < K := by omega
      have hKk : K + (tIntS.mks y : Nat) ≤ 1000000000000 := by omega
      have HK2 : Hid (K + (tIntS.mks y : Nat) = k + (((d.take (j + 1)).map tIntS.mks).sum : Nat)) := (by show _ = _; omega)
      have hkv2 := hkv.out
      rw [hK] at hkv2 hu
      subst hkv2
      have HU := Lib.hid hu
      have c0 : wr.cell? ⟨b, off + j, none⟩ = some u := hc.2 0 _ rfl
      have g7 : decide (K + (tIntS.mks y : Nat) < 0) = false := decide_eq_false (by omega)
      clear hts hle hkk hK hkv hu hmy hc
      go_wp2_with fail
      refine (y_hd_IntS u y K wr HU.out hK0 hKk).mono ?_
      rintro e w1 ⟨rfl, hb1⟩
      have HB := Lib.hid (hb.out.trans (hb1.mono hb.out.size))
      clear hb1 c0
      go_wp2
      go_roundw
      case rel => exact ⟨j + 1, by omega, by go_num, (by show _ = _; rw [HK2.out]), HB.out⟩
      case measure => simp [RowKit.intOf]; omega
    · obtain rfl : j = n := by omega
      have hkv2 := hkv.out
      rw [List.take_of_length_le (by have := HD.out; omega)] at hkv2
      subst hkv2
      clear hkv
      go_wp2
      go_ret
      exact ⟨(congrArg (fun z : Nat => Ending.returned (.int .i64 (k + (z : Int)))) HM.out).symm, hb.out⟩
/-- the lists that the call has made, as data -/
theorem LL.owN {w : World} {B : Nat} {v : Value} {T : List (Value × List Int)} (h : LL w B v T) : OwN tIntSS w B w.heap.size [v] (T.map Prod.snd) := by
  obtain ⟨h1, h2, h3⟩ := h
  have hl : (T.map Prod.snd).length = T.length := List.length_map ..
  have hfl : (List.range (T.map Prod.snd).length).flatMap (fun i => ((T[i]?).map fun x => x.1.ownBlock.toList).getD []) = (T.map Prod.fst).flatMap fun v => v.ownBlock.toList := by
    rw [hl, List.flatMap_def, List.flatMap_def, List.map_map]
    congr 1
    refine List.ext_getElem? fun i => ?_
    rw [List.getElem?_map, List.getElem?_map]
    by_cases hi : i < T.length
    · rw [List.getElem?_range hi, List.getElem?_eq_getElem hi]; simp [List.getElem?_eq_getElem hi]
    · rw [List.getElem?_eq_none (by simpa using hi), List.getElem?_eq_none (by omega)]; rfl
  have hnd := nodup_blocks _ h3
  have h1' : w.ownsRow B 24 1 v (T.map Prod.snd).length (T.map Prod.fst) := by rw [hl]; exact h1
  rw [List.flatMap_cons] at hnd
  have how : tIntSS.Ow w B [v] (T.map Prod.snd) (v.ownBlock.toList ++ (T.map Prod.fst).flatMap fun v => v.ownBlock.toList) := by
    refine ⟨v, T.map Prod.fst, fun i => ((T[i]?).map fun x => x.1.ownBlock.toList).getD [], rfl, h1', fun i y hy => ?_, congrArg (fun z => v.ownBlock.toList ++ z) hfl.symm⟩
    have hy' : Option.map (Prod.snd (α := Value) (β := List Int)) T[i]? = some y := (List.getElem?_map (f := Prod.snd (α := Value) (β := List Int)) (l := T) (i := i)).symm.trans hy
    obtain ⟨x, hx, rfl⟩ := Option.map_eq_some_iff.1 hy'
    have hi := (List.getElem?_eq_some_iff.1 hx).1
    have hx2 : T[i] = x := (List.getElem?_eq_some_iff.1 hx).2
    have hc : ((T.map Prod.fst).drop (i * tIntS.n)).take tIntS.n = [x.1] := by
      show ((T.map Prod.fst).drop (i * 1)).take 1 = [x.1]
      rw [Nat.mul_one, List.drop_eq_getElem_cons (by rw [List.length_map]; exact hi), List.getElem_map, hx2]; rfl
    rw [hc]
    have hfi : (fun i => ((T[i]?).map fun x => x.1.ownBlock.toList).getD []) i = x.1.ownBlock.toList := by simp [hx]
    rw [hfi]
    have ho := h2 x (List.mem_of_getElem? hx)
    have hown : OwN tIntS w B w.heap.size [x.1] x.2 := own_ints ho (fun q hq => (ho.lt q hq).2) (Nat.le_refl _)
    obtain ⟨bs, e1, _⟩ := hown
    have := flat_blocks flat_int e1
    subst this
    exact e1
  exact ⟨_, how, hnd, fun q hq => (tIntSS.ow_lt how q hq).2, Nat.le_refl _⟩
theorem ListsL.owN {w w' : World} {L : List (List Int)} {e : Ending} (h : ListsL w L e w') : MadeT tIntSS L w e w' := by
  obtain ⟨v, T, he, rfl, hl, hb⟩ := h
  exact ⟨v, he, hl.owN, hb⟩
end Go.Proofs.YtakbolkdbpehoaaGreat
set_option linter.unusedVariables false
namespace Go.Proofs.YtakbolkdbpehoaaGreat
open Go.RowKit

theorem mks_lists (L : List (List Int)) : tIntSS.mks L = L.flatten.length := by
  show (L.map fun x => tIntS.mks x).sum = _
  rw [List.length_flatten]
  exact congrArg List.sum (List.map_congr_left fun x _ => mks_IntS x)
theorem marks_if {c : Prop} [Decidable c] {L : List (List Int)} {n : Nat} (h : L.flatten.length = n) (hn : n ≤ 1048576) : tIntSS.mks (if c then L else []) ≤ 100000000000 := by
  have h2 : ∀ M : List (List Int), M = (if c then L else []) → tIntSS.mks M ≤ 100000000000 := by
    intro M hM
    rw [mks_lists, hM]
    split
    · rw [h]; omega
    · simp
  exact h2 _ rfl
theorem split_flat (V gg : Nat → Int) (n : Nat) : ((splitP V gg n).map Prod.snd).flatten.length = n := by
  have h := splitP_sum (V := V) (gg := gg) n
  unfold lenS at h
  rw [List.length_flatten, List.map_map]
  exact h
theorem rank_flat (b : BookD) (G : List Int) (s : Nat) : (rankP b G s).flatten.length = G.length := (rank_perm b G s).length_eq
theorem rank_all (b : BookD) (s : Nat) : (rankP b (allL b.nf) s).flatten.length = b.nf := (rank_flat b _ s).trans (allL_len _)
theorem marks_order {c : Prop} [Decidable c] (b : BookD) (hn : b.nf ≤ 1048576) : tIntS.mks (orderL (if c then rankP b (allL b.nf) 0 else [])) ≤ 100000000000 := by
  rw [mks_IntS]
  unfold orderL
  split
  · split
    · rw [rank_all]; omega
    · simp
  · simp
theorem step_fit {z : Int} (h : IntFit z) : z ≤ 9223372036854775807 := by unfold IntFit at h; omega
end Go.Proofs.YtakbolkdbpehoaaGreat
