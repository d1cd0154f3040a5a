/-
  Packed: TySlc, TyPairSS, Push, First, TextA, Orders, HasMem, TypeRow, TypeGame, Games.
-/
import Derived.Deep.AppendLies
import Derived.Test.YtcbpgbiannpfpaaDoorProg
import Derived.WalkKit
import Derived.BigQuiet
import Derived.Deep.QuietTactic
import Derived.Lib.Hide
import Derived.Outline
import Derived.Deep.RegionHeld3
import Derived.Test.YtcbpgbiannpfpaaDoorQ1
import Derived.Test.YtcbpgbiannpfpaaDoorQ2
set_option linter.unusedVariables false
namespace Go.Proofs.YtcbpgbiannpfpaaDoor
open Go.RowKit

theorem rd_elem {t : TypeId} {e : Ty} {w : World} {B : Nat → Prop} {v : Value} {d : List e.D} (he : e.n = 1) (h : (tSl t e).Rd w B [v] d) {i : Nat} {x : e.D} (hx : d[i]? = some x) :
    ∃ b off cap u, v = .slice (some ⟨b, off, none⟩) d.length cap ∧ d.length ≤ cap ∧ i < d.length ∧ w.cell? ⟨b, off + i, none⟩ = some u ∧ e.Rd w B [u] x := by
  obtain ⟨v', ce, hv, h1, _, h3⟩ := h
  simp only [List.cons.injEq, and_true] at hv
  subst hv
  have hi := (List.getElem?_eq_some_iff.1 hx).1
  rcases h1 with ⟨_, _, _, h0⟩ | ⟨b, off, cap, rfl, _, _, hc, hcap⟩
  · omega
  have hl := e.rd_len (h3 i x hx)
  rw [he] at hl
  obtain ⟨u, hu⟩ := List.length_eq_one_iff.1 hl
  have h4 := (hc i hi).2 0 u (by rw [hu]; rfl)
  rw [he, Nat.mul_one, Nat.add_zero] at h4
  have h5 := h3 i x hx
  rw [hu] at h5
  exact ⟨b, off, cap, u, rfl, hcap, hi, h4, h5⟩
theorem rd_cell {t : TypeId} {e : Ty} {w : World} {B : Nat → Prop} {v : Value} {d : List e.D} (he : e.n = 1) (h : (tSl t e).Rd w B [v] d) {i : Nat} {x : e.D} (hx : d[i]? = some x) :
    ∃ b off cap u, v = .slice (some ⟨b, off, none⟩) d.length cap ∧ d.length ≤ cap ∧ CellsAt w b (off + i) [u] ∧ e.Rd w B [u] x := by
  obtain ⟨b, off, cap, u, h1, h2, _, h4, h5⟩ := rd_elem he h hx
  refine ⟨b, off, cap, u, h1, h2, ⟨World.block_lt_of_cell? w _ h4, fun j y hj => ?_⟩, h5⟩
  match j, hj with
  | 0, hj => simp only [List.getElem?_cons_zero, Option.some.injEq] at hj; subst hj; exact h4
theorem rd_row_form {t : TypeId} {e : Ty} {w : World} {B : Nat → Prop} {v : Value} {d : List e.D} (h : (tSl t e).Rd w B [v] d) : ∃ a cap, v = .slice a d.length cap ∧ d.length ≤ 9223372036854775807 := by
  obtain ⟨v', ce, hv, h1, _⟩ := h
  simp only [List.cons.injEq, and_true] at hv
  subst hv
  obtain ⟨a, c, h2, h3, _⟩ := h1.form
  exact ⟨a, c, h2, h3⟩
theorem flat_nodup {f : Nat → List Nat} : ∀ {n : Nat}, ((List.range n).flatMap f).Nodup → (∀ i, i < n → (f i).Nodup) ∧ ∀ i j, i < n → j < n → i ≠ j → ∀ q, q ∈ f i → q ∉ f j
  | 0, _ => ⟨fun i hi => absurd hi (Nat.not_lt_zero _), fun i j hi => absurd hi (Nat.not_lt_zero _)⟩
  | n + 1, h => by
    rw [List.range_succ, List.flatMap_append, List.nodup_append] at h
    obtain ⟨h1, h2, h3⟩ := h
    have h2' : (f n).Nodup := by simpa using h2
    obtain ⟨a1, a2⟩ := flat_nodup h1
    have h4 : ∀ i, i < n → ∀ q, q ∈ f i → q ∉ f n := fun i hi q hq hq2 => h3 q (List.mem_flatMap.2 ⟨i, List.mem_range.2 hi, hq⟩) q (by simpa using hq2) rfl
    refine ⟨fun i hi => ?_, fun i j hi hj hne q hq hq2 => ?_⟩
    · by_cases e : i = n
      · rw [e]; exact h2'
      · exact a1 i (by omega)
    · by_cases e : i = n
      · rw [e] at hq
        exact h4 j (by omega) q hq2 hq
      · by_cases e2 : j = n
        · rw [e2] at hq2
          exact h4 i (by omega) q hq hq2
        · exact a2 i j (by omega) (by omega) hne q hq hq2
theorem mkList_at {α : Type} {mks : α → Nat} {mkd : Int → α → α} : ∀ (L : List α) (k : Int) (i : Nat), (mkList mks mkd k L)[i]? = (L[i]?).map (mkd (k + (((L.take i).map mks).sum : Nat)))
  | [], _, _ => rfl
  | x :: r, k, 0 => by unfold mkList; simp
  | x :: r, k, i + 1 => by
    unfold mkList
    rw [List.getElem?_cons_succ, List.getElem?_cons_succ, mkList_at r, List.take_succ_cons, List.map_cons, List.sum_cons]
    congr 2
    omega
theorem take_sum {α : Type} {f : α → Nat} {L : List α} {i : Nat} {x : α} (hx : L[i]? = some x) : ((L.take (i + 1)).map f).sum = ((L.take i).map f).sum + f x := by
  rw [List.take_add_one, hx, List.map_append, List.sum_append]; simp
theorem take_sum_le {α : Type} {f : α → Nat} {L : List α} (i : Nat) : ((L.take i).map f).sum ≤ (L.map f).sum := by
  have h := congrArg List.sum (congrArg (List.map f) (List.take_append_drop i L))
  rw [List.map_append, List.sum_append] at h
  omega
theorem range_flat_succ {f : Nat → List Nat} (j : Nat) : (List.range (j + 1)).flatMap f = (List.range j).flatMap f ++ f j := by
  rw [List.range_succ, List.flatMap_append]; simp
structure RowsOw (t : TypeId) (e : Ty) (w : World) (lo : Nat) (v : Value) (d : List e.D) (bs : List Nat) (f : Nat → List Nat) (us : Nat → Value) : Prop where
  row : RecRow 1 w v d.length fun i => [us i]
  own : ∀ i x, d[i]? = some x → e.Ow w lo [us i] x (f i)
  outer : ∀ q, v.ownBlock = some q → q ∈ bs ∧ ∀ i, i < d.length → q ∉ f i
  inner : ∀ i, i < d.length → ∀ q, q ∈ f i → q ∈ bs
  nodup : ∀ i, i < d.length → (f i).Nodup
  apart : ∀ i j, i < d.length → j < d.length → i ≠ j → ∀ q, q ∈ f i → q ∉ f j
theorem RowsOw.of {t : TypeId} {e : Ty} {w : World} {lo : Nat} {v : Value} {d : List e.D} {bs : List Nat} (he : e.n = 1) (h : (tSl t e).Ow w lo [v] d bs) (hnd : bs.Nodup) : ∃ f us, RowsOw t e w lo v d bs f us := by
  obtain ⟨v', xs, f, hv, h1, h2, rfl⟩ := h
  simp only [List.cons.injEq, and_true] at hv
  subst hv
  rw [List.nodup_append] at hnd
  obtain ⟨n1, n2, n3⟩ := hnd
  obtain ⟨a1, a2⟩ := flat_nodup n2
  have hx : ∀ i, i < d.length → (xs.drop (i * e.n)).take e.n = [xs.getD i undef] := fun i hi => by
    have hl := h1.1
    rw [he, Nat.mul_one] at hl
    rw [he, Nat.mul_one, List.drop_eq_getElem_cons (by omega : i < xs.length), List.getD_eq_getElem?_getD, List.getElem?_eq_getElem (by omega : i < xs.length)]
    rfl
  refine ⟨f, fun i => xs.getD i undef, ?_, fun i x hxi => ?_, fun q hq => ⟨List.mem_append_left _ (by rw [hq]; simp), fun i hi hqi => ?_⟩, fun i hi q hq => List.mem_append_right _ (List.mem_flatMap.2 ⟨i, List.mem_range.2 hi, hq⟩), a1, a2⟩
  · have h3 := recRow_own h1 (owns_max h1)
    rw [he] at h3
    exact h3.congr fun i hi => by have := hx i hi; rw [he] at this; exact this
  · have h4 := h2 i x hxi
    rw [hx i (List.getElem?_eq_some_iff.1 hxi).1] at h4
    exact h4
  · exact n3 q (by rw [hq]; simp) q (List.mem_flatMap.2 ⟨i, List.mem_range.2 hi, hqi⟩) rfl
theorem RowsOw.cell {t : TypeId} {e : Ty} {w : World} {lo : Nat} {v : Value} {d : List e.D} {bs : List Nat} {f : Nat → List Nat} {us : Nat → Value} (h : RowsOw t e w lo v d bs f us) {w' : World} {cs : List Nat} (hk : KeepB cs w w') (hc : ∀ q, v.ownBlock = some q → q ∉ cs) {i : Nat} (hi : i < d.length) :
    ∃ b off cap, v = .slice (some ⟨b, off, none⟩) d.length cap ∧ d.length ≤ cap ∧ w'.cell? ⟨b, off + i, none⟩ = some (us i) := by
  have hr := h.row.frame (w' := w') (fun _ q hq hl => hk.block q hl (hc q hq)) hk.size
  rcases hr with ⟨_, _, _, h0⟩ | ⟨b, off, cap, rfl, _, _, hcc, hcap⟩
  · omega
  · have := (hcc i hi).2 0 (us i) rfl
    rw [Nat.mul_one, Nat.add_zero] at this
    exact ⟨b, off, cap, rfl, hcap, this⟩
theorem RowsOw.done {t : TypeId} {e : Ty} {w w' : World} {lo : Nat} {v : Value} {d : List e.D} {bs : List Nat} {f : Nat → List Nat} {us : Nat → Value} (he : e.n = 1) (h : RowsOw t e w lo v d bs f us) {k : Int} (hk : KeepB ((List.range d.length).flatMap f) w w')
    (hm : ∀ i x, d[i]? = some x → e.Rd w' (fun q => q ∈ f i) [us i] (e.mkd (k + (((d.take i).map e.mks).sum : Nat)) x)) : (tSl t e).Rd w' (fun q => q ∈ bs) [v] ((tSl t e).mkd k d) ∧ KeepB bs w w' := by
  have hnot : ∀ q, v.ownBlock = some q → q ∉ (List.range d.length).flatMap f := fun q hq hqf => by
    obtain ⟨i, hi, hqi⟩ := List.mem_flatMap.1 hqf
    exact (h.outer q hq).2 i (List.mem_range.1 hi) hqi
  refine ⟨⟨v, fun i => [us i], rfl, ?_, fun _ q hq => (h.outer q hq).1, fun i x hx => ?_⟩, hk.mono fun q hq => ?_⟩
  · have hl : List.length (α := e.D) ((tSl t e).mkd k d) = d.length := mkList_len _ _ _ _
    rw [hl, he]
    exact h.row.frame (fun _ q hq hl => hk.block q hl (hnot q hq)) hk.size
  · have h1 : (mkList e.mks e.mkd k d)[i]? = some x := hx
    rw [mkList_at] at h1
    obtain ⟨y, hy, rfl⟩ := Option.map_eq_some_iff.1 h1
    exact e.rd_mono (hm i y hy) (h.inner i (List.getElem?_eq_some_iff.1 hy).1)
  · obtain ⟨i, hi, hqi⟩ := List.mem_flatMap.1 hq
    exact h.inner i (List.mem_range.1 hi) q hqi
theorem nodup_blocks : ∀ (L : List Value), L.Pairwise ApartV → (L.flatMap fun v => v.ownBlock.toList).Nodup
  | [], _ => List.nodup_nil
  | v :: L, h => by
    rw [List.flatMap_cons, List.nodup_append]
    obtain ⟨h1, h2⟩ := List.pairwise_cons.1 h
    refine ⟨by cases v.ownBlock <;> simp, nodup_blocks L h2, fun a ha b hb e => ?_⟩
    subst e
    obtain ⟨u, hu, hau⟩ := List.mem_flatMap.1 hb
    have a1 : v.ownBlock = some a := by
      cases hv : v.ownBlock with
      | none => rw [hv] at ha; cases ha
      | some z => rw [hv] at ha; simp at ha; rw [ha]
    have a2 : u.ownBlock = some a := by
      cases hv : u.ownBlock with
      | none => rw [hv] at hau; cases hau
      | some z => rw [hv] at hau; simp at hau; rw [hau]
    exact h1 u hu a a1 a2
end Go.Proofs.YtcbpgbiannpfpaaDoor
set_option linter.unusedVariables false
namespace Go.Proofs.YtcbpgbiannpfpaaDoor
open Go.RowKit

def tPairSS : Ty := tSl 54 tPairS
theorem opens_PairSS : Opens Tryd.prog 39 tPairSS := opens_sl Tryd.underlying39 (by kernel_rfl) opens_PairS
set_option maxRecDepth 100000 in
set_option maxHeartbeats 2000000 in
theorem y_eq_PairSS (v v' : Value) (d : List tPairS.D) (w : World) (h : RdA tPairSS w [v] d) (h' : RdA tPairSS w [v'] d) : Calls Tryd.prog 48 #[v, v'] w fun e w' => e = .returned (.bool true) ∧ Below w.heap.size w w' := by
  obtain ⟨a, cap, rfl, hn⟩ := rd_row_form h
  obtain ⟨a', cap', rfl, _⟩ := rd_row_form h'
  have HV := Lib.hid h
  have HV' := Lib.hid h'
  clear h h'
  obtain ⟨n, hd⟩ : ∃ n, d.length = n := ⟨_, rfl⟩
  have HD := Lib.hid hd
  rw [hd] at hn HV HV'
  rw [hd]
  clear hd
  go_enter Tryd.func48, Tryd.ntmps48
  go_wp2
  go_loopw [5] (fun i wr => ∃ j : Nat, j ≤ n ∧ i = .int .i64 j ∧ Hid (Below w.heap.size w wr)) (fun i _ => n - (RowKit.intOf i).toNat)
  case atStart => exact ⟨0, Nat.zero_le _, rfl, Below.refl _ _⟩
  case round =>
    obtain ⟨j, hj, rfl, hb⟩ := hrel
    by_cases hlt : j < n
    · obtain ⟨y, hy⟩ : ∃ y, d[j]? = some y := ⟨_, List.getElem?_eq_getElem (by have := HD.out; omega)⟩
      obtain ⟨b, off, k, u, hv, hcap, hc, hu⟩ := rd_cell rfl (RdA.below HV.out hb.out) hy
      obtain ⟨b', off', k', u', hv', hcap', hc', hu'⟩ := rd_cell rfl (RdA.below HV'.out hb.out) hy
      simp only [Value.slice.injEq] at hv hv'
      obtain ⟨rfl, hv2, rfl⟩ := hv
      obtain ⟨rfl, hv2', rfl⟩ := hv'
      clear hv2 hv2'
      rw [HD.out] at hcap hcap'
      have hj0 : (0 : Int) ≤ (j : Int) := by omega
      have hj1 : (j : Int) < (n : Int) := by omega
      have HC := Lib.hid (And.intro hc (And.intro hu (And.intro hc' (And.intro hu' hb.out))))
      clear hc hu hc' hu' HV HV' hy hb
      obtain ⟨S, HSd⟩ : ∃ S : World → Prop, S = fun w' => CellsAt w' b (off + j) [u] ∧ RdA tPairS w' [u] y ∧ CellsAt w' b' (off' + j) [u'] ∧ RdA tPairS w' [u'] y ∧ Below w.heap.size w w' := ⟨_, rfl⟩
      have KS : Hid (∀ wa wb, S wa → Below wa.heap.size wa wb → S wb) := by subst HSd; exact fun wa wb h b => ⟨h.1.below b, h.2.1.below b, h.2.2.1.below b, h.2.2.2.1.below b, h.2.2.2.2.trans (b.mono h.2.2.2.2.size)⟩
      have OS : Hid (∀ wa, S wa → CellsAt wa b (off + j) [u] ∧ RdA tPairS wa [u] y ∧ CellsAt wa b' (off' + j) [u'] ∧ RdA tPairS wa [u'] y ∧ Below w.heap.size w wa) := by subst HSd; exact fun wa h => h
      have IS : Hid (∀ wa, CellsAt wa b (off + j) [u] ∧ RdA tPairS wa [u] y ∧ CellsAt wa b' (off' + j) [u'] ∧ RdA tPairS wa [u'] y ∧ Below w.heap.size w wa → S wa) := by subst HSd; exact fun wa h => h
      clear HSd
      go_wp2_with fail
      refine wp_region_held_drew (S := S) (by kernel_rfl) ?_ (fun hHeld => ?_)
      · exact IS.out _ ((fun (h : CellsAt wr b (off + j) [u] ∧ RdA tPairS wr [u] y ∧ CellsAt wr b' (off' + j) [u'] ∧ RdA tPairS wr [u'] y ∧ Below w.heap.size w wr) (b : Below wr.heap.size wr _) => ⟨h.1.below b, h.2.1.below b, h.2.2.1.below b, h.2.2.2.1.below b, h.2.2.2.2.trans (b.mono h.2.2.2.2.size)⟩) HC.out (Below.refl _ _).drew)
      refine wpAnyH_take (i := 0) (v := ?_) rfl (by kernel_rfl) (by kernel_rfl) (by kernel_rfl) (fun _ _ _ h => h) (Or.inl ⟨by rfl, ?_⟩) hHeld ?_
      rotate_left
      · (intro wa hSw; go_simp; try with_reducible rfl)
      simp only [Act.put, List.getElem_toArray, List.getElem_cons_zero, List.setIfInBounds_toArray, List.set_cons_zero, List.set_cons_succ]
      refine wpAnyH_take (i := 1) (v := ?_) rfl (by kernel_rfl) (by kernel_rfl) (by kernel_rfl) (fun _ _ _ h => h) (Or.inl ⟨by rfl, ?_⟩) hHeld ?_
      rotate_left
      · (intro wa hSw; go_simp; try with_reducible rfl)
      simp only [Act.put, List.getElem_toArray, List.getElem_cons_zero, List.getElem_cons_succ, List.setIfInBounds_toArray, List.set_cons_zero, List.set_cons_succ]
      refine wpAnyH_take (i := 2) (v := ?_) rfl (by kernel_rfl) (by kernel_rfl) (by kernel_rfl) (fun _ _ _ h => h) (Or.inl ⟨by rfl, ?_⟩) hHeld ?_
      rotate_left
      · (intro wa hSw; go_simp; try with_reducible rfl)
      simp only [Act.put, List.getElem_toArray, List.getElem_cons_zero, List.getElem_cons_succ, List.setIfInBounds_toArray, List.set_cons_zero, List.set_cons_succ]
      refine wpAnyH_take (i := 3) (v := ?_) rfl (by kernel_rfl) (by kernel_rfl) (by kernel_rfl) (fun _ _ _ h => h) (Or.inl ⟨by rfl, ?_⟩) hHeld ?_
      rotate_left
      · (intro wa hSw; have K := OS.out _ hSw; have c0 : wa.cell? ⟨b, off + j, none⟩ = some u := K.1.2 0 _ rfl; have c1 : wa.cell? ⟨b', off' + j, none⟩ = some u' := K.2.2.1.2 0 _ rfl; go_simp; try with_reducible rfl)
      simp only [Act.put, List.getElem_toArray, List.getElem_cons_zero, List.getElem_cons_succ, List.setIfInBounds_toArray, List.set_cons_zero, List.set_cons_succ]
      refine wpAnyH_take (i := 4) (v := ?_) rfl (by kernel_rfl) (by kernel_rfl) (by kernel_rfl) (fun _ _ _ h => h) (Or.inl ⟨by rfl, ?_⟩) hHeld ?_
      rotate_left
      · (intro wa hSw; go_simp; try with_reducible rfl)
      simp only [Act.put, List.getElem_toArray, List.getElem_cons_zero, List.getElem_cons_succ, List.setIfInBounds_toArray, List.set_cons_zero, List.set_cons_succ]
      refine wpAnyH_take (i := 5) (v := ?_) rfl (by kernel_rfl) (by kernel_rfl) (by kernel_rfl) (fun _ _ _ h => h) (Or.inl ⟨by rfl, ?_⟩) hHeld ?_
      rotate_left
      · (intro wa hSw; go_simp; try with_reducible rfl)
      simp only [Act.put, List.getElem_toArray, List.getElem_cons_zero, List.getElem_cons_succ, List.setIfInBounds_toArray, List.set_cons_zero, List.set_cons_succ]
      refine wpAnyH_take (i := 6) (v := ?_) rfl (by kernel_rfl) (by kernel_rfl) (by kernel_rfl) (fun _ _ _ h => h) (Or.inl ⟨by rfl, ?_⟩) hHeld ?_
      rotate_left
      · (intro wa hSw; go_simp; try with_reducible rfl)
      simp only [Act.put, List.getElem_toArray, List.getElem_cons_zero, List.getElem_cons_succ, List.setIfInBounds_toArray, List.set_cons_zero, List.set_cons_succ]
      refine wpAnyH_take (i := 7) (v := ?_) rfl (by kernel_rfl) (by kernel_rfl) (by kernel_rfl) (fun _ _ _ h => h) (Or.inl ⟨by rfl, ?_⟩) hHeld ?_
      rotate_left
      · (intro wa hSw; have K := OS.out _ hSw; have c0 : wa.cell? ⟨b, off + j, none⟩ = some u := K.1.2 0 _ rfl; have c1 : wa.cell? ⟨b', off' + j, none⟩ = some u' := K.2.2.1.2 0 _ rfl; go_simp; try with_reducible rfl)
      simp only [Act.put, List.getElem_toArray, List.getElem_cons_zero, List.getElem_cons_succ, List.setIfInBounds_toArray, List.set_cons_zero, List.set_cons_succ]
      refine wpAnyH_ready (rs := [8]) (by kernel_rfl) (by simp) ?_
      refine AllReadyH.cons (o := _) rfl (fun K hK => ?_) AllReadyH.nil
      go_simp
      have KK := OS.out _ hHeld
      refine (y_eq_PairS u u' y _ KK.2.1 KK.2.2.2.1).mono ?_
      rintro e w101 ⟨rfl, b101⟩
      clear KK
      (try go_wp2_with fail)
      refine hK.out _ _ ?_ (fun hHeld101 => ?_)
      · exact KS.out _ _ hHeld b101
      clear hK K
      refine wpAnyH_take (i := 9) (v := ?_) rfl (by kernel_rfl) (by kernel_rfl) (by kernel_rfl) (fun _ _ _ h => h) (Or.inl ⟨by rfl, ?_⟩) hHeld101 ?_
      rotate_left
      · (intro wa hSw; go_simp; try with_reducible rfl)
      simp only [Act.put, List.getElem_toArray, List.getElem_cons_zero, List.getElem_cons_succ, List.setIfInBounds_toArray, List.set_cons_zero, List.set_cons_succ]
      refine wpAnyH_done (by kernel_rfl) ?_ _
      have KE := Lib.hid (OS.out _ hHeld101)
      clear KS OS IS hHeld hHeld101
      have HE := Lib.hid KE.out.2.2.2.2
      clear KE HC
      go_wp2
      go_roundw
      case rel => exact ⟨j + 1, by omega, by go_num, HE.out⟩
      case measure => simp [RowKit.intOf]; omega
    · obtain rfl : j = n := by omega
      go_wp2
      go_ret
      exact ⟨rfl, hb.out⟩
set_option maxRecDepth 100000 in
set_option maxHeartbeats 2000000 in
theorem yb_mk_PairSS (v : Value) (d : List tPairS.D) (k : Int) (lo : Nat) (bs : List Nat) (w : World) (h : tPairSS.Ow w lo [v] d bs) (hnd : bs.Nodup) (h0 : 0 < k) (hk : k + tPairSS.mks d ≤ 1000000000000) : Calls Tryd.prog 50 #[v, .int .i64 k] w (MarkC tPairSS [v] (tPairSS.mkd k d) (tPairSS.mks d) k bs w) := by
  obtain ⟨f, us, R⟩ := RowsOw.of rfl h hnd
  obtain ⟨a, cap, rfl, hn⟩ := rd_row_form (tPairSS.ow_rd h)
  have HR := Lib.hid R
  have HM : Hid (tPairSS.mks d = (d.map tPairS.mks).sum) := rfl
  have HK := Lib.hid hk
  clear R h hnd hk
  obtain ⟨n, hd⟩ : ∃ n, d.length = n := ⟨_, rfl⟩
  have HD := Lib.hid hd
  rw [hd] at hn HR
  rw [hd]
  clear hd
  go_enter Tryd.func50, Tryd.ntmps50
  go_wp2
  go_loopw [1, 5] (fun kv i wr => ∃ j : Nat, j ≤ n ∧ i = .int .i64 j ∧ Hid (kv = .int .i64 (k + (((d.take j).map tPairS.mks).sum : Nat))) ∧ Hid (KeepB ((List.range j).flatMap f) w wr) ∧ Hid (∀ i y, i < j → d[i]? = some y → tPairS.Rd wr (fun q => q ∈ f i) [us i] (tPairS.mkd (k + (((d.take i).map tPairS.mks).sum : Nat)) y))) (fun _ i _ => n - (RowKit.intOf i).toNat)
  case atStart => exact ⟨0, Nat.zero_le _, rfl, (by show _ = _; simp), KeepB.refl _ _, fun i y hi => absurd hi (Nat.not_lt_zero _)⟩
  case round =>
    obtain ⟨j, hj, rfl, hkv, hkb, hrd⟩ := hrel
    by_cases hlt : j < n
    · obtain ⟨y, hy⟩ : ∃ y, d[j]? = some y := ⟨_, List.getElem?_eq_getElem (by have := HD.out; omega)⟩
      have hjl : j < d.length := (List.getElem?_eq_some_iff.1 hy).1
      have hin : ∀ q, q ∈ (List.range j).flatMap f → ∃ i, i < j ∧ q ∈ f i := fun q hq => by obtain ⟨i, hi, hqi⟩ := List.mem_flatMap.1 hq; exact ⟨i, List.mem_range.1 hi, hqi⟩
      obtain ⟨b, off, c, hv, hcap, hc⟩ := HR.out.cell hkb.out (fun q hq hqf => by obtain ⟨i, hi, hqi⟩ := hin q hqf; exact (HR.out.outer q hq).2 i (by omega) hqi) hjl
      have how := KeepB.ow (HR.out.own j y hy) hkb.out (fun q hq hqf => by obtain ⟨i, hi, hqi⟩ := hin q hqf; exact HR.out.apart i j (by omega) hjl (by omega) q hqi hq)
      have HW := Lib.hid how
      simp only [Value.slice.injEq] at hv
      obtain ⟨rfl, hv2, rfl⟩ := hv
      clear hv2
      rw [HD.out] at hcap
      have hts := take_sum (f := tPairS.mks) hy
      have hle := take_sum_le (f := tPairS.mks) (L := d) (j + 1)
      obtain ⟨K, hK⟩ : ∃ K : Int, k + (((d.take j).map tPairS.mks).sum : Nat) = K := ⟨_, rfl⟩
      have hkk := HK.out
      rw [HM.out] at hkk
      have hK0 : 0 < K := by omega
      have hKk : K + (tPairS.mks y : Nat) ≤ 1000000000000 := by omega
      have HK2 : Hid (K + (tPairS.mks y : Nat) = k + (((d.take (j + 1)).map tPairS.mks).sum : Nat)) := (by show _ = _; omega)
      have HKj : Hid (k + (((d.take j).map tPairS.mks).sum : Nat) = K) := hK
      have hkv2 := hkv.out
      rw [hK] at hkv2
      subst hkv2
      clear hts hle hkk hK hin how hkv
      go_wp2_with fail
      refine (yb_mk_PairS (us j) y K lo (f j) wr HW.out (HR.out.nodup j hjl) hK0 hKk).mono ?_
      rintro e w1 ⟨rfl, hr1, hk1⟩
      have HR1 := Lib.hid hr1
      have HKB := Lib.hid (hkb.out.trans hk1)
      have HK1 := Lib.hid hk1
      clear hr1 hk1 hc
      go_wp2
      go_roundw
      case rel =>
        refine ⟨j + 1, by omega, by go_num, (by show _ = _; rw [HK2.out]), (by show KeepB _ _ _; rw [range_flat_succ]; exact HKB.out), fun i z hi hz => ?_⟩
        by_cases hij : i = j
        · subst hij
          rw [hy] at hz
          cases hz
          rw [HKj.out]
          exact HR1.out
        · exact KeepB.rd (hrd.out i z (by omega) hz) HK1.out (HR.out.apart i j (by omega) hjl hij)
      case measure => simp [RowKit.intOf]; omega
    · obtain rfl : j = n := by omega
      have hdone := RowsOw.done rfl (HR.out) (k := k) (w' := wr) (by rw [HD.out]; exact hkb.out) (fun i y hy => hrd.out i y (by have := (List.getElem?_eq_some_iff.1 hy).1; have := HD.out; omega) hy)
      have HF := Lib.hid hdone
      have hkv2 := hkv.out
      rw [List.take_of_length_le (by have := HD.out; omega)] at hkv2
      subst hkv2
      clear hdone hkv
      go_wp2
      go_ret
      exact ⟨(congrArg (fun z : Nat => Ending.returned (.int .i64 (k + (z : Int)))) HM.out).symm, HF.out.1, HF.out.2⟩
theorem y_mk_PairSS (v : Value) (d : List tPairS.D) (k : Int) (lo hi : Nat) (w : World) (h : OwN tPairSS w lo hi [v] d) (h0 : 0 < k) (hk : k + tPairSS.mks d ≤ 1000000000000) : Calls Tryd.prog 50 #[v, .int .i64 k] w (MarkT tPairSS [v] d k lo hi w) :=
  mark_windowC h fun bs ho hnd => yb_mk_PairSS v d k lo bs w ho hnd h0 hk
end Go.Proofs.YtcbpgbiannpfpaaDoor
set_option linter.unusedVariables false
namespace Go.Proofs.YtcbpgbiannpfpaaDoor
open Go.RowKit

theorem wpList_pushL {P : Program} {w : World} {ops : Array Oper} {rest : List Oper} {o : Oper} {a : Act} {Q : Exit → Act → World → Prop} (hgd : o.guard = none) (s x : Operand) (t : TypeId)
    (ho : o.op = .call { callee := .builtin .append, args := #[s, x], argTypes := #[t, t] })
    (base : Nat) (e : TypeId) {i : TypeInfo} {z : Value} {size bytes : Nat} (ht : P.underlying t = some (.slice e)) (hi : P.info? e = some i) (hz : i.zero = some z)
    (hsize : i.size = size) (hby : i.bytes = bytes) (hzs : z.cells.size = size) (hsz : 0 < size)
    (cs : List Value) (hcs : cs.length = size) (h1 : ∀ u ∈ cs, u.oneCell' = true)
    {v : Value} {n : Nat} {xs : List Value} (hs : a.eval s = v) (hx : a.eval x = .slice (some ⟨w.heap.size, 0, none⟩) 1 1) (hown : w.ownsRow base e size v n xs)
    (h63 : n + 1 ≤ maxLen) (hbytes : (n + 1) * bytes ≤ 140737488355328) (hbase : base ≤ w.heap.size)
    (h : ∀ g cap w', w'.ownsRow base e size (.slice (some ⟨g, 0, none⟩) (n + 1) cap) (n + 1) (xs ++ cs) → w.grownBy w' v.ownBlock → (v.ownBlock = some g ∨ w.heap.size ≤ g) → g < w'.heap.size →
      wpList P ops Q rest (a.put o.dst (.slice (some ⟨g, 0, none⟩) (n + 1) cap)) w') : wpList P ops Q (o :: rest) a (w.alloc (.cells cs.toArray e)) := by
  refine wpList_append_lies _ hgd s x t ho base e i z size bytes ht hi hz hsize hby hzs hsz v n xs hs (hown.alloc _) ⟨w.heap.size, 0, none⟩ 1 1 cs hx (by simpa using hcs)
    (by simpa using World.news_of_block (cs := cs.toArray) (heap_alloc_new w (.cells cs.toArray e))) h1 (by omega) h63 hbytes (by simp; omega) _ rfl ?_
  intro g cap w' h2 h3 hat hlt
  have hg0 := World.grownBy_alloc w (.cells cs.toArray e) v.ownBlock
  refine h g cap w' h2 ⟨h3.os.trans hg0.os, h3.tape.trans hg0.tape, h3.output.trans hg0.output, Nat.le_trans hg0.size h3.size, fun k hk hne => ?_⟩ ?_ hlt
  · rw [h3.block k (Nat.lt_of_lt_of_le hk hg0.size) hne, hg0.block k hk hne]
  · rcases hat with h5 | h5
    · exact .inl h5
    · right; rw [h5]; simp
theorem news_of_row {w : World} {b m c : Nat} {g : Nat → Int} (h : IntRow w (.slice (some ⟨b, 0, none⟩) m c) m g) :
    ∀ j u, ((List.range m).map fun j => Value.int .i64 (g j))[j]? = some u → w.cell? ((⟨b, 0, none⟩ : Addr).add j) = some u := by
  intro j u hu
  simp only [List.getElem?_map] at hu
  by_cases hj : j < m
  · rw [List.getElem?_range hj] at hu
    simp only [Option.map_some, Option.some.injEq] at hu
    subst hu
    have hadd : (⟨b, 0, none⟩ : Addr).add j = ⟨b, j, none⟩ := by unfold Addr.add; split <;> simp_all
    rw [hadd]
    rcases h with ⟨_, _, _, h1⟩ | ⟨b', off, c', he, _, _, hc, _⟩
    · omega
    · simp only [Value.slice.injEq, Option.some.injEq, Addr.mk.injEq, and_true] at he
      obtain ⟨⟨rfl, rfl⟩, _⟩ := he
      simpa using hc j hj
  · rw [List.getElem?_eq_none (by simp; omega)] at hu; cases hu
theorem ones_row {m : Nat} {g : Nat → Int} : ∀ u ∈ (List.range m).map (fun j => Value.int .i64 (g j)), u.oneCell' = true := by
  intro u hu; simp only [List.mem_map] at hu; obtain ⟨_, _, rfl⟩ := hu; rfl
theorem wpList_cloneI {P : Program} {w : World} {ops : Array Oper} {rest : List Oper} {o : Oper} {a : Act} {Q : Exit → Act → World → Prop} (hgd : o.guard = none) (s x : Operand) (t : TypeId)
    (ho : o.op = .call { callee := .builtin .append, args := #[s, x], argTypes := #[t, t] })
    (e : TypeId) {i : TypeInfo} (ht : P.underlying t = some (.slice e)) (hi : P.info? e = some i) (hz : i.zero = some (.int .i64 0)) (hsize : i.size = 1) (hby : i.bytes = 8)
    {v : Value} {m : Nat} {g : Nat → Int} (hs : a.eval s = .slice (some ⟨w.heap.size, 0, none⟩) 0 0) (hx : a.eval x = v) (hrow : IntRow w v m g) (h0 : 0 < m) (hm : m ≤ 1048576)
    (h : ∀ gg cap w', w'.ownsRow w.heap.size e 1 (.slice (some ⟨gg, 0, none⟩) m cap) m ((List.range m).map fun j => Value.int .i64 (g j)) → IntRow w' (.slice (some ⟨gg, 0, none⟩) m cap) m g → Below w.heap.size w w' → w.heap.size ≤ gg → gg < w'.heap.size →
      wpList P ops Q rest (a.put o.dst (.slice (some ⟨gg, 0, none⟩) m cap)) w') : wpList P ops Q (o :: rest) a (w.alloc (.cells #[] e)) := by
  rcases hrow with ⟨_, _, _, h1⟩ | ⟨b, off, c, rfl, _, _, hc, _⟩
  · omega
  have hown : (w.alloc (.cells #[] e)).ownsRow w.heap.size e 1 (.slice (some ⟨w.heap.size, 0, none⟩) 0 0) 0 [] := World.ownsRow_lit w #[] 0 (Nat.le_refl _) (by decide) rfl
  refine wpList_append_lies _ hgd s x t ho w.heap.size e i (.int .i64 0) 1 8 ht hi hz hsize hby rfl (by decide) (.slice (some ⟨w.heap.size, 0, none⟩) 0 0) 0 [] hs hown ⟨b, off, none⟩ m c ((List.range m).map fun j => Value.int .i64 (g j)) hx (by simp) ?_
    (by intro u hu; simp only [List.mem_map] at hu; obtain ⟨_, _, rfl⟩ := hu; rfl) h0 (by unfold maxLen; omega) (by omega) (by simp) _ rfl ?_
  · intro j u hu
    simp only [List.getElem?_map] at hu
    by_cases hj : j < m
    · rw [List.getElem?_range hj] at hu
      simp only [Option.map_some, Option.some.injEq] at hu
      subst hu
      have hadd : (⟨b, off, none⟩ : Addr).add j = ⟨b, off + j, none⟩ := by unfold Addr.add; split <;> simp_all
      rw [hadd]
      exact (((Below.refl _ w).alloc (Nat.le_refl _) (.cells #[] e)).cell (p := ⟨b, off + j, none⟩) (World.block_lt_of_cell? w _ (hc j hj))).trans (hc j hj)
    · rw [List.getElem?_eq_none (by simp; omega)] at hu; cases hu
  · intro gg cap w' ho' hg' hat hlt
    simp only [Nat.zero_add, List.nil_append] at ho' ⊢
    refine h gg cap w' ho' (IntRow.of_owns ho' (by omega) fun j hj => by simp [hj]) (((Below.refl _ w).alloc (Nat.le_refl _) _).grown hg' (by simp) (fun k hk => by simp [Value.ownBlock] at hk; omega)) ?_ hlt
    rcases hat with h5 | h5
    · simp [Value.ownBlock] at h5; omega
    · rw [h5]; simp
end Go.Proofs.YtcbpgbiannpfpaaDoor
set_option linter.unusedVariables false
namespace Go.Proofs.YtcbpgbiannpfpaaDoor
open Go.RowKit

def firstI (p : Nat → Bool) : Nat → Nat → Int
  | 0, _ => -1
  | r + 1, k => if p k = true then (k : Int) else firstI p r (k + 1)
theorem firstI_pos (p : Nat → Bool) (r : Nat) : ∀ k, 0 ≤ firstI p r k ↔ ∃ j, k ≤ j ∧ j < k + r ∧ p j = true := by
  induction r with
  | zero => intro k; unfold firstI; constructor
            · intro h; omega
            · rintro ⟨j, h1, h2, _⟩; omega
  | succ r ih =>
    intro k
    unfold firstI
    by_cases h : p k = true
    · rw [if_pos h]
      exact ⟨fun _ => ⟨k, Nat.le_refl _, by omega, h⟩, fun _ => by omega⟩
    · rw [if_neg h, ih (k + 1)]
      constructor
      · rintro ⟨j, h1, h2, h3⟩; exact ⟨j, by omega, by omega, h3⟩
      · rintro ⟨j, h1, h2, h3⟩
        refine ⟨j, ?_, by omega, h3⟩
        rcases Nat.lt_or_ge k j with h4 | h4
        · omega
        · obtain rfl : j = k := by omega
          exact absurd h3 h
theorem firstI_step {p : Nat → Bool} {k n : Nat} (h : k < n) : firstI p (n - k) k = if p k = true then (k : Int) else firstI p (n - (k + 1)) (k + 1) := by
  rw [show n - k = n - (k + 1) + 1 by omega]; rfl
theorem firstI_ge (p : Nat → Bool) (r : Nat) : ∀ k, firstI p r k = -1 ∨ (k : Int) ≤ firstI p r k ∧ firstI p r k < (k : Int) + r := by
  induction r with
  | zero => intro k; exact .inl rfl
  | succ r ih =>
    intro k
    unfold firstI
    by_cases h : p k = true
    · rw [if_pos h]; right; omega
    · rw [if_neg h]
      rcases ih (k + 1) with h1 | h1
      · exact .inl h1
      · right; omega
theorem firstI_congr {p q : Nat → Bool} (r : Nat) : ∀ k, (∀ i, k ≤ i → i < k + r → p i = q i) → firstI p r k = firstI q r k := by
  induction r with
  | zero => intro k _; rfl
  | succ r ih =>
    intro k h
    unfold firstI
    rw [h k (Nat.le_refl _) (by omega), ih (k + 1) fun i h1 h2 => h i (by omega) (by omega)]
theorem firstI_eq {p : Nat → Bool} (r : Nat) : ∀ k j, firstI p r k = (j : Nat) ↔ (k ≤ j ∧ j < k + r) ∧ p j = true ∧ ∀ i, k ≤ i → i < j → p i = false := by
  induction r with
  | zero => intro k j; unfold firstI; constructor
            · intro h; omega
            · rintro ⟨h, _⟩; omega
  | succ r ih =>
    intro k j
    unfold firstI
    by_cases h : p k = true
    · rw [if_pos h]
      constructor
      · intro e
        obtain rfl : k = j := by omega
        exact ⟨by omega, h, fun i h1 h2 => by omega⟩
      · rintro ⟨h1, h2, h3⟩
        by_cases e : k = j
        · rw [e]
        · have := h3 k (Nat.le_refl _) (by omega)
          rw [h] at this; cases this
    · rw [if_neg h, ih (k + 1) j]
      have hk : p k = false := by simpa using h
      constructor
      · rintro ⟨h1, h2, h3⟩
        refine ⟨by omega, h2, fun i h4 h5 => ?_⟩
        by_cases e : i = k
        · rw [e]; exact hk
        · exact h3 i (by omega) h5
      · rintro ⟨h1, h2, h3⟩
        have : k ≠ j := fun e => by rw [e] at hk; rw [hk] at h2; cases h2
        exact ⟨by omega, h2, fun i h4 h5 => h3 i (by omega) h5⟩
def idxL (p : Nat → Bool) : Nat → List Int
  | 0 => []
  | k + 1 => if p k = true then idxL p k ++ [(k : Int)] else idxL p k
theorem idxL_yes {p : Nat → Bool} {k : Nat} (h : p k = true) : idxL p (k + 1) = idxL p k ++ [(k : Int)] := if_pos h
theorem idxL_no {p : Nat → Bool} {k : Nat} (h : p k = false) : idxL p (k + 1) = idxL p k := if_neg (by rw [h]; simp)
theorem idxL_len (p : Nat → Bool) : ∀ k, (idxL p k).length ≤ k := by
  intro k
  induction k with
  | zero => exact Nat.le_refl _
  | succ k ih =>
    unfold idxL
    split
    · simp; omega
    · omega
theorem idxL_congr {p q : Nat → Bool} : ∀ k, (∀ i, i < k → p i = q i) → idxL p k = idxL q k := by
  intro k
  induction k with
  | zero => intro _; rfl
  | succ k ih => intro h; unfold idxL; rw [h k (by omega), ih fun i hi => h i (by omega)]
def IntsL (w : World) (L : List Int) (e : Ending) (w' : World) : Prop :=
  ∃ v, e = .returned v ∧ w'.ownsRow w.heap.size 3 1 v L.length (L.map (Value.int .i64)) ∧ Below w.heap.size w w'
theorem IntsL.made {w w' : World} {L : List Int} {e : Ending} (h : IntsL w L e w') (hl : L.length ≤ 9223372036854775807) :
    ∃ v, e = .returned v ∧ IntRow w' v L.length (getI L) ∧ (∃ xs, w'.ownsRow w.heap.size 3 1 v L.length xs) ∧ Below w.heap.size w w' := by
  obtain ⟨v, he, ho, hb⟩ := h
  exact ⟨v, he, IntRow.of_list ho (by omega), ⟨_, ho⟩, hb⟩
end Go.Proofs.YtcbpgbiannpfpaaDoor
set_option linter.unusedVariables false
namespace Go.Proofs.YtcbpgbiannpfpaaDoor
open Go.RowKit

def dgB (r : Int) : Bool := decide (48 ≤ r ∧ r ≤ 57)
def smB (r : Int) : Bool := decide (97 ≤ r ∧ r ≤ 122)
theorem dgB_mk {r : Int} (h : 48 ≤ r ∧ r ≤ 57) : dgB r = true := by simp [dgB, h]
theorem dgB_no {r : Int} (h : ¬ (48 ≤ r ∧ r ≤ 57)) : dgB r = false := by simp only [dgB, decide_eq_false_iff_not]; exact h
theorem dgB_yes {r : Int} (h : dgB r = true) : 48 ≤ r ∧ r ≤ 57 := by simpa [dgB] using h
theorem dgB_not {r : Int} (h : dgB r = false) : ¬ (48 ≤ r ∧ r ≤ 57) := by simpa only [dgB, decide_eq_false_iff_not] using h
theorem smB_mk {r : Int} (h : 97 ≤ r ∧ r ≤ 122) : smB r = true := by simp [smB, h]
theorem smB_no {r : Int} (h : ¬ (97 ≤ r ∧ r ≤ 122)) : smB r = false := by simp only [smB, decide_eq_false_iff_not]; exact h
theorem smB_yes {r : Int} (h : smB r = true) : 97 ≤ r ∧ r ≤ 122 := by simpa [smB] using h
theorem smB_not {r : Int} (h : smB r = false) : ¬ (97 ≤ r ∧ r ≤ 122) := by simpa only [smB, decide_eq_false_iff_not] using h

def bat (s : ByteArray) (k : Nat) : Nat := (s.get! k).toNat
theorem bat_of (s : ByteArray) (k : Nat) (h : k < s.size) : bat s k = (s[k]'h).toNat := by
  have := get_at s k h
  simp only [Nat.add_zero] at this
  simp [bat, this]
theorem bat_lt (s : ByteArray) (k : Nat) : bat s k < 256 := (s.get! k).toNat_lt
theorem decode_low (s : ByteArray) (pos : Nat) (h : pos < s.size) (hl : bat s pos < 128) : Utf8.decode s pos = (bat s pos, 1) := by
  rw [bat_of s pos h] at *
  exact decode_ascii s pos h (by omega)
theorem decode_hi (s : ByteArray) (pos : Nat) (h : pos < s.size) (hl : ¬ bat s pos < 128) : 128 ≤ (Utf8.decode s pos).1 ∧ 1 ≤ (Utf8.decode s pos).2 := by
  rw [bat_of s pos h] at *
  exact decode_high s pos h (by omega)

theorem decode_cont (s : ByteArray) (pos : Nat) (h : pos < s.size) (hl : ¬ bat s pos < 128) :
    1 ≤ (Utf8.decode s pos).2 ∧ pos + (Utf8.decode s pos).2 ≤ s.size ∧ ∀ j, j < (Utf8.decode s pos).2 → 128 ≤ bat s (pos + j) := by
  have e0 : (s.get! (pos + 0)).toNat = bat s pos := rfl
  have one : ∀ j, j < 1 → 128 ≤ bat s (pos + j) := fun j hj => by
    obtain rfl : j = 0 := by omega
    simpa using hl
  have fin1 : ∀ x : Nat × Nat, x.2 = 1 → 1 ≤ x.2 ∧ pos + x.2 ≤ s.size ∧ ∀ j, j < x.2 → 128 ≤ bat s (pos + j) := fun x hx => by
    rw [hx]; exact ⟨Nat.le_refl _, by omega, one⟩
  simp only [Utf8.decode, e0, if_neg hl]
  by_cases c1 : (decide (pos + 1 < s.size) && (s.get! (pos + 1)).toNat / 64 == 2) = true
  · simp only [Bool.and_eq_true, decide_eq_true_eq, beq_iff_eq] at c1
    have b1 : 128 ≤ bat s (pos + 1) := by show 128 ≤ (s.get! (pos + 1)).toNat; omega
    have fin2 : ∀ x : Nat × Nat, x.2 = 2 → 1 ≤ x.2 ∧ pos + x.2 ≤ s.size ∧ ∀ j, j < x.2 → 128 ≤ bat s (pos + j) := fun x hx => by
      rw [hx]; refine ⟨by omega, by omega, fun j hj => ?_⟩
      rcases (show j = 0 ∨ j = 1 by omega) with rfl | rfl
      · exact one 0 (by omega)
      · exact b1
    by_cases c2 : (decide (pos + 2 < s.size) && (s.get! (pos + 2)).toNat / 64 == 2) = true
    · simp only [Bool.and_eq_true, decide_eq_true_eq, beq_iff_eq] at c2
      have b2 : 128 ≤ bat s (pos + 2) := by show 128 ≤ (s.get! (pos + 2)).toNat; omega
      have fin3 : ∀ x : Nat × Nat, x.2 = 3 → 1 ≤ x.2 ∧ pos + x.2 ≤ s.size ∧ ∀ j, j < x.2 → 128 ≤ bat s (pos + j) := fun x hx => by
        rw [hx]; refine ⟨by omega, by omega, fun j hj => ?_⟩
        rcases (show j = 0 ∨ j = 1 ∨ j = 2 by omega) with rfl | rfl | rfl
        · exact one 0 (by omega)
        · exact b1
        · exact b2
      by_cases c3 : (decide (pos + 3 < s.size) && (s.get! (pos + 3)).toNat / 64 == 2) = true
      · simp only [Bool.and_eq_true, decide_eq_true_eq, beq_iff_eq] at c3
        have b3 : 128 ≤ bat s (pos + 3) := by show 128 ≤ (s.get! (pos + 3)).toNat; omega
        have fin4 : ∀ x : Nat × Nat, x.2 = 4 → 1 ≤ x.2 ∧ pos + x.2 ≤ s.size ∧ ∀ j, j < x.2 → 128 ≤ bat s (pos + j) := fun x hx => by
          rw [hx]; refine ⟨by omega, by omega, fun j hj => ?_⟩
          rcases (show j = 0 ∨ j = 1 ∨ j = 2 ∨ j = 3 by omega) with rfl | rfl | rfl | rfl
          · exact one 0 (by omega)
          · exact b1
          · exact b2
          · exact b3
        repeat' split
        all_goals first | exact fin1 _ rfl | exact fin2 _ rfl | exact fin3 _ rfl | exact fin4 _ rfl
      · simp only [Bool.not_eq_true] at c3
        simp only [c3, Bool.and_false]
        repeat' split
        all_goals first | exact fin1 _ rfl | exact fin2 _ rfl | exact fin3 _ rfl | (exfalso; simp_all; done)
    · simp only [Bool.not_eq_true] at c2
      simp only [c2, Bool.and_false, Bool.false_and]
      repeat' split
      all_goals first | exact fin1 _ rfl | exact fin2 _ rfl | (exfalso; simp_all; done)
  · simp only [Bool.not_eq_true] at c1
    simp only [c1, Bool.and_false, Bool.false_and]
    repeat' split
    all_goals first | exact fin1 _ rfl | (exfalso; simp_all; done)

def digits (s : ByteArray) : Bool := decide (0 < s.size ∧ ∀ k, k < s.size → dgB (bat s k) = true)
theorem digits_no (s : ByteArray) (k : Nat) (h : k < s.size) (hd : dgB (bat s k) = false) : digits s = false := by
  simp only [digits, decide_eq_false_iff_not]
  rintro ⟨_, h2⟩
  rw [h2 k h] at hd
  cases hd
theorem digits_all (s : ByteArray) (h0 : 0 < s.size) (hd : ∀ k, k < s.size → dgB (bat s k) = true) : digits s = true := by
  simp only [digits, decide_eq_true_eq]
  exact ⟨h0, hd⟩
theorem digits_nil (s : ByteArray) (h0 : ¬ 0 < s.size) : digits s = false := by
  simp only [digits, decide_eq_false_iff_not]
  exact fun h => h0 h.1

theorem emp_no (s : ByteArray) (h : 0 < s.size) : s.toList.isEmpty = false := by
  rw [ByteArray.toList_eq, List.isEmpty_eq_false_iff]
  intro he
  have : s.data.toList.length = 0 := by rw [he]; rfl
  rw [Array.length_toList] at this
  have h2 : s.size = s.data.size := rfl
  omega
theorem emp_yes (s : ByteArray) (h : ¬ 0 < s.size) : s.toList.isEmpty = true := by
  rw [ByteArray.toList_eq, List.isEmpty_iff]
  have h2 : s.size = s.data.size := rfl
  have : s.data.toList.length = 0 := by rw [Array.length_toList]; omega
  exact List.eq_nil_of_length_eq_zero this

def nameAt (k b : Nat) : Bool := smB b || (decide (k ≠ 0) && dgB b)
theorem nameAt_no {k b : Nat} (h1 : ¬ (97 ≤ b ∧ b ≤ 122)) (h2 : k = 0 ∨ ¬ (48 ≤ b ∧ b ≤ 57)) : nameAt k b = false := by
  unfold nameAt
  rw [smB_no (by omega)]
  rcases h2 with h2 | h2
  · simp [h2]
  · rw [dgB_no (by omega)]; simp
theorem nameAt_small {k b : Nat} (h : 97 ≤ b ∧ b ≤ 122) : nameAt k b = true := by
  unfold nameAt; rw [smB_mk (by omega)]; simp
theorem nameAt_dig {k b : Nat} (h : 48 ≤ b ∧ b ≤ 57) (hk : k ≠ 0) : nameAt k b = true := by
  unfold nameAt; rw [dgB_mk (by omega)]; simp [hk]
theorem nameAt_low {k b : Nat} (h : nameAt k b = true) : b < 128 := by
  unfold nameAt at h
  simp only [Bool.or_eq_true, Bool.and_eq_true] at h
  rcases h with h | ⟨_, h⟩
  · have := smB_yes h; omega
  · have := dgB_yes h; omega
def nameB (s : ByteArray) : Bool := decide (1 ≤ s.size ∧ s.size ≤ 8 ∧ ∀ k, k < s.size → nameAt k (bat s k) = true)
theorem nameB_no (s : ByteArray) (k : Nat) (h : k < s.size) (hd : nameAt k (bat s k) = false) : nameB s = false := by
  simp only [nameB, decide_eq_false_iff_not]
  rintro ⟨_, _, h2⟩
  rw [h2 k h] at hd
  cases hd
theorem nameB_all (s : ByteArray) (h0 : 1 ≤ s.size) (h8 : s.size ≤ 8) (hd : ∀ k, k < s.size → nameAt k (bat s k) = true) : nameB s = true := by
  simp only [nameB, decide_eq_true_eq]
  exact ⟨h0, h8, hd⟩
theorem nameB_len (s : ByteArray) (h0 : ¬ (1 ≤ s.size ∧ s.size ≤ 8)) : nameB s = false := by
  simp only [nameB, decide_eq_false_iff_not]
  exact fun h => h0 ⟨h.1, h.2.1⟩

theorem l01In_yes (n lo hi : Int) (w : World) (h : lo ≤ n ∧ n ≤ hi) :
    Calls Tryd.prog 70 #[.int .i64 n, .int .i64 lo, .int .i64 hi] w fun e w' => e = .returned (.bool true) ∧ w = w' := by
  have g1 : decide (lo ≤ n) = true := decide_eq_true h.1
  have g2 : decide (n ≤ hi) = true := decide_eq_true h.2
  clear h
  go_enter Tryd.func70, Tryd.ntmps70
  go_wp2
  go_ret
  exact ⟨rfl, rfl⟩

theorem l01In_no (n lo hi : Int) (w : World) (h : ¬ (lo ≤ n ∧ n ≤ hi)) :
    Calls Tryd.prog 70 #[.int .i64 n, .int .i64 lo, .int .i64 hi] w fun e w' => e = .returned (.bool false) ∧ w = w' := by
  by_cases h1 : lo ≤ n
  · have g1 : decide (lo ≤ n) = true := decide_eq_true h1
    have g2 : decide (n ≤ hi) = false := decide_eq_false fun h2 => h ⟨h1, h2⟩
    clear h
    go_enter Tryd.func70, Tryd.ntmps70
    go_wp2
    go_ret
    exact ⟨rfl, rfl⟩
  · have g1 : decide (lo ≤ n) = false := decide_eq_false h1
    clear h
    go_enter Tryd.func70, Tryd.ntmps70
    go_wp2
    go_ret
    exact ⟨rfl, rfl⟩

end Go.Proofs.YtcbpgbiannpfpaaDoor
set_option linter.unusedVariables false
namespace Go.Proofs.YtcbpgbiannpfpaaDoor
open Go.RowKit

def hasP (g : Nat → Int) (x : Int) (n : Nat) : Prop := ∃ j, j < n ∧ g j = x
theorem hasP_at {g : Nat → Int} {x : Int} {n j : Nat} (h : j < n) (hg : g j = x) : hasP g x n := ⟨j, h, hg⟩
theorem l02Has_yes (v : Value) (n : Nat) (g : Nat → Int) (x : Int) (w : World) (h : IntRow w v n g) (hp : hasP g x n) :
    Calls Tryd.prog 76 #[v, .int .i64 x] w fun e w' => e = .returned (.bool true) ∧ w = w' := by
  obtain ⟨a, cap, rfl, hn, hv⟩ := h.form
  have HV := Lib.hid hv
  have HP := Lib.hid hp
  clear hv h hp
  go_enter Tryd.func76, Tryd.ntmps76
  go_wp2
  go_loop [9] (fun i => ∃ k : Nat, k ≤ n ∧ i = .int .i64 k ∧ Hid (∀ j, j < k → g j ≠ x)) (fun i => n - (RowKit.intOf i).toNat)
  case atStart => exact ⟨0, Nat.zero_le _, rfl, fun j hj => absurd hj (by omega)⟩
  case round =>
    obtain ⟨k, hk, rfl, hno⟩ := hrel
    by_cases hlt : k < n
    · obtain ⟨b, off, rfl, hc⟩ := HV.out (by omega)
      have c1 := hc k hlt
      have HK := Lib.hid (rfl : g k = g k)
      have HN : ∀ y, g k = y → y ≠ x → Hid (∀ j, j < k + 1 → g j ≠ x) := fun y hy hx j hj => by
        by_cases hjk : j = k
        · rw [hjk, hy]; exact hx
        · exact hno.out j (by omega)
      have HN := Lib.hid HN
      generalize hy : g k = y at *
      have HY := Lib.hid hy
      clear hc HV hno hy HK
      by_cases hx : y = x
      · subst hx
        go_wp2
        go_ret
        exact ⟨rfl, rfl⟩
      · have g1 : (y == x) = false := by simpa using hx
        have HX := Lib.hid hx
        clear hx
        go_wp2
        go_round
        case rel => exact ⟨k + 1, by omega, by go_num, HN.out _ rfl HX.out⟩
        case measure => simp [RowKit.intOf]; omega
    · obtain ⟨j, hj, hjx⟩ := HP.out
      exact absurd hjx (hno.out j (by omega))
theorem l02Has_no (v : Value) (n : Nat) (g : Nat → Int) (x : Int) (w : World) (h : IntRow w v n g) (hp : ¬ hasP g x n) :
    Calls Tryd.prog 76 #[v, .int .i64 x] w fun e w' => e = .returned (.bool false) ∧ w = w' := by
  obtain ⟨a, cap, rfl, hn, hv⟩ := h.form
  have HV := Lib.hid hv
  have HP := Lib.hid hp
  clear hv h hp
  go_enter Tryd.func76, Tryd.ntmps76
  go_wp2
  go_loop [9] (fun i => ∃ k : Nat, k ≤ n ∧ i = .int .i64 k) (fun i => n - (RowKit.intOf i).toNat)
  case atStart => exact ⟨0, Nat.zero_le _, rfl⟩
  case round =>
    obtain ⟨k, hk, rfl⟩ := hrel
    by_cases hlt : k < n
    · obtain ⟨b, off, rfl, hc⟩ := HV.out (by omega)
      have c1 := hc k hlt
      have g1 : (g k == x) = false := by
        simp only [beq_eq_false_iff_ne, ne_eq]
        exact fun h => HP.out (hasP_at hlt h)
      clear hc HV
      generalize g k = y at *
      go_wp2
      go_round
      case rel => exact ⟨k + 1, by omega, by go_num⟩
      case measure => simp [RowKit.intOf]; omega
    · go_wp2
      go_ret
      exact ⟨rfl, rfl⟩

def placeI (g : Nat → Int) (x : Int) : Nat → Nat → Int
  | 0, _ => -1
  | r + 1, k => if g k = x then (k : Int) else placeI g x r (k + 1)
def orderP (m : Int) (n : Nat) (g : Nat → Int) : Prop := (0 ≤ m ∧ m ≤ 8) ∧ (n : Int) = m ∧ ∀ i, i < n → (0 ≤ g i ∧ g i ≤ m - 1) ∧ ¬ hasP g (g i) i
theorem IntRow.take {w : World} {b off cap n : Nat} {g : Nat → Int} (k : Nat) (hk : k ≤ n) (hn : n ≤ 9223372036854775807) (hcap : n ≤ cap) (h : ∀ i, i < n → w.cell? ⟨b, off + i, none⟩ = some (.int .i64 (g i))) :
    IntRow w (.slice (some ⟨b, off, none⟩) k cap) k g := by
  by_cases h0 : k = 0
  · subst h0; exact .inl ⟨_, _, rfl, rfl⟩
  · exact .inr ⟨b, off, cap, rfl, by omega, by omega, fun i hi => h i (by omega), by omega⟩
end Go.Proofs.YtcbpgbiannpfpaaDoor
set_option linter.unusedVariables false
namespace Go.Proofs.YtcbpgbiannpfpaaDoor
open Go.RowKit

theorem hasP_mem (L : List Int) (x : Int) : hasP (getI L) x L.length ↔ x ∈ L := by
  constructor
  · rintro ⟨j, hj, rfl⟩
    simp only [getI, List.getD_eq_getElem?_getD, List.getElem?_eq_getElem hj, Option.getD_some]
    exact List.getElem_mem hj
  · intro h
    obtain ⟨j, hj, he⟩ := List.getElem_of_mem h
    exact ⟨j, hj, by simp only [getI, List.getD_eq_getElem?_getD, List.getElem?_eq_getElem hj, Option.getD_some]; exact he⟩
theorem owns_form {w : World} {base : Nat} {e : TypeId} {size : Nat} {v : Value} {n : Nat} {xs : List Value} (h : w.ownsRow base e size v n xs) : ∃ a c, v = .slice a n c := by
  rcases h.2 with ⟨rfl, h0⟩ | ⟨b, cap, cur, rfl, _⟩
  · exact ⟨none, 0, by rw [h0]⟩
  · exact ⟨_, _, rfl⟩
end Go.Proofs.YtcbpgbiannpfpaaDoor
set_option linter.unusedVariables false
namespace Go.Proofs.YtcbpgbiannpfpaaDoor
open Go.RowKit

structure RowD where
  played : Int
  wins : Int
  draws : Int
  losses : Int
  scored : Int
  against : Int
  points : Int
instance : Inhabited RowD := ⟨⟨0, 0, 0, 0, 0, 0, 0⟩⟩
def RowD.cells (t : RowD) : List Value := [.int .i64 t.played, .int .i64 t.wins, .int .i64 t.draws, .int .i64 t.losses, .int .i64 t.scored, .int .i64 t.against, .int .i64 t.points]
def RowD.val (t : RowD) : Value := .agg #[.int .i64 t.played, .int .i64 t.wins, .int .i64 t.draws, .int .i64 t.losses, .int .i64 t.scored, .int .i64 t.against, .int .i64 t.points]
def RowD.fit (t : RowD) : Prop := IntFit t.played ∧ IntFit t.wins ∧ IntFit t.draws ∧ IntFit t.losses ∧ IntFit t.scored ∧ IntFit t.against ∧ IntFit t.points
theorem RowD.len (t : RowD) : t.cells.length = 7 := rfl
def RowRow (w : World) (v : Value) (n : Nat) (g : Nat → RowD) : Prop := RecRow 7 w v n fun i => (g i).cells
theorem RowRow.below {w w' : World} {B : Nat} {v : Value} {n : Nat} {g : Nat → RowD} (h : RowRow w v n g) (hb : Below B w w') (hB : w.heap.size ≤ B) : RowRow w' v n g := RecRow.below h hb hB
theorem RowRow.touch {lo hi lo' hi' : Nat} {w w' : World} {v : Value} {n : Nat} {g : Nat → RowD} (h : RowRow w v n g) (t : Touch lo hi w w') (hv : 0 < n → InW lo' hi' v) (ho : hi' ≤ lo ∨ hi ≤ lo') : RowRow w' v n g := RecRow.touch h t hv ho
theorem RowRow.form {w : World} {v : Value} {n : Nat} {g : Nat → RowD} (h : RowRow w v n g) : ∃ a cap, v = .slice a n cap ∧ n ≤ 9223372036854775807 ∧ (0 < n → ∃ b off, a = some ⟨b, off, none⟩ ∧ n ≤ cap ∧ ∀ i, i < n → CellsAt w b (off + i * 7) (g i).cells) := RecRow.form h
theorem InW.rowRow {hi : Nat} {v : Value} {w : World} {n : Nat} {g : Nat → RowD} (h : RowRow w v n g) (h0 : 0 < n) (hs : w.heap.size ≤ hi) : InW 0 hi v := RecRow.inw h h0 hs
theorem RowRow.of_owns {w : World} {base : Nat} {e : TypeId} {v : Value} {n : Nat} {xs : List Value} {g : Nat → RowD} (h : w.ownsRow base e 7 v n xs) (hn : n ≤ 9223372036854775807) (hg : RecCells 7 n xs fun i => (g i).cells) : RowRow w v n g := RecRow.of_owns h hn hg fun _ _ => Nat.le_refl _
def rowMk (k : Int) (i : Nat) : RowD := ⟨k + 7 * (i : Int), k + 7 * (i : Int) + 1, k + 7 * (i : Int) + 1 + 1, k + 7 * (i : Int) + 1 + 1 + 1, k + 7 * (i : Int) + 1 + 1 + 1 + 1, k + 7 * (i : Int) + 1 + 1 + 1 + 1 + 1, k + 7 * (i : Int) + 1 + 1 + 1 + 1 + 1 + 1⟩
theorem tgrownRow {a b c : World} {row : Option Nat} (h : a.grownBy b row) (k : b.grownBy c row) : a.grownBy c row :=
  ⟨k.os.trans h.os, k.tape.trans h.tape, k.output.trans h.output, Nat.le_trans h.size k.size, fun i hi hne => (k.block i (Nat.lt_of_lt_of_le hi h.size) hne).trans (h.block i hi hne)⟩
section
open Go.ChangeShapes Go.WideShapes
variable {H : Type} {enc : TypeId × Value → H} {P : Program} {w : World} {base : Nat} {spare : Nat → Bool} {held : Bool}
theorem open_rows {t e : TypeId} {f0 f1 f2 f3 f4 f5 f6 : Field} {v : Value} (ht : P.underlying t = some (.slice e)) (he : P.underlying e = some (.struct #[f0, f1, f2, f3, f4, f5, f6]))
    (ce : P.cellsOf e = 7) (o0 : f0.offset = 0) (c0 : P.cellsOf f0.type = 1) (u0 : P.underlying f0.type = some (.int .i64)) (o1 : f1.offset = 1) (c1 : P.cellsOf f1.type = 1) (u1 : P.underlying f1.type = some (.int .i64)) (o2 : f2.offset = 2) (c2 : P.cellsOf f2.type = 1) (u2 : P.underlying f2.type = some (.int .i64)) (o3 : f3.offset = 3) (c3 : P.cellsOf f3.type = 1) (u3 : P.underlying f3.type = some (.int .i64)) (o4 : f4.offset = 4) (c4 : P.cellsOf f4.type = 1) (u4 : P.underlying f4.type = some (.int .i64)) (o5 : f5.offset = 5) (c5 : P.cellsOf f5.type = 1) (u5 : P.underlying f5.type = some (.int .i64)) (o6 : f6.offset = 6) (c6 : P.cellsOf f6.type = 1) (u6 : P.underlying f6.type = some (.int .i64))
    (h : ∃ (fuel : Nat) (x : DataW H × List MemPlace), DataW.trod enc P w base spare held fuel t [v] = some x) : ∃ (n : Nat) (g : Nat → RowD), RowRow w v n g ∧ (∀ i, (g i).fit) ∧ n ≤ 9223372036854775807 := by
  obtain ⟨fuel, x, h⟩ := h
  have hz : (default : RowD).fit := by simp [RowD.fit, IntFit, default]
  rcases Go.Deep.open_slice ht h with ⟨h0, _⟩ | ⟨a, len, cap, m, q, D, Pl, h0, hb, hl, hm, hmm, rfl, hx⟩
  · simp only [List.cons.injEq, and_true] at h0
    subst h0
    exact ⟨0, fun _ => default, .inl ⟨_, _, rfl, rfl⟩, fun _ => hz, by omega⟩
  simp only [List.cons.injEq, and_true] at h0
  subst h0
  have hlm : len ≤ m := by rw [hmm]; split <;> omega
  have each : ∀ i, i < len → ∃ q : RowD, (∀ j u, q.cells[j]? = some u → w.cell? ((a.add (i * 7)).add j) = some u) ∧ q.fit := by
    intro i hi
    obtain ⟨cs', h1, h2⟩ := hx i (by omega)
    rw [ce] at h1
    obtain ⟨_, hlen, hcell⟩ := World.cells?_some h1
    obtain ⟨xs, kk, hk, hxy, _, hxl, hf⟩ := DataW.trod_struct he h2
    match xs, hxl, cs', hlen with
    | [y0, y1, y2, y3, y4, y5, y6], _, [v0, v1, v2, v3, v4, v5, v6], _ =>
      have g0 := hf 0 f0 rfl
      simp [o0, c0] at g0
      obtain ⟨z0, e0, _, k0⟩ := DataW.trod_int u0 g0
      simp only [List.cons.injEq, and_true] at e0
      subst e0
      have g1 := hf 1 f1 rfl
      simp [o1, c1] at g1
      obtain ⟨z1, e1, _, k1⟩ := DataW.trod_int u1 g1
      simp only [List.cons.injEq, and_true] at e1
      subst e1
      have g2 := hf 2 f2 rfl
      simp [o2, c2] at g2
      obtain ⟨z2, e2, _, k2⟩ := DataW.trod_int u2 g2
      simp only [List.cons.injEq, and_true] at e2
      subst e2
      have g3 := hf 3 f3 rfl
      simp [o3, c3] at g3
      obtain ⟨z3, e3, _, k3⟩ := DataW.trod_int u3 g3
      simp only [List.cons.injEq, and_true] at e3
      subst e3
      have g4 := hf 4 f4 rfl
      simp [o4, c4] at g4
      obtain ⟨z4, e4, _, k4⟩ := DataW.trod_int u4 g4
      simp only [List.cons.injEq, and_true] at e4
      subst e4
      have g5 := hf 5 f5 rfl
      simp [o5, c5] at g5
      obtain ⟨z5, e5, _, k5⟩ := DataW.trod_int u5 g5
      simp only [List.cons.injEq, and_true] at e5
      subst e5
      have g6 := hf 6 f6 rfl
      simp [o6, c6] at g6
      obtain ⟨z6, e6, _, k6⟩ := DataW.trod_int u6 g6
      simp only [List.cons.injEq, and_true] at e6
      subst e6
      refine ⟨⟨z0, z1, z2, z3, z4, z5, z6⟩, fun j u hu => ?_, ⟨intFit_of k0, intFit_of k1, intFit_of k2, intFit_of k3, intFit_of k4, intFit_of k5, intFit_of k6⟩⟩
      have hj : j < 7 := (List.getElem?_eq_some_iff.1 hu).1
      rw [hcell j hj]
      exact hu
  obtain ⟨g, hg⟩ := Go.Deep.choose_lt each
  have hfit : ∀ i, (if i < len then g i else default : RowD).fit := fun i => by
    by_cases hi : i < len
    · simpa [hi] using (hg i hi).2
    · simpa [hi] using hz
  unfold maxLen at hm
  refine ⟨len, fun i => if i < len then g i else default, ?_, hfit, by omega⟩
  by_cases h0 : len = 0
  · subst h0; exact .inl ⟨_, _, rfl, rfl⟩
  · have hc0 := (hg 0 (by omega)).1 0 _ rfl
    obtain ⟨b, off, spot⟩ := a
    have hspot : spot = none := by simpa [Addr.add] using World.cell?_spot hc0
    subst hspot
    have hadd : ∀ j, (⟨b, off, none⟩ : Addr).add j = ⟨b, off + j, none⟩ := fun j => by unfold Addr.add; split <;> simp_all
    have hadd2 : ∀ o j, (⟨b, o, none⟩ : Addr).add j = ⟨b, o + j, none⟩ := fun o j => by unfold Addr.add; split <;> simp_all
    simp only [hadd, hadd2] at hc0
    refine .inr ⟨b, off, cap, rfl, by omega, by omega, fun i hi => ⟨World.block_lt_of_cell? w _ hc0, fun j u hu => ?_⟩, hl⟩
    have := (hg i hi).1
    simp only [hadd, hadd2] at this
    simp only [hi, if_true] at hu
    exact this j u hu
end
section
open Go.ChangeShapes Go.WideShapes
variable {H : Type} {enc : TypeId × Value → H} {P : Program} {w : World} {base : Nat} {spare : Nat → Bool} {held : Bool}
theorem open_row {r : Reach} {b0 : Nat} {e : TypeId} {f0 f1 f2 f3 f4 f5 f6 : Field} {v : Value} {d : DataW H} {pl : List MemPlace} (he : P.underlying e = some (.struct #[f0, f1, f2, f3, f4, f5, f6]))
    (ce : P.cellsOf e = 7) (o0 : f0.offset = 0) (c0 : P.cellsOf f0.type = 1) (u0 : P.underlying f0.type = some (.int .i64)) (o1 : f1.offset = 1) (c1 : P.cellsOf f1.type = 1) (u1 : P.underlying f1.type = some (.int .i64)) (o2 : f2.offset = 2) (c2 : P.cellsOf f2.type = 1) (u2 : P.underlying f2.type = some (.int .i64)) (o3 : f3.offset = 3) (c3 : P.cellsOf f3.type = 1) (u3 : P.underlying f3.type = some (.int .i64)) (o4 : f4.offset = 4) (c4 : P.cellsOf f4.type = 1) (u4 : P.underlying f4.type = some (.int .i64)) (o5 : f5.offset = 5) (c5 : P.cellsOf f5.type = 1) (u5 : P.underlying f5.type = some (.int .i64)) (o6 : f6.offset = 6) (c6 : P.cellsOf f6.type = 1) (u6 : P.underlying f6.type = some (.int .i64))
    (hv : Value.okWide P w r b0 e v) (h : DataW.Trod enc P w base spare held e v d pl) : ∃ q : RowD, v = q.val ∧ q.fit := by
  obtain ⟨cs, rfl, hsz⟩ := okWide_struct he hv
  obtain ⟨l⟩ := cs
  obtain ⟨fuel, h⟩ := h
  obtain ⟨xs, kk, hk, hxy, _, hxl, hf⟩ := DataW.trod_struct he h
  match xs, hxl, l, hsz.trans ce with
  | [y0, y1, y2, y3, y4, y5, y6], _, [v0, v1, v2, v3, v4, v5, v6], _ =>
      have g0 := hf 0 f0 rfl
      simp [Value.cells, o0, c0] at g0
      obtain ⟨z0, e0, _, k0⟩ := DataW.trod_int u0 g0
      simp only [List.cons.injEq, and_true] at e0
      subst e0
      have g1 := hf 1 f1 rfl
      simp [Value.cells, o1, c1] at g1
      obtain ⟨z1, e1, _, k1⟩ := DataW.trod_int u1 g1
      simp only [List.cons.injEq, and_true] at e1
      subst e1
      have g2 := hf 2 f2 rfl
      simp [Value.cells, o2, c2] at g2
      obtain ⟨z2, e2, _, k2⟩ := DataW.trod_int u2 g2
      simp only [List.cons.injEq, and_true] at e2
      subst e2
      have g3 := hf 3 f3 rfl
      simp [Value.cells, o3, c3] at g3
      obtain ⟨z3, e3, _, k3⟩ := DataW.trod_int u3 g3
      simp only [List.cons.injEq, and_true] at e3
      subst e3
      have g4 := hf 4 f4 rfl
      simp [Value.cells, o4, c4] at g4
      obtain ⟨z4, e4, _, k4⟩ := DataW.trod_int u4 g4
      simp only [List.cons.injEq, and_true] at e4
      subst e4
      have g5 := hf 5 f5 rfl
      simp [Value.cells, o5, c5] at g5
      obtain ⟨z5, e5, _, k5⟩ := DataW.trod_int u5 g5
      simp only [List.cons.injEq, and_true] at e5
      subst e5
      have g6 := hf 6 f6 rfl
      simp [Value.cells, o6, c6] at g6
      obtain ⟨z6, e6, _, k6⟩ := DataW.trod_int u6 g6
      simp only [List.cons.injEq, and_true] at e6
      subst e6
      exact ⟨⟨z0, z1, z2, z3, z4, z5, z6⟩, rfl, ⟨intFit_of k0, intFit_of k1, intFit_of k2, intFit_of k3, intFit_of k4, intFit_of k5, intFit_of k6⟩⟩
end
end Go.Proofs.YtcbpgbiannpfpaaDoor
set_option linter.unusedVariables false
namespace Go.Proofs.YtcbpgbiannpfpaaDoor
open Go.RowKit

structure GameD where
  home : Int
  away : Int
  hg : Int
  ag : Int
  st : Int
instance : Inhabited GameD := ⟨⟨0, 0, 0, 0, 0⟩⟩
def GameD.cells (t : GameD) : List Value := [.int .i64 t.home, .int .i64 t.away, .int .i64 t.hg, .int .i64 t.ag, .int .i64 t.st]
def GameD.val (t : GameD) : Value := .agg #[.int .i64 t.home, .int .i64 t.away, .int .i64 t.hg, .int .i64 t.ag, .int .i64 t.st]
def GameD.fit (t : GameD) : Prop := IntFit t.home ∧ IntFit t.away ∧ IntFit t.hg ∧ IntFit t.ag ∧ IntFit t.st
theorem GameD.len (t : GameD) : t.cells.length = 5 := rfl
def GameRow (w : World) (v : Value) (n : Nat) (g : Nat → GameD) : Prop := RecRow 5 w v n fun i => (g i).cells
theorem GameRow.below {w w' : World} {B : Nat} {v : Value} {n : Nat} {g : Nat → GameD} (h : GameRow w v n g) (hb : Below B w w') (hB : w.heap.size ≤ B) : GameRow w' v n g := RecRow.below h hb hB
theorem GameRow.touch {lo hi lo' hi' : Nat} {w w' : World} {v : Value} {n : Nat} {g : Nat → GameD} (h : GameRow w v n g) (t : Touch lo hi w w') (hv : 0 < n → InW lo' hi' v) (ho : hi' ≤ lo ∨ hi ≤ lo') : GameRow w' v n g := RecRow.touch h t hv ho
theorem GameRow.form {w : World} {v : Value} {n : Nat} {g : Nat → GameD} (h : GameRow w v n g) : ∃ a cap, v = .slice a n cap ∧ n ≤ 9223372036854775807 ∧ (0 < n → ∃ b off, a = some ⟨b, off, none⟩ ∧ n ≤ cap ∧ ∀ i, i < n → CellsAt w b (off + i * 5) (g i).cells) := RecRow.form h
theorem InW.gameRow {hi : Nat} {v : Value} {w : World} {n : Nat} {g : Nat → GameD} (h : GameRow w v n g) (h0 : 0 < n) (hs : w.heap.size ≤ hi) : InW 0 hi v := RecRow.inw h h0 hs
theorem GameRow.of_owns {w : World} {base : Nat} {e : TypeId} {v : Value} {n : Nat} {xs : List Value} {g : Nat → GameD} (h : w.ownsRow base e 5 v n xs) (hn : n ≤ 9223372036854775807) (hg : RecCells 5 n xs fun i => (g i).cells) : GameRow w v n g := RecRow.of_owns h hn hg fun _ _ => Nat.le_refl _
def gameMk (k : Int) (i : Nat) : GameD := ⟨k + 5 * (i : Int), k + 5 * (i : Int) + 1, k + 5 * (i : Int) + 1 + 1, k + 5 * (i : Int) + 1 + 1 + 1, k + 5 * (i : Int) + 1 + 1 + 1 + 1⟩
theorem tgrownGame {a b c : World} {row : Option Nat} (h : a.grownBy b row) (k : b.grownBy c row) : a.grownBy c row :=
  ⟨k.os.trans h.os, k.tape.trans h.tape, k.output.trans h.output, Nat.le_trans h.size k.size, fun i hi hne => (k.block i (Nat.lt_of_lt_of_le hi h.size) hne).trans (h.block i hi hne)⟩
section
open Go.ChangeShapes Go.WideShapes
variable {H : Type} {enc : TypeId × Value → H} {P : Program} {w : World} {base : Nat} {spare : Nat → Bool} {held : Bool}
theorem open_games {t e : TypeId} {f0 f1 f2 f3 f4 : Field} {v : Value} (ht : P.underlying t = some (.slice e)) (he : P.underlying e = some (.struct #[f0, f1, f2, f3, f4]))
    (ce : P.cellsOf e = 5) (o0 : f0.offset = 0) (c0 : P.cellsOf f0.type = 1) (u0 : P.underlying f0.type = some (.int .i64)) (o1 : f1.offset = 1) (c1 : P.cellsOf f1.type = 1) (u1 : P.underlying f1.type = some (.int .i64)) (o2 : f2.offset = 2) (c2 : P.cellsOf f2.type = 1) (u2 : P.underlying f2.type = some (.int .i64)) (o3 : f3.offset = 3) (c3 : P.cellsOf f3.type = 1) (u3 : P.underlying f3.type = some (.int .i64)) (o4 : f4.offset = 4) (c4 : P.cellsOf f4.type = 1) (u4 : P.underlying f4.type = some (.int .i64))
    (h : ∃ (fuel : Nat) (x : DataW H × List MemPlace), DataW.trod enc P w base spare held fuel t [v] = some x) : ∃ (n : Nat) (g : Nat → GameD), GameRow w v n g ∧ (∀ i, (g i).fit) ∧ n ≤ 9223372036854775807 := by
  obtain ⟨fuel, x, h⟩ := h
  have hz : (default : GameD).fit := by simp [GameD.fit, IntFit, default]
  rcases Go.Deep.open_slice ht h with ⟨h0, _⟩ | ⟨a, len, cap, m, q, D, Pl, h0, hb, hl, hm, hmm, rfl, hx⟩
  · simp only [List.cons.injEq, and_true] at h0
    subst h0
    exact ⟨0, fun _ => default, .inl ⟨_, _, rfl, rfl⟩, fun _ => hz, by omega⟩
  simp only [List.cons.injEq, and_true] at h0
  subst h0
  have hlm : len ≤ m := by rw [hmm]; split <;> omega
  have each : ∀ i, i < len → ∃ q : GameD, (∀ j u, q.cells[j]? = some u → w.cell? ((a.add (i * 5)).add j) = some u) ∧ q.fit := by
    intro i hi
    obtain ⟨cs', h1, h2⟩ := hx i (by omega)
    rw [ce] at h1
    obtain ⟨_, hlen, hcell⟩ := World.cells?_some h1
    obtain ⟨xs, kk, hk, hxy, _, hxl, hf⟩ := DataW.trod_struct he h2
    match xs, hxl, cs', hlen with
    | [y0, y1, y2, y3, y4], _, [v0, v1, v2, v3, v4], _ =>
      have g0 := hf 0 f0 rfl
      simp [o0, c0] at g0
      obtain ⟨z0, e0, _, k0⟩ := DataW.trod_int u0 g0
      simp only [List.cons.injEq, and_true] at e0
      subst e0
      have g1 := hf 1 f1 rfl
      simp [o1, c1] at g1
      obtain ⟨z1, e1, _, k1⟩ := DataW.trod_int u1 g1
      simp only [List.cons.injEq, and_true] at e1
      subst e1
      have g2 := hf 2 f2 rfl
      simp [o2, c2] at g2
      obtain ⟨z2, e2, _, k2⟩ := DataW.trod_int u2 g2
      simp only [List.cons.injEq, and_true] at e2
      subst e2
      have g3 := hf 3 f3 rfl
      simp [o3, c3] at g3
      obtain ⟨z3, e3, _, k3⟩ := DataW.trod_int u3 g3
      simp only [List.cons.injEq, and_true] at e3
      subst e3
      have g4 := hf 4 f4 rfl
      simp [o4, c4] at g4
      obtain ⟨z4, e4, _, k4⟩ := DataW.trod_int u4 g4
      simp only [List.cons.injEq, and_true] at e4
      subst e4
      refine ⟨⟨z0, z1, z2, z3, z4⟩, fun j u hu => ?_, ⟨intFit_of k0, intFit_of k1, intFit_of k2, intFit_of k3, intFit_of k4⟩⟩
      have hj : j < 5 := (List.getElem?_eq_some_iff.1 hu).1
      rw [hcell j hj]
      exact hu
  obtain ⟨g, hg⟩ := Go.Deep.choose_lt each
  have hfit : ∀ i, (if i < len then g i else default : GameD).fit := fun i => by
    by_cases hi : i < len
    · simpa [hi] using (hg i hi).2
    · simpa [hi] using hz
  unfold maxLen at hm
  refine ⟨len, fun i => if i < len then g i else default, ?_, hfit, by omega⟩
  by_cases h0 : len = 0
  · subst h0; exact .inl ⟨_, _, rfl, rfl⟩
  · have hc0 := (hg 0 (by omega)).1 0 _ rfl
    obtain ⟨b, off, spot⟩ := a
    have hspot : spot = none := by simpa [Addr.add] using World.cell?_spot hc0
    subst hspot
    have hadd : ∀ j, (⟨b, off, none⟩ : Addr).add j = ⟨b, off + j, none⟩ := fun j => by unfold Addr.add; split <;> simp_all
    have hadd2 : ∀ o j, (⟨b, o, none⟩ : Addr).add j = ⟨b, o + j, none⟩ := fun o j => by unfold Addr.add; split <;> simp_all
    simp only [hadd, hadd2] at hc0
    refine .inr ⟨b, off, cap, rfl, by omega, by omega, fun i hi => ⟨World.block_lt_of_cell? w _ hc0, fun j u hu => ?_⟩, hl⟩
    have := (hg i hi).1
    simp only [hadd, hadd2] at this
    simp only [hi, if_true] at hu
    exact this j u hu
end
section
open Go.ChangeShapes Go.WideShapes
variable {H : Type} {enc : TypeId × Value → H} {P : Program} {w : World} {base : Nat} {spare : Nat → Bool} {held : Bool}
theorem open_game {r : Reach} {b0 : Nat} {e : TypeId} {f0 f1 f2 f3 f4 : Field} {v : Value} {d : DataW H} {pl : List MemPlace} (he : P.underlying e = some (.struct #[f0, f1, f2, f3, f4]))
    (ce : P.cellsOf e = 5) (o0 : f0.offset = 0) (c0 : P.cellsOf f0.type = 1) (u0 : P.underlying f0.type = some (.int .i64)) (o1 : f1.offset = 1) (c1 : P.cellsOf f1.type = 1) (u1 : P.underlying f1.type = some (.int .i64)) (o2 : f2.offset = 2) (c2 : P.cellsOf f2.type = 1) (u2 : P.underlying f2.type = some (.int .i64)) (o3 : f3.offset = 3) (c3 : P.cellsOf f3.type = 1) (u3 : P.underlying f3.type = some (.int .i64)) (o4 : f4.offset = 4) (c4 : P.cellsOf f4.type = 1) (u4 : P.underlying f4.type = some (.int .i64))
    (hv : Value.okWide P w r b0 e v) (h : DataW.Trod enc P w base spare held e v d pl) : ∃ q : GameD, v = q.val ∧ q.fit := by
  obtain ⟨cs, rfl, hsz⟩ := okWide_struct he hv
  obtain ⟨l⟩ := cs
  obtain ⟨fuel, h⟩ := h
  obtain ⟨xs, kk, hk, hxy, _, hxl, hf⟩ := DataW.trod_struct he h
  match xs, hxl, l, hsz.trans ce with
  | [y0, y1, y2, y3, y4], _, [v0, v1, v2, v3, v4], _ =>
      have g0 := hf 0 f0 rfl
      simp [Value.cells, o0, c0] at g0
      obtain ⟨z0, e0, _, k0⟩ := DataW.trod_int u0 g0
      simp only [List.cons.injEq, and_true] at e0
      subst e0
      have g1 := hf 1 f1 rfl
      simp [Value.cells, o1, c1] at g1
      obtain ⟨z1, e1, _, k1⟩ := DataW.trod_int u1 g1
      simp only [List.cons.injEq, and_true] at e1
      subst e1
      have g2 := hf 2 f2 rfl
      simp [Value.cells, o2, c2] at g2
      obtain ⟨z2, e2, _, k2⟩ := DataW.trod_int u2 g2
      simp only [List.cons.injEq, and_true] at e2
      subst e2
      have g3 := hf 3 f3 rfl
      simp [Value.cells, o3, c3] at g3
      obtain ⟨z3, e3, _, k3⟩ := DataW.trod_int u3 g3
      simp only [List.cons.injEq, and_true] at e3
      subst e3
      have g4 := hf 4 f4 rfl
      simp [Value.cells, o4, c4] at g4
      obtain ⟨z4, e4, _, k4⟩ := DataW.trod_int u4 g4
      simp only [List.cons.injEq, and_true] at e4
      subst e4
      exact ⟨⟨z0, z1, z2, z3, z4⟩, rfl, ⟨intFit_of k0, intFit_of k1, intFit_of k2, intFit_of k3, intFit_of k4⟩⟩
end
end Go.Proofs.YtcbpgbiannpfpaaDoor
set_option linter.unusedVariables false
namespace Go.Proofs.YtcbpgbiannpfpaaDoor
open Go.RowKit


def gameP (n : Int) (t : GameD) : Prop :=
  (2 ≤ n ∧ n ≤ 8) ∧ (0 ≤ t.home ∧ t.home ≤ n - 1) ∧ (0 ≤ t.away ∧ t.away ≤ n - 1) ∧ t.home ≠ t.away ∧ (0 ≤ t.st ∧ t.st ≤ 4) ∧
    ((t.st = 1 ∧ (0 ≤ t.hg ∧ t.hg ≤ 99) ∧ (0 ≤ t.ag ∧ t.ag ≤ 99)) ∨ (t.st ≠ 1 ∧ t.hg = 0 ∧ t.ag = 0))
def goalsD (t : GameD) : Int × Int × Bool := if t.st = 1 then (t.hg, t.ag, true) else if t.st = 2 then (3, 0, true) else if t.st = 3 then (0, 3, true) else (0, 0, false)
def outcomeD (t : GameD) : Int := if (goalsD t).2.2 = true then (if (goalsD t).2.1 < (goalsD t).1 then 1 else if (goalsD t).1 = (goalsD t).2.1 then 2 else 3) else 0
def playD (t : GameD) (o : Int) : GameD := if 1 ≤ o ∧ o ≤ 3 then ⟨t.home, t.away, if o = 1 then 1 else 0, if o = 3 then 1 else 0, 1⟩ else t
end Go.Proofs.YtcbpgbiannpfpaaDoor
