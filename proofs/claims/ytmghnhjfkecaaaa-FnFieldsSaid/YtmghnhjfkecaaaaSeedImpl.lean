/-
  Fields: the program's SeedOrder, that sorts the indices by a comparison of the seeds.
-/
import Derived.Test.YtmghnhjfkecaaaaLays
import Derived.Test.YtmghnhjfkecaaaaListsImpl
import Derived.Sort.OwnSortedInts
import Derived.Lib.SortBridge
set_option linter.unusedVariables false
namespace Go.Proofs.Ytmghnhjfkecaaaa
open Go.RowKit Go.Sort Go.Shelf

theorem ofSelL {f : Nat → Int} {c x : Int} : ∀ k, x ∈ selL f c k ↔ ∃ j : Nat, j < k ∧ x = j ∧ f j = c
  | 0 => ⟨fun h => by simp [selL] at h, fun ⟨j, hj, _⟩ => absurd hj (by omega)⟩
  | k + 1 => by
    unfold selL
    rw [List.mem_append, ofSelL k]
    by_cases h : f k = c
    · rw [if_pos h, List.mem_singleton]
      constructor
      · rintro (⟨j, hj, e⟩ | rfl)
        · exact ⟨j, by omega, e⟩
        · exact ⟨k, by omega, rfl, h⟩
      · rintro ⟨j, hj, rfl, e⟩
        by_cases hjk : j = k
        · subst hjk; exact .inr rfl
        · exact .inl ⟨j, by omega, rfl, e⟩
    · rw [if_neg h]
      constructor
      · rintro (⟨j, hj, e⟩ | h0)
        · exact ⟨j, by omega, e⟩
        · exact absurd h0 (by simp)
      · rintro ⟨j, hj, rfl, e⟩
        by_cases hjk : j = k
        · subst hjk; exact absurd e h
        · exact .inl ⟨j, by omega, rfl, e⟩
theorem ofSeedsL {f : Nat → Int} {n : Nat} {x : Int} : ∀ s, x ∈ seedsL f n s ↔ ∃ j : Nat, j < n ∧ x = j ∧ 1 ≤ f j ∧ f j ≤ s
  | 0 => ⟨fun h => by simp [seedsL] at h, fun ⟨j, _, _, h1, h2⟩ => by omega⟩
  | s + 1 => by
    unfold seedsL
    rw [List.mem_append, ofSeedsL s, ofSelL]
    constructor
    · rintro (⟨j, hj, e, h1, h2⟩ | ⟨j, hj, e, h⟩)
      · exact ⟨j, hj, e, h1, by omega⟩
      · exact ⟨j, hj, e, by omega, by omega⟩
    · rintro ⟨j, hj, e, h1, h2⟩
      by_cases h : f j = (s : Int) + 1
      · exact .inr ⟨j, hj, e, h⟩
      · exact .inl ⟨j, hj, e, h1, by omega⟩
theorem selL_nodup (f : Nat → Int) (c : Int) : ∀ k, (selL f c k).Nodup
  | 0 => by simp [selL]
  | k + 1 => by
    unfold selL
    rw [List.nodup_append]
    refine ⟨selL_nodup f c k, by split <;> simp, fun a ha b hb => ?_⟩
    obtain ⟨j, hj, rfl, _⟩ := (ofSelL k).1 ha
    by_cases h : f k = c
    · rw [if_pos h, List.mem_singleton] at hb
      omega
    · rw [if_neg h] at hb
      exact absurd hb (by simp)
theorem seedsL_nodup (f : Nat → Int) (n : Nat) : ∀ s, (seedsL f n s).Nodup
  | 0 => by simp [seedsL]
  | s + 1 => by
    unfold seedsL
    rw [List.nodup_append]
    refine ⟨seedsL_nodup f n s, selL_nodup f _ n, fun a ha b hb => ?_⟩
    obtain ⟨j, hj, rfl, h1, h2⟩ := (ofSeedsL s).1 ha
    obtain ⟨i, hi, rfl, h⟩ := (ofSelL n).1 hb
    intro e
    have : j = i := by omega
    subst this
    omega
theorem seedsL_sorted (f : Nat → Int) (n : Nat) : ∀ s, (seedsL f n s).Pairwise fun a b => f a.toNat ≤ f b.toNat
  | 0 => by simp [seedsL]
  | s + 1 => by
    unfold seedsL
    rw [List.pairwise_append]
    refine ⟨seedsL_sorted f n s, ?_, fun a ha b hb => ?_⟩
    · refine List.Pairwise.imp_of_mem (R := fun _ _ => True) (fun {a b} ha hb _ => ?_) (List.pairwise_of_forall (fun _ _ => trivial))
      obtain ⟨i, _, rfl, h1⟩ := (ofSelL n).1 ha
      obtain ⟨j, _, rfl, h2⟩ := (ofSelL n).1 hb
      simp only [Int.toNat_natCast]
      omega
    · obtain ⟨j, hj, rfl, h1, h2⟩ := (ofSeedsL s).1 ha
      obtain ⟨i, hi, rfl, h⟩ := (ofSelL n).1 hb
      simp only [Int.toNat_natCast]
      omega
/-- what is a rearrangement of all indices, ascending in their seeds, is the order of the seeds -/
theorem seedsL_unique {f : Nat → Int} {n s : Nat} {L : List Int} (hp : L.Perm ((List.range n).map fun i : Nat => (i : Int))) (hs : L.Pairwise fun a b => f a.toNat ≤ f b.toNat)
    (hf : ∀ i, i < n → 1 ≤ f i ∧ f i ≤ s) (hinj : ∀ i j, i < n → j < n → f i = f j → i = j) : L = seedsL f n s := by
  have hmem : ∀ x, x ∈ L ↔ ∃ j : Nat, j < n ∧ x = j := fun x => by
    rw [hp.mem_iff, List.mem_map]
    simp only [List.mem_range]
    constructor
    · rintro ⟨j, hj, rfl⟩; exact ⟨j, hj, rfl⟩
    · rintro ⟨j, hj, rfl⟩; exact ⟨j, hj, rfl⟩
  have hnd : L.Nodup := by
    rw [hp.nodup_iff]
    rw [List.nodup_iff_pairwise_ne, List.pairwise_map]
    exact (List.nodup_iff_pairwise_ne.1 List.nodup_range).imp fun h e => h (by omega)
  refine List.Perm.eq_of_pairwise (le := fun a b => f a.toNat ≤ f b.toNat) ?_ hs (seedsL_sorted f n s) ?_
  · intro a b ha hb h1 h2
    obtain ⟨i, hi, rfl⟩ := (hmem a).1 ha
    obtain ⟨j, hj, rfl, _⟩ := (ofSeedsL s).1 hb
    simp only [Int.toNat_natCast] at h1 h2
    have := hinj i j hi hj (by omega)
    omega
  · refine (List.perm_ext_iff_of_nodup hnd (seedsL_nodup f n s)).2 fun x => ?_
    rw [hmem, ofSeedsL]
    constructor
    · rintro ⟨j, hj, e⟩; exact ⟨j, hj, e, (hf j hj).1, (hf j hj).2⟩
    · rintro ⟨j, hj, e, _⟩; exact ⟨j, hj, e⟩
theorem seedsL_full {f : Nat → Int} {n s : Nat} (hf : ∀ i, i < n → 1 ≤ f i ∧ f i ≤ s) (hinj : ∀ i j, i < n → j < n → f i = f j → i = j) : (seedsL f n s).length = n := by
  have h : (seedsL f n s).Perm ((List.range n).map fun i : Nat => (i : Int)) := by
    refine (List.perm_ext_iff_of_nodup (seedsL_nodup f n s) ?_).2 fun x => ?_
    · rw [List.nodup_iff_pairwise_ne, List.pairwise_map]
      exact (List.nodup_iff_pairwise_ne.1 List.nodup_range).imp fun h e => h (by omega)
    · rw [ofSeedsL, List.mem_map]
      simp only [List.mem_range]
      constructor
      · rintro ⟨j, hj, rfl, _⟩; exact ⟨j, hj, rfl⟩
      · rintro ⟨j, hj, rfl⟩; exact ⟨j, hj, rfl, (hf j hj).1, (hf j hj).2⟩
  simpa using h.length_eq
/-- an index, as the sort holds it -/
def seedE {m : Nat} (i : Fin (m + 1)) : Value := .int .i64 ((i.val : Nat) : Int)
def seedCf (f : Nat → Int) {m : Nat} (i j : Fin (m + 1)) : Int := Lib.compareInt (f i.val) (f j.val)
theorem seedLt (f : Nat → Int) {m : Nat} (i j : Fin (m + 1)) : ltOf (seedCf f) i j = decide (f i.val < f j.val) := by
  unfold ltOf seedCf Lib.compareInt
  by_cases h1 : f i.val < f j.val
  · simp [h1]
  · by_cases h2 : f j.val < f i.val <;> simp [h1, h2]
theorem seedSwo (f : Nat → Int) (m : Nat) : SWO (ltOf (seedCf f (m := m))) where
  irrefl x := by rw [seedLt]; simp
  trans x y z h1 h2 := by rw [seedLt] at *; simp at *; omega
  ntrans x y z h1 h2 := by rw [seedLt] at *; simp at *; omega
theorem putSeed {m : Nat} (w : World) (blk : Nat) (d : Array (Fin (m + 1))) : putRow seedE w blk 0 d = putRow (Value.int .i64) w blk 0 (d.map fun i => ((i.val : Nat) : Int)) := by
  unfold putRow putCells
  congr 1
  funext c
  congr 1
  funext k x
  simp only [Array.size_map]
  by_cases hk : 0 ≤ k ∧ k < 0 + d.size
  · rw [if_pos hk, if_pos hk, getElem!_pos d (k - 0) (by omega), getElem!_pos _ (k - 0) (by simp; omega)]
    simp [seedE]
  · rw [if_neg hk, if_neg hk]
theorem seedSorted {f : Nat → Int} {m s : Nat} {d' : Array (Fin (m + 1))} (hp : PermIn 0 (m + 1) (Array.ofFn fun i : Fin (m + 1) => i) d') (hs : SortedIn (ltOf (seedCf f)) 0 (m + 1) d')
    (hf : ∀ i, i < m + 1 → 1 ≤ f i ∧ f i ≤ s) (hinj : ∀ i j, i < m + 1 → j < m + 1 → f i = f j → i = j) : (d'.map fun i => ((i.val : Nat) : Int)).toList = seedsL f (m + 1) s := by
  have hsz : d'.size = m + 1 := by rw [hp.1]; simp
  refine seedsL_unique ?_ ?_ hf hinj
  · have h1 := hp.2.2
    have e1 : d'.extract 0 (m + 1) = d' := by
      have h := @Array.extract_size _ d'
      rw [hsz] at h
      exact h
    have e2 : (Array.ofFn fun i : Fin (m + 1) => i).extract 0 (m + 1) = Array.ofFn fun i : Fin (m + 1) => i := by
      have h := @Array.extract_size _ (Array.ofFn fun i : Fin (m + 1) => i)
      rw [Array.size_ofFn] at h
      exact h
    rw [e1, e2] at h1
    have h2 := h1.map fun i : Fin (m + 1) => ((i.val : Nat) : Int)
    rw [Array.toList_map]
    refine h2.trans (List.Perm.of_eq ?_)
    apply List.ext_getElem
    · simp
    · intro i h3 h4
      rw [List.getElem_map, List.getElem_map]
      simp only [Array.toList_ofFn, List.getElem_ofFn, List.getElem_range]
  · rw [Array.toList_map, List.pairwise_map, List.pairwise_iff_getElem]
    intro i j hi hj hij
    have hi' : i < m + 1 := by simpa [hsz] using hi
    have hj' : j < m + 1 := by simpa [hsz] using hj
    have := hs i j (Nat.zero_le _) hij hj'
    rw [seedLt, getElem!_pos d' i (by omega), getElem!_pos d' j (by omega)] at this
    simp only [decide_eq_false_iff_not] at this
    simp only [Array.getElem_toList, Int.toNat_natCast]
    omega
theorem closure_any (i j n cap b off B0 : Nat) (g : Nat → TeamD) (W : World) (hb : W.cell? ⟨B0, 0, none⟩ = some (.slice (some ⟨b, off, none⟩) n cap)) (hn : n ≤ 8)
    (hc : ∀ i, i < n → W.cell? ⟨b, off + i * 3 + 2, none⟩ = some (.int .i64 (g i).seed)) (hi : i < n) (hj : j < n) :
    Calls Try.prog 42 #[.int .i64 (i : Int), .int .i64 (j : Int), .pointer (some ⟨B0, 0, none⟩)] W fun e w' => e = .returned (.int .i64 (Lib.compareInt (g i).seed (g j).seed)) ∧ ∃ q, w' = W.drewN q := by
  have hcon := fun x y W' => AnyG.cmp_Compare_int Try.cmpL x y W'
  change ∀ x y W', Calls Try.prog 43 _ _ _ at hcon
  have HC := Lib.hid hcon
  have c1 := hc i hi
  have c2 := hc j hj
  clear hc hcon
  generalize (g i).seed = x at *
  generalize (g j).seed = y at *
  have i0 : (0 : Int) ≤ i := by omega
  have i1 : (i : Int) < n := by omega
  have j0 : (0 : Int) ≤ j := by omega
  have j1 : (j : Int) < n := by omega
  generalize hr : Lib.compareInt x y = r
  have HR := Lib.hid hr
  clear hr
  go_enter Try.func42, Try.ntmps42
  go_wp2
  go_quiet ((go_at_call 43; exact Calls.quiet_of_same (HC.out _ _ _)))
  go_wp2
  go_ret
  exact ⟨by rw [HR.out]; rfl, _, rfl⟩
theorem seedLen (n : Nat) (W : World) (h : n ≤ 12) : Calls Try.prog 55 #[.int .u64 n] W fun e w' => (∃ l : Int, e = .returned (.int .i64 l)) ∧ w' = W :=
  (Any.bits_Len Try.lenL n W (by omega) (by omega)).mono fun _ _ ⟨he, hw⟩ => ⟨⟨_, he⟩, hw⟩
theorem sortWorld_cell {m : Nat} (w : World) (blk q : Nat) (d : Array (Fin (m + 1))) (os : Array Obj) (p : Addr) (hp : p.block ≠ blk) (hb : p.block < w.heap.size) : (sortWorld seedE w blk 0 q d os).cell? p = w.cell? p := by
  unfold sortWorld
  rw [cell?_grow _ _ _ (by simpa using hb), cell?_putRow_other _ _ _ _ _ _ (.inl hp), cell?_ahead]
/-- the sort of the indices 0 to m in a row of the call's own -/
theorem sortSeeds (m s cap b off B0 blk base lc : Nat) (g : Nat → TeamD) (w : World) (hm : m + 1 ≤ 8) (hown : w.ownsRow base 3 1 (.slice (some ⟨blk, 0, none⟩) (m + 1) cap) (m + 1) ((List.range (m + 1)).map fun i : Nat => .int .i64 (i : Int)))
    (hb : w.cell? ⟨B0, 0, none⟩ = some (.slice (some ⟨b, off, none⟩) (m + 1) lc)) (hc : ∀ i, i < m + 1 → w.cell? ⟨b, off + i * 3 + 2, none⟩ = some (.int .i64 (g i).seed)) (h0 : B0 ≠ blk) (h1 : b ≠ blk)
    (hf : ∀ i, i < m + 1 → 1 ≤ (g i).seed ∧ (g i).seed ≤ s) (hinj : ∀ i j, i < m + 1 → j < m + 1 → (g i).seed = (g j).seed → i = j) :
    Calls Try.prog 41 #[.slice (some ⟨blk, 0, none⟩) (m + 1) cap, .func (.func 42) #[] #[.pointer (some ⟨B0, 0, none⟩)]] w fun e w' =>
      e = .returned (.tuple #[]) ∧ w'.ownsRow base 3 1 (.slice (some ⟨blk, 0, none⟩) (m + 1) cap) (m + 1) ((seedsL (fun i => (g i).seed) (m + 1) s).map (Value.int .i64)) ∧ w.grownBy w' (some blk) := by
  have eg : ∀ args w, (callFunc 42 args).run Try.prog w = .ok (.enter 42 args) w := enters_of Try.func42 (by kernel_rfl) rfl
  have hB0 : B0 < w.heap.size := World.block_lt_of_cell? w _ hb
  have hbb : b < w.heap.size := World.block_lt_of_cell? w _ (hc 0 (by omega))
  have hcmp : CmpReads Try.prog 42 #[.pointer (some ⟨B0, 0, none⟩)] (seedE (m := m)) (seedCf fun i => (g i).seed) blk 0 (Array.ofFn fun i : Fin (m + 1) => i).size w := by
    intro q os dk hdk x y
    exact closure_any x.val y.val (m + 1) lc b off B0 g _ (by rw [sortWorld_cell _ _ _ _ _ _ h0 hB0]; exact hb) hm (fun i hi => by rw [sortWorld_cell _ _ _ _ _ _ h1 hbb]; exact hc i hi) x.isLt y.isLt
  have hH : Holds seedE w blk 0 (Array.ofFn fun i : Fin (m + 1) => i) := by
    intro j hj
    have hj' : j < m + 1 := by simpa using hj
    rw [Nat.zero_add]
    refine ⟨?_, hown.frozenAt j⟩
    rw [hown.cellAt j (by omega), getElem!_pos _ j hj]
    simp [hj', seedE]
  have h := Any.slices_SortFunc_small_sorted Try.sortL seedE (fun _ => rfl) (seedCf fun i => (g i).seed) (seedSwo _ m) 42 #[.pointer (some ⟨B0, 0, none⟩)] blk 0 cap (Array.ofFn fun i : Fin (m + 1) => i) w eg hcmp hH (by simp; omega) seedLen
  simp only [Array.size_ofFn] at h
  refine h.mono ?_
  rintro e w' ⟨he, d', q, hp, hs, rfl⟩
  refine ⟨he, ?_, ?_⟩
  · have hl := seedSorted hp hs hf hinj
    have hlen : (seedsL (fun i => (g i).seed) (m + 1) s).length = m + 1 := by rw [← hl]; simp [hp.1]
    rcases hown.2 with ⟨h', _⟩ | ⟨g', cap', cur, h', hbg, hgg, hnc, hcm, hcs, htake⟩
    · simp at h'
    simp only [Value.slice.injEq, Option.some.injEq, Addr.mk.injEq, and_true, true_and] at h'
    obtain ⟨rfl, rfl⟩ := h'
    have h2 := ownsRow_sortedI (base := base) (n := q) (os := #[]) (ss := (List.range (m + 1)).map fun i : Nat => (i : Int)) (ts := seedsL (fun i => (g i).seed) (m + 1) s) (by simp [hlen]) hbg hgg (by simpa using hnc) hcm hcs
    rw [grow_empty] at h2
    simp only [List.length_map, List.length_range] at h2
    rw [putSeed, show (d'.map fun i => ((i.val : Nat) : Int)) = (seedsL (fun i => (g i).seed) (m + 1) s).toArray by rw [← hl]]
    exact h2
  · have h2 := grownBy_sortedI (w := w) (g := blk) (n := q) (os := #[]) (d'.map fun i => ((i.val : Nat) : Int))
    rw [grow_empty] at h2
    rw [putSeed]
    exact h2
theorem seedOrderI_yes (v : Value) (n : Nat) (g : Nat → TeamD) (w : World) (h : TeamRow w v n g) (hg : ∀ i, (g i).nm.size ≤ maxLen) (hp : fieldP n g) :
    Calls Try.prog 13 #[v] w (NumsMade w (seedsL (fun i => (g i).seed) n 8)) := by
  obtain ⟨i0, hi, hz0, hz1, hz2⟩ := info_parts Try.infoI
  have hn8 := hp.1
  have HS : Hid (∀ i, i < n → 1 ≤ (g i).seed ∧ (g i).seed ≤ (8 : Nat)) := fun i hi => by have := (hp.2 i hi).1.2.2; omega
  have HJ : Hid (∀ i j, i < n → j < n → (g i).seed = (g j).seed → i = j) := fun i j hi hj e => by
    by_cases hij : i < j
    · exact absurd e ((hp.2 j hj).2 i hij).2
    · by_cases hji : j < i
      · exact absurd e.symm ((hp.2 i hi).2 j hji).2
      · omega
  have HF := Lib.hid (fun w1 h1 => fieldOkI_yes v n g w1 h1 hg hp)
  have HW := Lib.hid h
  obtain ⟨a, cap, rfl, hn, hv⟩ := h.form
  have HV := Lib.hid hv
  clear hv h hg hp
  go_enter Try.func13, Try.ntmps13
  have b0 : Below w.heap.size w (w.alloc (.cells #[.slice a n cap] 23)) := (Below.refl _ _).alloc (Nat.le_refl _) _
  have k0 : (w.alloc (.cells #[.slice a n cap] 23)).cell? ⟨w.heap.size, 0, none⟩ = some (.slice a n cap) := by
    rw [cell_of_row _ w.heap.size 0 _ _ (0, 0) (heap_alloc_new w _)]; rfl
  have HW1 := Lib.hid (HW.out.below b0 (Nat.le_refl _))
  have K0 := Lib.hid k0
  have B0 := Lib.hid b0
  clear k0 b0
  go_wp2_with fail
  refine (HF.out _ HW1.out).mono ?_
  rintro e w1 ⟨rfl, b1⟩
  have k1 := (b1.cell (p := ⟨w.heap.size, 0, none⟩) (by simp)).trans K0.out
  have hsz1 := b1.size
  have hsz2 : w.heap.size + 1 ≤ w1.heap.size := by simpa using hsz1
  have B1 := Lib.hid (B0.out.trans (b1.mono (by simp)))
  clear b1 hsz1
  go_wp2_with (at_make; refine wpList_make_full _ rfl _ _ 25 rfl w1.heap.size 3 i0 (.int .i64 0) 1 Try.underlying25 hi hz0 hz1 .i64 .i64 n n n rfl rfl rfl rfl (by rw [hz2]; omega) (by unfold maxLen; omega) (Nat.le_refl _) ?_; intro w2 hown hg2)
  have b2 : Below w1.heap.size w1 w2 := (Below.refl _ _).grown hg2 (Nat.le_refl _) (fun k hk => by cases hk)
  clear hg2
  go_loopw [13] (fun i wr => ∃ (j : Nat) (ys : List Value), j ≤ n ∧ i = .int .i64 j ∧ wr.ownsRow w1.heap.size 3 1 (.slice (some ⟨w1.heap.size, 0, none⟩) n n) n ys ∧ Hid (∀ t, t < j → ys[t]? = some (.int .i64 (t : Int))) ∧ Below w1.heap.size w1 wr)
    (fun i _ => n - (intOf i).toNat)
  case atStart => exact ⟨0, _, Nat.zero_le _, rfl, hown, fun t ht => absurd ht (by omega), b2⟩
  case round =>
    obtain ⟨j, ys, hj, rfl, hown', hys, hb⟩ := hrel
    clear hown b2
    by_cases hlt : j < n
    · obtain ⟨u, hu⟩ := owns_some hown' j hlt
      have HU := Lib.hid hu
      have hcl := owns_cell hown' j hlt HU
      have hfr := hown'.frozenAt j
      clear hu k1
      go_wp2
      go_roundw
      case rel =>
        refine ⟨j + 1, ys.set j (.int .i64 (j : Int)), by omega, by go_num, (hown'.stored j _).1, fun t ht => ?_, hb.setCell (Nat.le_refl _) _⟩
        have hlen := hown'.1
        by_cases htj : t = j
        · subst htj
          rw [List.getElem?_set_self (by omega)]
        · rw [List.getElem?_set_ne (by omega)]
          exact hys.out t (by omega)
      case measure => simp [intOf]; omega
    · obtain rfl : j = n := by omega
      have hys2 : ys = (List.range j).map fun i : Nat => .int .i64 (i : Int) := by
        have hlen := hown'.1
        apply List.ext_getElem?
        intro t
        by_cases ht : t < j
        · rw [hys.out t ht]; simp [ht]
        · rw [List.getElem?_eq_none (by omega), List.getElem?_eq_none (by simp; omega)]
      subst hys2
      obtain ⟨b, off, rfl, hc⟩ := HV.out (by omega)
      obtain ⟨m, rfl⟩ : ∃ m, j = m + 1 := ⟨j - 1, by omega⟩
      have hsz := hb.size
      have hbw := World.block_lt_of_cell? w _ (hc 0 (by omega)).2.2
      have hbw2 : b < w.heap.size := hbw
      have hbww := B1.out.trans (hb.mono B1.out.size)
      have HSO := Lib.hid (sortSeeds m 8 (m + 1) b off w.heap.size w1.heap.size w1.heap.size cap g wr (by omega) hown' ((hb.cell (p := ⟨w.heap.size, 0, none⟩) (show w.heap.size < w1.heap.size by omega)).trans k1)
        (fun i hi => (hbww.cell (p := ⟨b, off + i * 3 + 2, none⟩) hbw2).trans (hc i hi).2.2) (show w.heap.size ≠ w1.heap.size by omega) (show b ≠ w1.heap.size by omega) HS.out HJ.out)
      have HL : Hid ((seedsL (fun i => (g i).seed) (m + 1) 8).length = m + 1) := by
        exact seedsL_full HS.out HJ.out
      clear hc HV hys HS HJ HF HW HW1 K0 B0 hbw k1
      go_wp2_with (go_at_call 41; refine HSO.out.mono ?_; rintro e w3 ⟨rfl, hown3, hg3⟩)
      go_ret
      have hBB := hb.grown hg3 hsz (fun k hk => by cases hk; exact Nat.le_refl _)
      exact ⟨_, rfl, by rw [HL.out]; exact owns_mono hown3 (by omega), B1.out.trans (hBB.mono (by omega))⟩
theorem seedOrderI_no (v : Value) (n : Nat) (g : Nat → TeamD) (w : World) (h : TeamRow w v n g) (hg : ∀ i, (g i).nm.size ≤ maxLen) (hp : ¬ fieldP n g) :
    Calls Try.prog 13 #[v] w (NumsMade w []) := by
  have HF := Lib.hid (fun w1 h1 => fieldOkI_no v n g w1 h1 hg hp)
  have HW := Lib.hid h
  obtain ⟨a, cap, rfl, hn, hv⟩ := h.form
  clear h hg hp hv
  go_enter Try.func13, Try.ntmps13
  have b0 : Below w.heap.size w (w.alloc (.cells #[.slice a n cap] 23)) := (Below.refl _ _).alloc (Nat.le_refl _) _
  have HW1 := Lib.hid (HW.out.below b0 (Nat.le_refl _))
  have B0 := Lib.hid b0
  clear b0
  go_wp2_with fail
  refine (HF.out _ HW1.out).mono ?_
  rintro e w1 ⟨rfl, b1⟩
  have B1 := Lib.hid (B0.out.trans (b1.mono (by simp)))
  clear b1
  go_wp2
  go_ret
  exact ⟨_, rfl, World.ownsRow_nil _ _ _ _, B1.out⟩
end Go.Proofs.Ytmghnhjfkecaaaa
