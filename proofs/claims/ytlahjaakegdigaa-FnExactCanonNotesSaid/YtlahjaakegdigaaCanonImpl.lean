/-
  Records: the program's CanonNotes (slices.Sorted(maps.Keys(..)) by the library's contracts at int keys).
-/
import Derived.Test.YtlahjaakegdigaaCanonFacts
import Derived.Test.YtlahjaakegdigaaLaysK
import Derived.Lib.SlKeysI
set_option linter.unusedVariables false
namespace Go.Proofs.Ytlahjaakegdigaa
open Go.RowKit Go.Maps

theorem sortsL (m : Nat) : AnyZI.SortsIn Try.prog Try.sortedL_ren Fence.wide m :=
  ⟨fun blk off cap ss W hH hblk hsz => callsIn_wide.2 (AnyM.slices_Sort_int Try.sortL blk off cap ss W hH hblk hsz),
   fun p cap W => callsIn_wide.2 (AnyM.slices_Sort_int_none Try.sortL p cap W)⟩
theorem keys_impl (mb : Option Nat) (W : World) : Calls Try.prog 49 #[.map mb] W fun e w' => e = .returned (.func (.func 63) #[] #[.pointer (some ⟨W.heap.size, 0, none⟩)]) ∧ w' = W.alloc (.cells #[.map mb] 59) :=
  callsIn_wide.1 (AnyZI.keys_in Try.keysL Fence.wide 5 trivial rfl mb W)
theorem has_mem {es : List (Lit × DataW Unit)} {x : Int} : has (.map es) (.int .i64 x) = true ↔ ∃ p ∈ es, p.1 = .int .i64 x := by
  rw [Maps.has_eq, List.any_eq_true]
  constructor
  · rintro ⟨p, hp, hs⟩; exact ⟨p, hp, WideAt.sameKey_eq hs⟩
  · rintro ⟨p, hp, hs⟩; exact ⟨p, hp, by rw [hs]; exact WideAt.sameKey_self trivial⟩
/-- the keys of such a map: none twice, and just those with a record -/
theorem PtrMap.keys {w : World} {b o m n : Nat} {F : Int → Int} {D : DataW Unit} (ho : w.ownsMap Try.prog 3 (ptrElem b o) m n D) (hD : MapD F D) : (Go.intKeys D).Nodup ∧ ∀ s, s ∈ Go.intKeys D ↔ 0 ≤ F s := by
  obtain ⟨es, rfl, hpw, _⟩ := ho.entries kInt
  have hk : ∀ p ∈ es, ∃ x, p.1 = .int .i64 x := fun p hp => by
    have : has (.map es) p.1 = true := by
      rw [Maps.has_eq, List.any_eq_true]
      refine ⟨p, hp, WideAt.sameKey_self ?_⟩
      obtain ⟨es', he, _, hkl⟩ := ho.entries kInt
      simp only [DataW.map.injEq] at he
      subst he
      exact hkl p hp
    obtain ⟨s, hs, _⟩ := (hD.1 p.1).1 this
    exact ⟨s, hs⟩
  constructor
  · show (es.map fun p => Go.intOf p.1).Nodup
    rw [List.Nodup, List.pairwise_map]
    refine hpw.imp_of_mem fun ha hb hne e => hne ?_
    obtain ⟨x, hx⟩ := hk _ ha
    obtain ⟨y, hy⟩ := hk _ hb
    rw [hx, hy] at e ⊢
    have e2 : x = y := e
    rw [e2]
  · intro s
    show s ∈ es.map (fun p => Go.intOf p.1) ↔ _
    have h1 : 0 ≤ F s ↔ has (.map es) (.int .i64 s) = true := by
      rw [hD.1]
      constructor
      · exact fun h => ⟨s, rfl, h⟩
      · rintro ⟨t, e, h⟩
        simp only [Lit.int.injEq, true_and] at e
        rw [e]; exact h
    rw [h1, has_mem, List.mem_map]
    constructor
    · rintro ⟨p, hp, e⟩
      obtain ⟨x, hx⟩ := hk p hp
      refine ⟨p, hp, ?_⟩
      rw [hx] at e ⊢
      have e2 : x = s := e
      rw [e2]
    · rintro ⟨p, hp, e⟩
      exact ⟨p, hp, by rw [e]; rfl⟩
set_option maxHeartbeats 1000000 in
theorem sorted_impl (b o m n : Nat) (F : Int → Int) (w : World) (hm : PtrMap Try.prog w 3 b o m n F) (hn : n ≤ 1048576) :
    Calls Try.prog 48 #[.func (.func 63) #[] #[.pointer (some ⟨w.heap.size, 0, none⟩)]] (w.alloc (.cells #[.map (some m)] 59)) fun e w' =>
      ∃ (v : Value) (L : List Int), e = .returned v ∧ L.Pairwise (· < ·) ∧ (∀ s, s ∈ L ↔ 0 ≤ F s) ∧ w'.ownsRow (w.alloc (.cells #[.map (some m)] 59)).heap.size 3 1 v L.length (L.map (Value.int .i64)) ∧ L.length ≤ n ∧
        Below (w.alloc (.cells #[.map (some m)] 59)).heap.size (w.alloc (.cells #[.map (some m)] 59)) w' := by
  obtain ⟨D, ho, hD⟩ := hm
  have hbl := ho.lt
  have hsz := ho.size_le
  have hseq : SeqGives Fence.wide 2 Try.prog 63 #[.pointer (some ⟨w.heap.size, 0, none⟩)] encZ (fun ss => ss.Perm (Go.intKeys D)) (Maps.size D) (w.alloc (.cells #[.map (some m)] 59)) :=
    AnyZI.keys_gives (ρ := Try.keysL_ren) { Try.keysL with } Fence.wide _ trivial rfl (by omega) w.heap.size m n D _ (by simp) (by simp) (by
      obtain ⟨es, clock, hb, Ft, hs, hD⟩ := ho
      exact ⟨es, clock, (Below.heap_alloc _ _ m hbl).trans hb, Ft, hs, hD⟩)
  have cS := AnyZI.sorted_in Try.sortedL Fence.wide 5 trivial trivial trivial trivial rfl (by omega) (sortsL _) (Go.Proofs.enters_of Try.func62 (by kernel_rfl) rfl) 63 #[.pointer (some ⟨w.heap.size, 0, none⟩)] trivial (Go.Proofs.enters_of Try.func63 (by kernel_rfl) rfl) _ (Maps.size D) (by unfold maxLen; omega) (by omega) _ hseq
  refine (callsIn_wide.1 cS).mono ?_
  rintro e w' ⟨v, ss, rfl, hS, hrow, hnil, hb⟩
  obtain ⟨hnd, hmem⟩ := PtrMap.keys ho hD
  have hlen : (ss.mergeSort (fun x y => decide (x ≤ y))).length = ss.length := List.length_mergeSort _
  refine ⟨v, ss.mergeSort (fun x y => decide (x ≤ y)), rfl, ?_, fun s => ?_, ?_, ?_, hb⟩
  · have hp : (ss.mergeSort (fun x y => decide (x ≤ y))).Pairwise (fun a b => decide (a ≤ b) = true) := List.pairwise_mergeSort (fun a b c h1 h2 => by simp at h1 h2 ⊢; omega) (fun a b => by simp; omega) ss
    have hn2 : (ss.mergeSort (fun x y => decide (x ≤ y))).Nodup := (List.mergeSort_perm ss _).nodup_iff.2 (hS.nodup_iff.2 hnd)
    exact (hp.and hn2).imp fun h => by have h1 := h.1; simp at h1; have := h.2; omega
  · rw [(List.mergeSort_perm ss _).mem_iff, hS.mem_iff]; exact hmem s
  · rw [hlen]; exact hrow
  · rw [hlen, hS.length_eq]
    have : (Go.intKeys D).length = Maps.size D := by
      obtain ⟨es, rfl, _⟩ := ho.entries kInt
      show (es.map fun p => Go.intOf p.1).length = es.length
      simp
    omega
end Go.Proofs.Ytlahjaakegdigaa
