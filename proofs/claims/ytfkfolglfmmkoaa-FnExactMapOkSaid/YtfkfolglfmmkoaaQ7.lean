/-
  Packed: Num, IntFmt, FieldMake, BookAt, Find, Rounds2, Trip, Trip1.
-/
import Derived.Lib.ItoaNum
import Derived.Lib.AtoiAll
import Derived.Test.YtfkfolglfmmkoaaProg
import Derived.Laws.BytesArg
import Derived.Deep.RegionWith
import Derived.WalkSmall
import Derived.Sort.Grow
import Derived.KernelRfl
import Derived.Outline
import Derived.Deep.RegionHeld3
import Derived.Deep.AppendLies
import Derived.Test.YtfkfolglfmmkoaaQ1
import Derived.Test.YtfkfolglfmmkoaaQ2
import Derived.Test.YtfkfolglfmmkoaaQ3
import Derived.Test.YtfkfolglfmmkoaaQ4
import Derived.Test.YtfkfolglfmmkoaaQ5
import Derived.Test.YtfkfolglfmmkoaaQ6
set_option linter.unusedVariables false
namespace Go.Proofs.Ytfkfolglfmmkoaa
open Go.Lib

theorem decDigits_step (u : Nat) (h : ¬ u < 10) : decDigits u = decDigits (u / 10) ++ [UInt8.ofNat (48 + u % 10)] := by rw [decDigits, dif_neg h]
theorem dig_toNat (d : Nat) (h : d < 10) : (UInt8.ofNat (48 + d)).toNat = 48 + d := by
  rw [UInt8.toNat_ofNat']; omega
theorem decDigits_dig (u : Nat) : ∀ b ∈ decDigits u, 48 ≤ b.toNat ∧ b.toNat ≤ 57 := by
  induction u using Nat.strongRecOn with
  | _ u ih =>
    intro b hb
    by_cases h : u < 10
    · rw [decDigits_one h] at hb
      simp only [List.mem_singleton] at hb
      rw [hb, dig_toNat u h]; omega
    · rw [decDigits_step u h] at hb
      simp only [List.mem_append, List.mem_singleton] at hb
      rcases hb with hb | hb
      · exact ih (u / 10) (by omega) b hb
      · rw [hb, dig_toNat (u % 10) (by omega)]; omega
def valL (l : List UInt8) : Nat := l.foldl (fun a b => a * 10 + (b.toNat - 48)) 0
theorem valL_nil : valL [] = 0 := rfl
theorem valL_snoc (l : List UInt8) (b : UInt8) : valL (l ++ [b]) = valL l * 10 + (b.toNat - 48) := by simp [valL]
theorem valL_decDigits (u : Nat) : valL (decDigits u) = u := by
  induction u using Nat.strongRecOn with
  | _ u ih =>
    by_cases h : u < 10
    · rw [decDigits_one h]
      show 0 * 10 + ((UInt8.ofNat (48 + u)).toNat - 48) = u
      rw [dig_toNat u h]; omega
    · rw [decDigits_step u h, valL_snoc, ih (u / 10) (by omega), dig_toNat (u % 10) (by omega)]; omega
theorem decDigits_ne (u : Nat) : decDigits u ≠ [] := by
  have h1 := decDigits_length u
  have h2 := nDigits_pos u
  intro h
  rw [h] at h1
  simp at h1; omega
theorem decDigits_cons (u : Nat) : ∃ b r, decDigits u = b :: r ∧ 48 ≤ b.toNat ∧ b.toNat ≤ 57 := by
  cases h : decDigits u with
  | nil => exact absurd h (decDigits_ne u)
  | cons b r => exact ⟨b, r, rfl, decDigits_dig u b (by rw [h]; exact List.mem_cons_self ..)⟩
theorem valL_take_le (l : List UInt8) : ∀ j k, j ≤ k → valL (l.take j) ≤ valL (l.take k) := by
  intro j k hjk
  induction k with
  | zero => obtain rfl : j = 0 := by omega
            exact Nat.le_refl _
  | succ k ih =>
    by_cases h : j = k + 1
    · rw [h]; exact Nat.le_refl _
    · refine Nat.le_trans (ih (by omega)) ?_
      by_cases hk : k < l.length
      · rw [List.take_succ_eq_append_getElem hk, valL_snoc]; omega
      · rw [List.take_of_length_le (by omega), List.take_of_length_le (by omega)]; exact Nat.le_refl _
theorem nDigits_le (u : Nat) (h : u ≤ 9223372036854775808) : nDigits u ≤ 19 := by
  by_cases h19 : nDigits u ≤ 19
  · exact h19
  · exfalso
    have key : ∀ k v : Nat, v < 10 ^ (k + 1) → nDigits v ≤ k + 1 := by
      intro k
      induction k with
      | zero => intro v hv; rw [nDigits_small (by simpa using hv)]; exact Nat.le_refl _
      | succ k ih =>
        intro v hv
        by_cases hs : v < 10
        · rw [nDigits_small hs]; omega
        · rw [nDigits_big hs]
          have := ih (v / 10) (by rw [Nat.pow_succ] at hv; omega)
          omega
    have := key 18 u (by have : (10 : Nat) ^ (18 + 1) = 10000000000000000000 := by decide
                         omega)
    omega

def isInt (n : Int) : Prop := -9223372036854775808 ≤ n ∧ n ≤ 9223372036854775807
theorem itoa_neg (n : Int) (h : n < 0) : itoa n = 45 :: decDigits n.natAbs := by simp [itoa, h]
theorem itoa_pos (n : Int) (h : ¬ n < 0) : itoa n = decDigits n.toNat := by simp [itoa, h]
theorem itoa_inj {a b : Int} (h : itoa a = itoa b) : a = b := by
  by_cases ha : a < 0
  · by_cases hb : b < 0
    · rw [itoa_neg a ha, itoa_neg b hb] at h
      have h1 := congrArg valL (List.cons.inj h).2
      rw [valL_decDigits, valL_decDigits] at h1
      omega
    · rw [itoa_neg a ha, itoa_pos b hb] at h
      obtain ⟨x, r, hx, h1, h2⟩ := decDigits_cons b.toNat
      rw [hx] at h
      have := congrArg UInt8.toNat (List.cons.inj h).1
      simp at this; omega
  · by_cases hb : b < 0
    · rw [itoa_pos a ha, itoa_neg b hb] at h
      obtain ⟨x, r, hx, h1, h2⟩ := decDigits_cons a.toNat
      rw [hx] at h
      have := congrArg UInt8.toNat (List.cons.inj h).1
      simp at this; omega
    · rw [itoa_pos a ha, itoa_pos b hb] at h
      have h1 := congrArg valL h
      rw [valL_decDigits, valL_decDigits] at h1
      omega
def parsed (l : List UInt8) (v : Int) (ok : Bool) : Prop := if ok = true then isInt v ∧ itoa v = l else v = 0 ∧ ∀ n, isInt n → itoa n ≠ l
theorem parsed_unique {l : List UInt8} {v v' : Int} {b b' : Bool} (h : parsed l v b) (h' : parsed l v' b') : v = v' ∧ b = b' := by
  unfold parsed at h h'
  cases b <;> cases b' <;> simp at h h'
  · exact ⟨by rw [h.1, h'.1], rfl⟩
  · exact absurd h'.2 (h.2 v' h'.1)
  · exact absurd h.2 (h'.2 v h.1)
  · exact ⟨itoa_inj (h.2.trans h'.2.symm), rfl⟩

theorem canon_pos {n : Int} {l : List UInt8} (hn : isInt n) (h : itoa n = l) (hl : ∀ r, l ≠ 45 :: r) : l ≠ [] ∧ (∀ b ∈ l, 48 ≤ b.toNat ∧ b.toNat ≤ 57) ∧ l.length ≤ 19 ∧ valL l ≤ 9223372036854775807 ∧ n = valL l := by
  have hp : ¬ n < 0 := fun hp => hl _ (by rw [← h, itoa_neg n hp])
  rw [itoa_pos n hp] at h
  subst h
  have h1 := decDigits_length n.toNat
  have h2 := nDigits_le n.toNat (by unfold isInt at hn; omega)
  refine ⟨decDigits_ne _, decDigits_dig _, by omega, ?_, ?_⟩
  · rw [valL_decDigits]; unfold isInt at hn; omega
  · rw [valL_decDigits]; omega
theorem canon_neg {n : Int} {r : List UInt8} (hn : isInt n) (h : itoa n = 45 :: r) : r ≠ [] ∧ (∀ b ∈ r, 48 ≤ b.toNat ∧ b.toNat ≤ 57) ∧ r.length ≤ 19 ∧ valL r ≤ 9223372036854775808 ∧ n = -(valL r : Int) := by
  have hp : n < 0 := by
    by_cases hp : n < 0
    · exact hp
    · rw [itoa_pos n hp] at h
      obtain ⟨x, r', hx, h1, h2⟩ := decDigits_cons n.toNat
      rw [hx] at h
      have := congrArg UInt8.toNat (List.cons.inj h).1
      simp at this; omega
  rw [itoa_neg n hp] at h
  have h := (List.cons.inj h).2
  subst h
  have h1 := decDigits_length n.natAbs
  have h2 := nDigits_le n.natAbs (by unfold isInt at hn; omega)
  refine ⟨decDigits_ne _, decDigits_dig _, by omega, ?_, ?_⟩
  · rw [valL_decDigits]; unfold isInt at hn; omega
  · rw [valL_decDigits]; omega
end Go.Proofs.Ytfkfolglfmmkoaa
set_option linter.unusedVariables false
namespace Go.Proofs.Ytfkfolglfmmkoaa
open Go.RowKit
open Go.Sort (grow)

theorem one_byte {P : Program} (w : World) (src dst e : TypeId) (hs : P.underlying src = some (.slice e)) (he : P.underlying e = some (.int .u8)) (hd : P.underlying dst = some .string) (v : Int) :
    (convert src dst (.slice (some ⟨w.heap.size, 0, none⟩) 1 1)).run P (w.alloc (.cells #[.int .u8 v] e)) = .ok (.string ⟨[UInt8.ofNat v.toNat].toArray⟩) (w.alloc (.cells #[.int .u8 v] e)) := by
  have h := run_convert_bytes_arg (P := P) (w.alloc (.cells #[.int .u8 v] e)) src e hs he w.heap.size 0 1 1 [v] rfl (fun i hi => by
    obtain rfl : i = 0 := by omega
    simp) dst hd
  rw [h]
  rfl
theorem one_byte_at {P : Program} (src dst e : TypeId) (hs : P.underlying src = some (.slice e)) (he : P.underlying e = some (.int .u8)) (hd : P.underlying dst = some .string) (v : Int) (B : Nat) (W : World)
    (hc : W.cell? ⟨B, 0, none⟩ = some (.int .u8 v)) :
    (convert src dst (.slice (some ⟨B, 0, none⟩) 1 1)).run P W = .ok (.string ⟨[UInt8.ofNat v.toNat].toArray⟩) W := by
  have h := run_convert_bytes_arg (P := P) W src e hs he B 0 1 1 [v] rfl (fun i hi => by
    obtain rfl : i = 0 := by omega
    simpa using hc) dst hd
  rw [h]
  rfl
theorem kept_cell1 {w w1 : World} {v : Value} {e : TypeId} (b : Below (w.drew.alloc (.cells #[v] e)).heap.size (w.drew.alloc (.cells #[v] e)) w1) : w1.cell? ⟨w.heap.size, 0, none⟩ = some v := by
  rw [b.cell (p := ⟨w.heap.size, 0, none⟩) (by simp)]
  exact World.cell?_alloc_mark w.drew #[v] e (0, 0) 0
theorem kept_cell2 {w w1 : World} {v : Value} {e : TypeId} (b : Below (w.alloc (.cells #[v] e)).drew.heap.size (w.alloc (.cells #[v] e)).drew w1) : w1.cell? ⟨w.heap.size, 0, none⟩ = some v := by
  rw [b.cell (p := ⟨w.heap.size, 0, none⟩) (by simp)]
  exact World.cell?_alloc_mark w #[v] e (0, 0) 0
theorem cats (x y : List UInt8) : (ByteArray.mk x.toArray ++ ByteArray.mk y.toArray) = ByteArray.mk (x ++ y).toArray := ByteArray.mk_append_mk x y

theorem of48 (x : Nat) : UInt8.ofNat (48 + x) = 48 + UInt8.ofNat x := by simp

theorem grow_below (w : World) (k : Nat) (os : Array Obj) : Below w.heap.size w (grow (w.drewN k) os) := by
  refine ⟨rfl, rfl, rfl, by simp [grow], fun i hi => ?_⟩
  show (w.heap ++ os)[i]? = w.heap[i]?
  rw [Array.getElem?_append_left hi]
end Go.Proofs.Ytfkfolglfmmkoaa
set_option linter.unusedVariables false
namespace Go.Proofs.Ytfkfolglfmmkoaa
open Go.RowKit

theorem Cur.below {B : Nat} {a : Option Addr} {len cap : Nat} {g : Nat → Nat} {w w' : World} (h : Cur B a len cap g w) (hb : Below w.heap.size w w') : Cur B a len cap g w' := by
  obtain ⟨i, x, hh, hi⟩ := h.blk
  have hlt : B < w.heap.size := (Array.getElem?_eq_some_iff.1 hh).1
  refine ⟨⟨i, x, (hb.block B hlt).trans hh, hi⟩, h.row.below hb (Nat.le_refl _), h.low, h.small, h.fits⟩
theorem Cur.lt {B : Nat} {a : Option Addr} {len cap : Nat} {g : Nat → Nat} {w : World} (h : Cur B a len cap g w) : B < w.heap.size := by
  obtain ⟨i, x, hh, hi⟩ := h.blk
  exact (Array.getElem?_eq_some_iff.1 hh).1
theorem Cur.belowB {B base : Nat} {a : Option Addr} {len cap : Nat} {g : Nat → Nat} {w w' : World} (h : Cur B a len cap g w) (hb : Below base w w') (hB : B < base) : Cur B a len cap g w' := by
  obtain ⟨i, x, hh, hi⟩ := h.blk
  refine ⟨⟨i, x, (hb.block B hB).trans hh, hi⟩, fun h0 => ?_, h.low, h.small, h.fits⟩
  obtain ⟨b, off, h1, h2⟩ := h.row h0
  have := h.low h0 b off h1
  exact ⟨b, off, h1, fun i hi => (hb.cell (p := ⟨b, off + i, none⟩) (show b < base by omega)).trans (h2 i hi)⟩
def madeNm (i : Nat) : ByteArray := ⟨#[116]⟩ ++ ⟨(Lib.itoa (i : Int)).toArray⟩
def MadeF (n turn : Nat) (G : Nat → TeamD) (k : Nat) : Prop := ∀ i, i < k → (G i).nm = madeNm i ∧ (0 ≤ (G i).club ∧ (G i).club ≤ 3) ∧ (G i).seed = (((i + turn) % n : Nat) : Int) + 1
section
variable {B : Nat} {a : Option Addr} {len cap : Nat} {g : Nat → Nat} {w0 : World} {u : Value} {j : Nat} {xs : List Value} {w w' : World}
end
def FieldIs (w : World) (n : Nat) (G : Nat → TeamD) (e : Ending) (w' : World) : Prop :=
  ∃ v, e = .returned v ∧ TeamRow w' v n G ∧ Below w.heap.size w w'
def FieldGood (n : Nat) (G : Nat → TeamD) : Prop := (2 ≤ n ∧ n ≤ 6) ∧ (∃ turn, turn < n ∧ MadeF n turn G n) ∧ ∀ i, n ≤ i → G i = ⟨ByteArray.empty, 0, 0⟩
end Go.Proofs.Ytfkfolglfmmkoaa
set_option linter.unusedVariables false
namespace Go.Proofs.Ytfkfolglfmmkoaa
open Go.RowKit

theorem owns_low {w : World} {base : Nat} {e : TypeId} {size n : Nat} {v : Value} {xs : List Value} (h : w.ownsRow base e size v n xs) {B : Nat} (j : Nat) (u : Value) (hB : B < base) : (w.setCell ⟨B, j, none⟩ u).ownsRow base e size v n xs :=
  ownsRow_setCell_other h (fun e => by have := (h.lt B e).1; omega) u
def bookS (b : BookD) : Prop := b.nf ≤ 1048576 ∧ b.nl ≤ 1048576 ∧ b.m ≤ 1048576 ∧ b.nfa ≤ 1048576 ∧ b.nta ≤ 1048576
theorem row_flat {k : Nat} {w : World} {base : Nat} {e : TypeId} {v : Value} {n : Nat} {g : Nat → List Value} (h : w.ownsRow base e k v n (flatR g n)) (hn : n ≤ 1048576) (hg : ∀ i, (g i).length = k) : RecRow k w v n g :=
  RecRow.of_owns h (by omega) (flatR_cells k g n fun i _ => hg i) (fun i _ => by rw [hg i]; exact Nat.le_refl _)
end Go.Proofs.Ytfkfolglfmmkoaa
set_option linter.unusedVariables false
namespace Go.Proofs.Ytfkfolglfmmkoaa
open Go.RowKit

def RsnD.vals (r : RsnD) (v : Value) : Array Value := #[.int .i64 r.key, v, .int .i64 r.first, .int .i64 r.other]
def ReasonL (w : World) (r : Option RsnD) (e : Ending) (w' : World) : Prop :=
  ∃ v, e = .returned (.tuple #[.agg ((r.getD rsn0).vals v), .bool r.isSome]) ∧ w'.ownsRow w.heap.size 3 1 v (r.getD rsn0).grp.length ((r.getD rsn0).grp.map (Value.int .i64)) ∧ Below w.heap.size w w'
theorem put_cell {B : Nat} {p : Addr} {v : Value} (hp : p.block ≠ B) : ∀ (vs : List Value) (o : Nat) (w : World), w.cell? p = some v → (putCs w B o vs).cell? p = some v
  | [], _, _, h => h
  | u :: vs, o, w, h => put_cell hp vs (o + 1) _ ((World.cell?_of_block (w := w) (w' := w.setCell ⟨B, o, none⟩ u) (a := p) (Below.heap_setCell w ⟨B, o, none⟩ u p.block hp)).trans h)
theorem BkAt.put {w0 : World} {B C : Nat} {fa : Option Addr} {fc : Nat} {la : Option Addr} {lc : Nat} {ga : Option Addr} {gc : Nat} {qa : Option Addr} {qc : Nat} {ta : Option Addr} {tc : Nat} {b : BookD} (hC : B ≠ C) (h0 : w0.heap.size ≤ C) :
    ∀ (vs : List Value) (o : Nat) (w : World), BkAt w0 w B fa fc la lc ga gc qa qc ta tc b → BkAt w0 (putCs w C o vs) B fa fc la lc ga gc qa qc ta tc b
  | [], _, _, h => h
  | u :: vs, o, w, h => BkAt.put hC h0 vs (o + 1) _ (h.store (p := ⟨C, o, none⟩) hC h0 u)
theorem owns_puts {w : World} {base B : Nat} {e : TypeId} {size n : Nat} {v : Value} {xs : List Value} (hB : B < base) : ∀ (vs : List Value) (o : Nat) (w : World), w.ownsRow base e size v n xs → (putCs w B o vs).ownsRow base e size v n xs
  | [], _, _, h => h
  | u :: vs, o, w, h => owns_puts (w := w) hB vs (o + 1) _ (owns_low h o u hB)
theorem valsL_get {V : Nat → Int} {k n : Nat} (h : k < n) : getI (valsL V n) k = V k := by unfold valsL getI; simp [h]
theorem valsL_len {V : Nat → Int} {n : Nat} : (valsL V n).length = n := by unfold valsL; simp
theorem l02Has_mem (v : Value) (p : List Int) (x : Int) (R : Bool) (w : World) (hR : R = true ↔ x ∈ p) (h : IntRow w v p.length (getI p)) :
    Calls Try.prog 107 #[v, .int .i64 x] w fun e w' => e = .returned (.bool R) ∧ w = w' := by
  cases R with
  | true => exact l02Has_yes v _ _ x w h ((hasP_mem p x).2 (hR.1 rfl))
  | false => exact l02Has_no v _ _ x w h (fun hh => by have := hR.2 ((hasP_mem p x).1 hh); cases this)
end Go.Proofs.Ytfkfolglfmmkoaa
set_option linter.unusedVariables false
namespace Go.Proofs.Ytfkfolglfmmkoaa
open Go.RowKit

def teamsR : PairL → List Int
  | [] => []
  | p :: r => hm p :: aw p :: teamsR r
theorem teamsR_cons (p : tPair.D) (r : PairL) : teamsR (p :: r) = [hm p, aw p] ++ teamsR r := rfl
def onceP (n : Int) (L : List Int) : Prop := (∀ t ∈ L, 0 ≤ t ∧ t ≤ n - 1) ∧ L.Nodup
theorem onceP_pre {n : Int} {A B : List Int} (h : onceP n (A ++ B)) : onceP n A := ⟨fun t ht => h.1 t (List.mem_append_left _ ht), (List.nodup_append.1 h.2).1⟩
theorem onceP_push {n t : Int} {A : List Int} (h : onceP n A) (h1 : 0 ≤ t ∧ t ≤ n - 1) (h2 : t ∉ A) : onceP n (A ++ [t]) := by
  refine ⟨fun u hu => ?_, List.nodup_append.2 ⟨h.2, by simp, fun x hx y hy => ?_⟩⟩
  · rcases List.mem_append.1 hu with hu | hu
    · exact h.1 u hu
    · rw [List.mem_singleton.1 hu]; exact h1
  · rw [List.mem_singleton.1 hy]; intro e; subst e; exact h2 hx
theorem not_once_out {n t : Int} {A B : List Int} (h : ¬ (0 ≤ t ∧ t ≤ n - 1)) : ¬ onceP n (A ++ t :: B) := fun e => h (e.1 t (List.mem_append_right _ (List.mem_cons_self ..)))
theorem not_once_dup {n t : Int} {A B : List Int} (h : t ∈ A) : ¬ onceP n (A ++ t :: B) := fun e => (List.nodup_append.1 e.2).2.2 t h t (List.mem_cons_self ..) rfl
theorem take_get {L : List Int} {i : Nat} (hi : i < L.length) : L = L.take i ++ getI L i :: L.drop (i + 1) := by
  have h1 : L[i]? = some (getI L i) := by rw [List.getElem?_eq_getElem hi]; simp [getI, hi]
  rw [← drop_at h1, List.take_append_drop]
theorem take_next {L : List Int} {i : Nat} (hi : i < L.length) : L.take (i + 1) = L.take i ++ [getI L i] := by
  have h1 : L[i]? = some (getI L i) := by rw [List.getElem?_eq_getElem hi]; simp [getI, hi]
  simp [List.take_add_one, h1]
theorem teamsR_len : ∀ r : PairL, (teamsR r).length = 2 * List.length (α := tPair.D) r
  | [] => rfl
  | p :: r => by
    have h := teamsR_len r
    have key : ∀ A B : Nat, A = 2 * B → A + 1 + 1 = 2 * (B + 1) := by omega
    exact key _ _ h
def schedP (n : Int) (d : List PairL) : Prop := (2 ≤ n ∧ n ≤ 8) ∧ List.length (α := PairL) d ≤ 14 ∧ ∀ r ∈ d, onceP n (teamsR r)
theorem teamsR_app : ∀ A B : PairL, teamsR (A ++ B) = teamsR A ++ teamsR B
  | [], _ => rfl
  | p :: A, B => by show hm p :: aw p :: teamsR (A ++ B) = _; rw [teamsR_app A B]; rfl
theorem lit_kept {w w' : World} {base n LB c : Nat} {e : TypeId} {xs : List Value} {v : Value} (h : w.ownsRow base e 1 (.slice (some ⟨LB, 0, none⟩) n c) n xs) (g : w.grownBy w' v.ownBlock) (ha : ∀ q, v.ownBlock = some q → q ≠ LB) : w'.ownsRow base e 1 (.slice (some ⟨LB, 0, none⟩) n c) n xs :=
  h.kept g (.inr fun e => ha LB e.symm rfl)
theorem lit_apart {w : World} {gg n c LB : Nat} {v : Value} (h : v.ownBlock = some gg ∨ w.heap.size ≤ gg) (hl : LB < w.heap.size) (ha : ∀ q, v.ownBlock = some q → q ≠ LB) : ∀ q, (Value.slice (some ⟨gg, 0, none⟩) n c).ownBlock = some q → q ≠ LB := fun q hq => by
  have hq' : gg = q := by simpa [Value.ownBlock] using hq
  subst hq'
  rcases h with h | h
  · exact ha _ h
  · omega
set_option maxRecDepth 100000 in
set_option maxHeartbeats 4000000 in
theorem isSchedule_spec (v : Value) (d : List PairL) (N : Int) (R : Bool) (w : World) (hR : R = true ↔ schedP N d) (h : RdA tPairSS w [v] d) (hw : tPairSS.wt d ≤ 1048576) :
    Calls Try.prog 69 #[.int .i64 N, v] w fun e w' => e = .returned (.bool R) ∧ Below w.heap.size w w' := by
  obtain ⟨i0, hi, hz0, hz1, hz2⟩ := info_parts Try.infoI
  have hdl : List.length (α := PairL) d ≤ 1048576 := by have e : tPairSS.wt d = List.length (α := PairL) d + (d.map tPairS.wt).sum := rfl; omega
  obtain ⟨a, c, rfl, hn⟩ := schedule_form h
  have HR := Lib.hid h
  clear h
  obtain ⟨n, hd⟩ : ∃ n, List.length (α := PairL) d = n := ⟨_, rfl⟩
  have HD := Lib.hid hd
  rw [hd] at hn ⊢
  clear hd
  have HN := Lib.hid (boolF hR)
  have HY := Lib.hid (boolT hR)
  clear hR
  have HF : Hid (∀ r ∈ d, ¬ onceP N (teamsR r) → R = false) := fun r hr h => HN.out (fun e => h (e.2.2 r hr))
  have hn6 : n ≤ 1048576 := by rw [HD.out] at hdl; exact hdl
  clear hdl
  have HWT : Hid (∀ r ∈ d, List.length (α := tPair.D) r ≤ 1048576) := fun r hr => by
    have h1 : ∀ L : List PairL, r ∈ L → List.length (α := tPair.D) r ≤ tPairSS.wt L := by
      intro L
      induction L with
      | nil => intro h; cases h
      | cons y L ih =>
        intro h
        have h9 := wt_PairSS_cons y L
        have h8 : List.length (α := tPair.D) r ≤ List.length (α := tPair.D) y + 1 + tPairSS.wt L := by
          rcases List.mem_cons.1 h with e | e
          · subst e; omega
          · have := ih e; omega
        exact Nat.le_trans h8 (Nat.le_of_eq h9.symm)
    exact Nat.le_trans (h1 d hr) hw
  go_enter Try.func69, Try.ntmps69
  by_cases hN : 2 ≤ N ∧ N ≤ 8
  case neg =>
    obtain rfl := HN.out (fun e => hN e.1)
    go_wp2_with fail
    refine (l01In_no _ _ _ _ hN).mono ?_
    rintro e wx ⟨rfl, rfl⟩
    go_wp2
    go_ret
    exact ⟨rfl, Below.refl _ _⟩
  go_wp2_with fail
  refine (l01In_yes _ _ _ _ hN).mono ?_
  rintro e wx ⟨rfl, rfl⟩
  by_cases hl : n ≤ 14
  case neg =>
    have g1 : decide ((14 : Int) < (n : Int)) = true := decide_eq_true (by omega)
    have g2 : decide (14 < n) = true := decide_eq_true (by omega)
    obtain rfl := HN.out (fun e => hl (by have := e.2.1; rw [HD.out] at this; exact this))
    go_wp2
    go_ret
    exact ⟨rfl, Below.refl _ _⟩
  have g1 : decide ((14 : Int) < (n : Int)) = false := decide_eq_false (by omega)
  have g2 : decide (14 < n) = false := decide_eq_false (by omega)
  go_wp2
  clear g1 g2
  go_loopw [22] (fun iv wr => ∃ k : Nat, k ≤ n ∧ iv = .int .i64 k ∧ Hid (∀ r ∈ d.take k, onceP N (teamsR r)) ∧ Hid (Below w.heap.size w wr)) (fun iv _ => n - (RowKit.intOf iv).toNat)
  case atStart => exact ⟨0, Nat.zero_le _, rfl, fun r hr => (by simp at hr), Below.refl _ _⟩
  case round =>
    obtain ⟨k, hk9, rfl, HV, HB⟩ := hrel
    by_cases hlt : k < n
    · obtain ⟨r, hr⟩ : ∃ r : PairL, d[k]? = some r := ⟨_, List.getElem?_eq_getElem (by rw [HD.out]; exact hlt)⟩
      have HRr := HR.out.below HB.out
      obtain ⟨b, off, x, xc, rfl, hcap, q0, hrr, hm63⟩ := round_cells HRr hr
      rw [HD.out] at hcap
      have hj1 : (k : Int) < (n : Int) := by omega
      have HRW := Lib.hid hrr
      obtain ⟨m, hm⟩ : ∃ m, List.length (α := tPair.D) r = m := ⟨_, rfl⟩
      have HM := Lib.hid hm
      rw [hm] at q0 hm63
      clear hm hrr HRr
      have hrm := Lib.hid (List.mem_of_getElem? hr)
      have HDT : Hid (d.take (k + 1) = d.take k ++ [r]) := by show _ = _; rw [List.take_add_one, hr]; rfl
      have hm6 : m ≤ 1048576 := by have h9 := HWT.out r hrm.out; rw [HM.out] at h9; exact h9
      have HBo := HB
      clear hr HB
      generalize wr = w1 at *
      have ON : Hid ((w1.alloc (.cells #[] 3)).ownsRow w1.heap.size 3 1 (.slice (some ⟨w1.heap.size, 0, none⟩) 0 0) 0 []) := World.ownsRow_lit (e := 3) (size := 1) w1 #[] 0 (Nat.le_refl _) (by decide) rfl
      have HB1 : Hid (Below w1.heap.size w1 (w1.alloc (.cells #[] 3))) := (Below.refl _ _).alloc (Nat.le_refl _) _
      go_wp2
      go_loopw [7, 29] (fun ov jv wi => ∃ (j : Nat) (SL : List Int), j ≤ m ∧ jv = .int .i64 j ∧ Hid (SL = teamsR (r.take j)) ∧ Hid (onceP N SL) ∧ Hid (wi.ownsRow w1.heap.size 3 1 ov SL.length (SL.map (Value.int .i64))) ∧ Hid (Below w1.heap.size w1 wi)) (fun _ jv _ => m - (RowKit.intOf jv).toNat)
      case atStart => exact ⟨0, [], Nat.zero_le _, rfl, rfl, ⟨fun t ht => (by cases ht), List.nodup_nil⟩, ON, HB1⟩
      case round =>
        clear ON HB1
        obtain ⟨j, SL, hj9, rfl, HSL, HOK, HO, HB2⟩ := hrel
        obtain ⟨oa, oc, hof⟩ := owns_form HO.out
        subst hof
        by_cases hlt2 : j < m
        · obtain ⟨p, hp⟩ : ∃ p : tPair.D, r[j]? = some p := ⟨_, List.getElem?_eq_getElem (by rw [HM.out]; exact hlt2)⟩
          have HRr := HRW.out.below HB2.out
          obtain ⟨bp, op, rfl, hcap2, e0, e1⟩ := pair_cells HRr hp
          rw [HM.out] at hcap2
          have hj2 : (j : Int) < (m : Int) := by omega
          have HT : Hid (teamsR r = SL ++ ([hm p, aw p] ++ teamsR (r.drop (j + 1)))) := by show _ = _; rw [HSL.out, ← teamsR_cons, ← teamsR_app, ← drop_at hp, List.take_append_drop]
          have HTK : Hid (teamsR (r.take (j + 1)) = teamsR (r.take j) ++ [hm p, aw p]) := by show _ = _; rw [List.take_add_one, hp, teamsR_app]; rfl
          clear hp HRr
          generalize hm p = ph at *
          generalize aw p = pa at *
          have HLT0 : Hid ((((wr.alloc (.cells #[.int .i64 ph, .int .i64 pa] 63)).alloc (.cells #[.int .i64 ph, .int .i64 pa] 3))).ownsRow (wr.heap.size + 1) 3 1 (.slice (some ⟨wr.heap.size + 1, 0, none⟩) 2 2) 2 [.int .i64 ph, .int .i64 pa]) := by
            refine Lib.hid ?_
            have h9 := World.ownsRow_lit (e := 3) (size := 1) (wr.alloc (.cells #[.int .i64 ph, .int .i64 pa] 63)) #[.int .i64 ph, .int .i64 pa] 2 (Nat.le_refl _) (by decide) rfl
            simpa using h9
          have hs2 := HB2.out.size
          have HOX : Hid ((((wr.alloc (.cells #[.int .i64 ph, .int .i64 pa] 63)).alloc (.cells #[.int .i64 ph, .int .i64 pa] 3))).ownsRow w1.heap.size 3 1 (.slice oa SL.length oc) SL.length (SL.map (Value.int .i64))) := (HO.out.alloc _).alloc _
          have HBX : Hid (Below w1.heap.size w1 ((wr.alloc (.cells #[.int .i64 ph, .int .i64 pa] 63)).alloc (.cells #[.int .i64 ph, .int .i64 pa] 3))) := (HB2.out.alloc hs2 _).alloc (by simp; omega) _
          have HAX : Hid (∀ q, (Value.slice oa SL.length oc).ownBlock = some q → q ≠ wr.heap.size + 1) := fun q hq => by have := (HO.out.lt q hq).2; omega
          clear HO HB2
          go_wp2
          obtain ⟨LB, hLB⟩ : ∃ LB, wr.heap.size + 1 = LB := ⟨_, rfl⟩
          rw [hLB] at HLT0 HAX
          (try rw [hLB])
          clear hLB
          go_loopw [7, 39] (fun ov iv wi => ∃ (i : Nat) (SQ : List Int), i ≤ 2 ∧ iv = .int .i64 i ∧ Hid (SQ = SL ++ ([ph, pa] : List Int).take i) ∧ Hid (onceP N SQ) ∧ Hid (wi.ownsRow w1.heap.size 3 1 ov SQ.length (SQ.map (Value.int .i64))) ∧ Hid (wi.ownsRow LB 3 1 (.slice (some ⟨LB, 0, none⟩) 2 2) 2 [.int .i64 ph, .int .i64 pa]) ∧ Hid (∀ q, ov.ownBlock = some q → q ≠ LB) ∧ Hid (Below w1.heap.size w1 wi)) (fun _ iv _ => 2 - (RowKit.intOf iv).toNat)
          case atStart => exact ⟨0, SL, Nat.zero_le _, rfl, (by show _ = _; simp), HOK, HOX, HLT0, HAX, HBX⟩
          case round =>
            clear HLT0 HOX HBX HAX HOK
            obtain ⟨i, SQ, hi9, rfl, HSQ, HOK, HO, HLIT, HAP, HB3⟩ := hrel
            obtain ⟨oa, oc, hof⟩ := owns_form HO.out
            subst hof
            by_cases hlt3 : i < 2
            · have HLR := IntRow.of_list (L := [ph, pa]) (v := (.slice (some ⟨LB, 0, none⟩) 2 2)) HLIT.out (by simp)
              obtain ⟨lb, lo, he, hlc, q9⟩ := int_at HLR (show i < ([ph, pa] : List Int).length from hlt3)
              simp only [Option.some.injEq, Addr.mk.injEq, and_true] at he
              obtain ⟨rfl, rfl⟩ := he
              simp only [Nat.zero_add] at q9
              have hj3 : (i : Int) < 2 := by omega
              have HSPL : Hid (teamsR r = SQ ++ getI [ph, pa] i :: (([ph, pa] : List Int).drop (i + 1) ++ teamsR (r.drop (j + 1)))) := by
                show _ = _
                rw [HT.out, HSQ.out]
                have e := take_get (L := [ph, pa]) hlt3
                conv => lhs; rw [e]
                simp
              have HNX : Hid (SQ ++ [getI [ph, pa] i] = SL ++ ([ph, pa] : List Int).take (i + 1)) := by show _ = _; rw [take_next (L := [ph, pa]) hlt3, HSQ.out]; simp
              have hSQl : SQ.length ≤ 2097152 := by have h9 := congrArg List.length HSPL.out; rw [teamsR_len, HM.out, List.length_append] at h9; omega
              have HW3 : Hid (Below w.heap.size w wr) := HBo.out.trans (HB3.out.mono HBo.out.size)
              clear HLR
              generalize getI [ph, pa] i = tt at *
              by_cases ht : 0 ≤ tt ∧ tt ≤ N - 1
              case neg =>
                obtain rfl := HF.out r hrm.out (by rw [HSPL.out]; exact not_once_out ht)
                go_wp2_with fail
                refine (l01In_no _ _ _ _ ht).mono ?_
                rintro e wx ⟨rfl, rfl⟩
                go_wp2
                go_ret
                exact ⟨rfl, HW3.out⟩
              go_wp2_with fail
              refine (l01In_yes _ _ _ _ ht).mono ?_
              rintro e wx ⟨rfl, rfl⟩
              have hrow := IntRow.of_list HO.out (by omega)
              obtain ⟨r1, hr1⟩ := boolEx (tt ∈ SQ)
              have C1 := Lib.hid (l02Has_mem _ SQ tt r1 wr hr1 hrow)
              have HR1 := Lib.hid hr1
              clear hrow hr1
              go_wp2_with fail
              refine C1.out.mono ?_
              rintro e wx ⟨rfl, rfl⟩
              clear C1
              cases r1 with
              | true =>
                obtain rfl := HF.out r hrm.out (by rw [HSPL.out]; exact not_once_dup (HR1.out.1 (by first | rfl | trivial)))
                go_wp2
                go_ret
                exact ⟨rfl, HW3.out⟩
              | false =>
              have HOK2 : Hid (onceP N (SQ ++ [tt])) := onceP_push HOK.out ht (fun e => by have := HR1.out.2 e; cases this)
              have hs3 := HB3.out.size
              have HLL : Hid (LB < wr.heap.size) := (HLIT.out.lt LB rfl).2
              clear HR1 HOK HW3
              go_wp2_with (at_builtin; (refine wpList_pushL rfl (.tmp 53) (.tmp 55) 24 rfl w1.heap.size 3 Try.underlying24 hi hz0 hz1 hz2 rfl (by decide) [.int .i64 tt] rfl (by intro u hu; simp at hu; subst hu; rfl) rfl (by show Value.slice (some ⟨_, 0, none⟩) 1 1 = _; simp) HO.out (by unfold maxLen; omega) (by omega) hs3 ?_; intro gg5 cc5 w5 o5 g5 at5 lt5; have O5 := Lib.hid o5; have HB5 := Lib.hid (HB3.out.grown g5 hs3 (fun q hq => (HO.out.lt q hq).1)); have HL5 := Lib.hid (lit_kept HLIT.out g5 HAP.out); have HA5 := Lib.hid (lit_apart (n := SQ.length + 1) (c := cc5) at5 HLL.out HAP.out); clear o5 g5 at5 lt5))
              go_roundw
              case rel => exact ⟨i + 1, SQ ++ [tt], by omega, by go_num, HNX, HOK2, by rw [List.length_append, List.map_append]; exact O5, HL5, HA5, HB5⟩
              case measure => simp [RowKit.intOf]; omega
            obtain rfl : i = 2 := by omega
            have HNX : Hid (SQ = teamsR (r.take (j + 1))) := by show _ = _; rw [HSQ.out, HSL.out, HTK.out]; rfl
            go_wp2
            go_roundw
            case rel => exact ⟨j + 1, SQ, by omega, by go_num, HNX, HOK, HO, HB3⟩
            case measure => simp [RowKit.intOf]; omega
        obtain rfl : j = m := by omega
        have HOR : Hid (onceP N (teamsR r)) := by have h9 := HOK.out; rw [HSL.out, List.take_of_length_le (by have := HM.out; omega)] at h9; exact h9
        have HVN : Hid (∀ y ∈ d.take (k + 1), onceP N (teamsR y)) := fun y hy => by
          rw [HDT.out] at hy
          rcases List.mem_append.1 hy with h | h
          · exact HV.out y h
          · rw [List.mem_singleton.1 h]; exact HOR.out
        have HBE : Hid (Below w.heap.size w wr) := HBo.out.trans (HB2.out.mono HBo.out.size)
        go_wp2
        go_roundw
        case rel => exact ⟨k + 1, by omega, by go_num, HVN, HBE⟩
        case measure => simp [RowKit.intOf]; omega
    obtain rfl : k = n := by omega
    obtain rfl := HY.out ⟨hN, by rw [HD.out]; exact hl, fun r hr => HV.out r (by rw [List.take_of_length_le (by have := HD.out; omega)]; exact hr)⟩
    go_wp2
    go_ret
    exact ⟨rfl, HB.out⟩
end Go.Proofs.Ytfkfolglfmmkoaa
set_option linter.unusedVariables false
namespace Go.Proofs.Ytfkfolglfmmkoaa
open Go.RowKit

def rdR (D : List PairL) (i : Nat) : PairL := (D[i]?).getD []
def kmI (n : Nat) (K : List Int) (a b : Int) : Int := getI K (a.toNat * n + b.toNat)
def kmCell (n : Nat) (K : List Int) (i : Nat) : Prop :=
  (0 ≤ getI K i ∧ getI K i ≤ 5000) ∧ (i / n = i % n → getI K i = 0) ∧ getI K i = getI K (i % n * n + i / n) ∧ ∀ k, k < n → getI K i ≤ wrap64 (getI K (i / n * n + k) + getI K (k * n + i % n))
def mapP (s : Int) (K : List Int) : Prop := (2 ≤ s ∧ s ≤ 8) ∧ (K.length : Int) = s * s ∧ ∀ i, i < K.length → kmCell s.toNat K i
structure Metric (n : Nat) (K : List Int) : Prop where
  two : 2 ≤ n
  eight : n ≤ 8
  len : K.length = n * n
  nonneg : ∀ a b : Int, 0 ≤ a → a < n → 0 ≤ b → b < n → 0 ≤ kmI n K a b ∧ kmI n K a b ≤ 5000
  self : ∀ a : Int, 0 ≤ a → a < n → kmI n K a a = 0
  symm : ∀ a b : Int, 0 ≤ a → a < n → 0 ≤ b → b < n → kmI n K a b = kmI n K b a
  tri : ∀ a b c : Int, 0 ≤ a → a < n → 0 ≤ b → b < n → 0 ≤ c → c < n → kmI n K a b ≤ kmI n K a c + kmI n K c b
theorem div_at {n a b : Nat} (hb : b < n) : (a * n + b) / n = a ∧ (a * n + b) % n = b := by
  have hn : 0 < n := by omega
  constructor
  · rw [Nat.mul_comm, Nat.mul_add_div hn, Nat.div_eq_of_lt hb, Nat.add_zero]
  · rw [Nat.mul_comm, Nat.mul_add_mod, Nat.mod_eq_of_lt hb]
theorem at_lt {n a b : Nat} (ha : a < n) (hb : b < n) : a * n + b < n * n := by
  have : (a + 1) * n ≤ n * n := Nat.mul_le_mul_right n ha
  rw [Nat.succ_mul] at this
  omega
theorem mapP.metric {s : Int} {K : List Int} (h : mapP s K) : Metric s.toNat K := by
  obtain ⟨⟨h2, h8⟩, hl, hc⟩ := h
  obtain ⟨n, rfl⟩ : ∃ n : Nat, s = n := ⟨s.toNat, by omega⟩
  simp only [Int.toNat_natCast] at hc ⊢
  have hl' : K.length = n * n := by exact_mod_cast hl
  have key : ∀ a b : Nat, a < n → b < n → kmCell n K (a * n + b) := fun a b ha hb => hc _ (by rw [hl']; exact at_lt ha hb)
  have nat : ∀ a : Int, 0 ≤ a → a < n → ∃ k : Nat, a = k ∧ k < n := fun a h0 h1 => ⟨a.toNat, by omega, by omega⟩
  refine ⟨by omega, by omega, hl', ?_, ?_, ?_, ?_⟩
  · intro a b ha ha' hb hb'
    obtain ⟨a, rfl, ka⟩ := nat a ha ha'
    obtain ⟨b, rfl, kb⟩ := nat b hb hb'
    exact (key a b ka kb).1
  · intro a ha ha'
    obtain ⟨a, rfl, ka⟩ := nat a ha ha'
    exact (key a a ka ka).2.1 (by rw [(div_at ka).1, (div_at ka).2])
  · intro a b ha ha' hb hb'
    obtain ⟨a, rfl, ka⟩ := nat a ha ha'
    obtain ⟨b, rfl, kb⟩ := nat b hb hb'
    have h9 := (key a b ka kb).2.2.1
    rw [(div_at kb).1, (div_at kb).2] at h9
    exact h9
  · intro a b c ha ha' hb hb' hc hc'
    obtain ⟨a, rfl, ka⟩ := nat a ha ha'
    obtain ⟨b, rfl, kb⟩ := nat b hb hb'
    obtain ⟨c, rfl, kc⟩ := nat c hc hc'
    have h9 := (key a b ka kb).2.2.2 c kc
    rw [(div_at kb).1, (div_at kb).2] at h9
    have r1 := (key a c ka kc).1
    have r2 := (key c b kc kb).1
    rw [show wrap64 (getI K (a * n + c) + getI K (c * n + b)) = getI K (a * n + c) + getI K (c * n + b) from IntWalk.wrap64_in _ (by omega)] at h9
    exact h9
def hostV (x : Int) : PairL → Int
  | [] => -1
  | p :: r => if hm p = x ∨ aw p = x then hm p else hostV x r
theorem hostV_cons (x : Int) (p : tPair.D) (r : PairL) : hostV x (p :: r) = if hm p = x ∨ aw p = x then hm p else hostV x r := rfl
theorem hostV_in {n x : Int} : ∀ {r : PairL}, (∀ t ∈ teamsR r, 0 ≤ t ∧ t ≤ n - 1) → -1 ≤ hostV x r ∧ hostV x r ≤ n - 1 ∨ hostV x r = -1
  | [], _ => .inr rfl
  | p :: r, h => by
    rw [hostV_cons]
    have hp : 0 ≤ hm p ∧ hm p ≤ n - 1 := h _ (by unfold teamsR; simp)
    by_cases e : hm p = x ∨ aw p = x
    · rw [if_pos e]; exact .inl ⟨by omega, hp.2⟩
    · rw [if_neg e]
      exact hostV_in (fun t ht => h t (by unfold teamsR; simp only [List.mem_cons]; exact .inr (.inr ht)))
theorem hostV_round {n : Int} {D : List PairL} (h : schedP n D) {r : PairL} (hr : r ∈ D) (x : Int) : -1 ≤ hostV x r ∧ hostV x r ≤ n - 1 := by
  have h9 := hostV_in (x := x) (h.2.2 r hr).1
  have h1 := h.1.1
  omega
def wayT (n : Nat) (K : List Int) (tm : Int) : Int → List PairL → Int
  | p, [] => kmI n K p tm
  | p, r :: D => if 0 ≤ hostV tm r then kmI n K p (hostV tm r) + wayT n K tm (hostV tm r) D else wayT n K tm p D
theorem wayT_cons (n : Nat) (K : List Int) (tm p : Int) (r : PairL) (D : List PairL) : wayT n K tm p (r :: D) = if 0 ≤ hostV tm r then kmI n K p (hostV tm r) + wayT n K tm (hostV tm r) D else wayT n K tm p D := rfl
def tripT (n : Nat) (K : List Int) (D : List PairL) (tm : Int) : Int := wayT n K tm tm D
def farT (n : Nat) (K : List Int) (tm : Int) : List PairL → Int
  | [] => 0
  | r :: D => if 0 ≤ hostV tm r then max (kmI n K tm (hostV tm r)) (farT n K tm D) else farT n K tm D
theorem farT_cons (n : Nat) (K : List Int) (tm : Int) (r : PairL) (D : List PairL) : farT n K tm (r :: D) = if 0 ≤ hostV tm r then max (kmI n K tm (hostV tm r)) (farT n K tm D) else farT n K tm D := rfl
def sumZN (f : Nat → Int) : Nat → Int
  | 0 => 0
  | t + 1 => sumZN f t + f t
def travT (n : Nat) (K : List Int) (D : List PairL) : Int := sumZN (fun t => tripT n K D t) n
def floorT (n : Nat) (K : List Int) (D : List PairL) : Int := sumZN (fun t => 2 * farT n K t D) n
theorem wayT_bnd {n : Nat} {K : List Int} (M : Metric n K) {tm : Int} (ht : 0 ≤ tm ∧ tm < n) : ∀ (D : List PairL) (p : Int), (∀ r ∈ D, -1 ≤ hostV tm r ∧ hostV tm r ≤ (n : Int) - 1) → 0 ≤ p ∧ p < n → 0 ≤ wayT n K tm p D ∧ wayT n K tm p D ≤ 5000 * ((D.length : Int) + 1)
  | [], p, _, hp => by
    have h9 := M.nonneg p tm hp.1 hp.2 ht.1 ht.2
    show 0 ≤ kmI n K p tm ∧ kmI n K p tm ≤ 5000 * (((0 : Nat) : Int) + 1)
    omega
  | r :: D, p, h, hp => by
    rw [wayT_cons]
    have hl : ((r :: D).length : Int) = (D.length : Int) + 1 := by simp
    have hr := h r (List.mem_cons_self ..)
    by_cases e : 0 ≤ hostV tm r
    · rw [if_pos e, hl]
      have h1 := M.nonneg p (hostV tm r) hp.1 hp.2 e (by omega)
      have h2 := wayT_bnd M ht D (hostV tm r) (fun r hr => h r (List.mem_cons_of_mem _ hr)) ⟨e, by omega⟩
      omega
    · rw [if_neg e, hl]
      have h2 := wayT_bnd M ht D p (fun r hr => h r (List.mem_cons_of_mem _ hr)) hp
      omega
theorem farT_bnd {n : Nat} {K : List Int} (M : Metric n K) {tm : Int} (ht : 0 ≤ tm ∧ tm < n) : ∀ (D : List PairL), (∀ r ∈ D, -1 ≤ hostV tm r ∧ hostV tm r ≤ (n : Int) - 1) → 0 ≤ farT n K tm D ∧ farT n K tm D ≤ 5000
  | [], _ => by show (0 : Int) ≤ 0 ∧ (0 : Int) ≤ 5000; omega
  | r :: D, h => by
    rw [farT_cons]
    have hr := h r (List.mem_cons_self ..)
    have h2 := farT_bnd M ht D (fun r hr => h r (List.mem_cons_of_mem _ hr))
    by_cases e : 0 ≤ hostV tm r
    · rw [if_pos e]
      have h1 := M.nonneg tm (hostV tm r) ht.1 ht.2 e (by omega)
      omega
    · rw [if_neg e]; exact h2
theorem sumZN_bnd {f : Nat → Int} {n : Nat} {lo hi : Int} (h : ∀ t, t < n → lo ≤ f t ∧ f t ≤ hi) : ∀ k, k ≤ n → lo * k ≤ sumZN f k ∧ sumZN f k ≤ hi * k
  | 0, _ => by simp [sumZN]
  | k + 1, hk => by
    have h1 := sumZN_bnd h k (by omega)
    have h2 := h k (by omega)
    have e1 : lo * ((k + 1 : Nat) : Int) = lo * k + lo := by rw [Int.natCast_succ, Int.mul_add, Int.mul_one]
    have e2 : hi * ((k + 1 : Nat) : Int) = hi * k + hi := by rw [Int.natCast_succ, Int.mul_add, Int.mul_one]
    rw [e1, e2]
    show _ ≤ sumZN f k + f k ∧ sumZN f k + f k ≤ _
    omega
theorem sumZN_mono {f g : Nat → Int} : ∀ n, (∀ t, t < n → f t ≤ g t) → sumZN f n ≤ sumZN g n
  | 0, _ => Int.le_refl _
  | n + 1, h => by
    have h1 := sumZN_mono n (fun t ht => h t (by omega))
    have h2 := h n (by omega)
    show sumZN f n + f n ≤ sumZN g n + g n
    omega
theorem sumZN_congr {f g : Nat → Int} : ∀ n, (∀ t, t < n → f t = g t) → sumZN f n = sumZN g n
  | 0, _ => rfl
  | n + 1, h => by
    show sumZN f n + f n = sumZN g n + g n
    rw [sumZN_congr n (fun t ht => h t (by omega)), h n (by omega)]
theorem wayT_ge {n : Nat} {K : List Int} (M : Metric n K) {tm : Int} (ht : 0 ≤ tm ∧ tm < n) : ∀ (D : List PairL) (p : Int), (∀ r ∈ D, -1 ≤ hostV tm r ∧ hostV tm r ≤ (n : Int) - 1) → 0 ≤ p ∧ p < n →
    kmI n K p tm ≤ wayT n K tm p D ∧ ∀ r ∈ D, 0 ≤ hostV tm r → kmI n K p (hostV tm r) + kmI n K (hostV tm r) tm ≤ wayT n K tm p D
  | [], p, _, hp => ⟨Int.le_refl _, fun r hr => by cases hr⟩
  | r :: D, p, h, hp => by
    rw [wayT_cons]
    have hr := h r (List.mem_cons_self ..)
    by_cases e : 0 ≤ hostV tm r
    · rw [if_pos e]
      have hq : 0 ≤ hostV tm r ∧ hostV tm r < n := ⟨e, by omega⟩
      obtain ⟨h1, h2⟩ := wayT_ge M ht D (hostV tm r) (fun r hr => h r (List.mem_cons_of_mem _ hr)) hq
      have h3 := M.tri p tm (hostV tm r) hp.1 hp.2 ht.1 ht.2 hq.1 hq.2
      refine ⟨by omega, fun x hx hx0 => ?_⟩
      rcases List.mem_cons.1 hx with rfl | hx
      · omega
      · have h4 := h2 x hx hx0
        have hxr := h x (List.mem_cons_of_mem _ hx)
        have h5 := M.tri p (hostV tm x) (hostV tm r) hp.1 hp.2 hx0 (by omega) hq.1 hq.2
        omega
    · rw [if_neg e]
      obtain ⟨h1, h2⟩ := wayT_ge M ht D p (fun r hr => h r (List.mem_cons_of_mem _ hr)) hp
      refine ⟨h1, fun x hx hx0 => ?_⟩
      rcases List.mem_cons.1 hx with rfl | hx
      · exact absurd hx0 e
      · exact h2 x hx hx0
theorem farT_le {n : Nat} {K : List Int} {tm B : Int} (hB : 0 ≤ B) : ∀ (D : List PairL), (∀ r ∈ D, 0 ≤ hostV tm r → kmI n K tm (hostV tm r) ≤ B) → farT n K tm D ≤ B
  | [], _ => hB
  | r :: D, h => by
    rw [farT_cons]
    have h2 := farT_le hB D (fun r hr => h r (List.mem_cons_of_mem _ hr))
    by_cases e : 0 ≤ hostV tm r
    · rw [if_pos e]
      have := h r (List.mem_cons_self ..) e
      omega
    · rw [if_neg e]; exact h2
theorem far_trip {n : Nat} {K : List Int} (M : Metric n K) {tm : Int} (ht : 0 ≤ tm ∧ tm < n) {D E : List PairL} (hE : ∀ r ∈ E, -1 ≤ hostV tm r ∧ hostV tm r ≤ (n : Int) - 1) (hDE : ∀ r ∈ D, r ∈ E) : 2 * farT n K tm D ≤ tripT n K E tm := by
  obtain ⟨h1, h2⟩ := wayT_ge M ht E tm hE ht
  have h0 := M.self tm ht.1 ht.2
  unfold tripT
  have hk : ∃ B, wayT n K tm tm E = 2 * B ∨ wayT n K tm tm E = 2 * B + 1 := ⟨wayT n K tm tm E / 2, by omega⟩
  obtain ⟨B, hB⟩ := hk
  have hf : farT n K tm D ≤ B := farT_le (by omega) D fun r hr h0r => by
    have h3 := h2 r (hDE r hr) h0r
    have h4 := hE r (hDE r hr)
    have h5 := M.symm tm (hostV tm r) ht.1 ht.2 h0r (by omega)
    omega
  omega
theorem floor_tot {n : Nat} {K : List Int} (M : Metric n K) {D E : List PairL} (hE : ∀ r ∈ E, ∀ tm : Int, -1 ≤ hostV tm r ∧ hostV tm r ≤ (n : Int) - 1) (hDE : ∀ r ∈ D, r ∈ E) : floorT n K D ≤ travT n K E :=
  sumZN_mono n fun t ht => far_trip M ⟨by omega, by omega⟩ (fun r hr => hE r hr t) hDE
def ordP (n : Nat) (O : List Int) : Prop := O.length = n ∧ ∀ i, i < n → (0 ≤ getI O i ∧ getI O i ≤ (n : Int) - 1) ∧ ¬ getI O i ∈ O.take i
def reoL (D : List PairL) (O : List Int) : List PairL := O.map fun i => rdR D i.toNat
def allO (N : Nat) : Nat → List Int → List (List Int)
  | 0, o => if o.length = N then [o] else []
  | f + 1, o => if o.length = N then [o] else (List.range N).flatMap fun (i : Nat) => if (i : Int) ∈ o then [] else allO N f (o ++ [(i : Int)])
def betS (T : List Int → Int) (st : Option (List Int × Int)) (o : List Int) : Option (List Int × Int) :=
  match st with
  | none => some (o, T o)
  | some (b, l) => if T o < l then some (o, T o) else some (b, l)
def bestO (N : Nat) (T : List Int → Int) : Option (List Int × Int) := (allO N N []).foldl (betS T) none
end Go.Proofs.Ytfkfolglfmmkoaa
set_option linter.unusedVariables false
namespace Go.Proofs.Ytfkfolglfmmkoaa
open Go.RowKit

theorem l01In_bool (x lo hi : Int) (R : Bool) (hR : R = true ↔ lo ≤ x ∧ x ≤ hi) (w : World) : Calls Try.prog 67 #[.int .i64 x, .int .i64 lo, .int .i64 hi] w fun e w' => e = .returned (.bool R) ∧ w = w' := by
  cases R with
  | true => exact (l01In_yes _ _ _ _ (hR.1 rfl)).mono fun e w' h => h
  | false => exact (l01In_no _ _ _ _ (fun h => by have := hR.2 h; cases this)).mono fun e w' h => h
set_option maxRecDepth 100000 in
set_option maxHeartbeats 2000000 in
theorem l11Venue_spec (v : Value) (r : PairL) (x : Int) (w : World) (h : RdA tPairS w [v] r) :
    Calls Try.prog 74 #[v, .int .i64 x] w fun e w' => e = .returned (.int .i64 (hostV x r)) ∧ Below w.heap.size w w' := by
  obtain ⟨a, c, rfl, hn⟩ := pairs_form h
  have HR := Lib.hid h
  clear h
  obtain ⟨n, hd⟩ : ∃ n, List.length (α := tPair.D) r = n := ⟨_, rfl⟩
  have HD := Lib.hid hd
  rw [hd] at hn ⊢
  clear hd
  go_enter Try.func74, Try.ntmps74
  go_wp2
  go_loopw [9] (fun iv wr => ∃ i : Nat, i ≤ n ∧ iv = .int .i64 i ∧ Hid (hostV x (r.drop i) = hostV x r) ∧ Hid (Below w.heap.size w wr)) (fun iv _ => n - (RowKit.intOf iv).toNat)
  case atStart => exact ⟨0, Nat.zero_le _, rfl, rfl, Below.refl _ _⟩
  case round =>
    obtain ⟨i, hi9, rfl, HV, HB⟩ := hrel
    by_cases hlt : i < n
    · obtain ⟨p, hp⟩ : ∃ p : tPair.D, r[i]? = some p := ⟨_, List.getElem?_eq_getElem (by rw [HD.out]; exact hlt)⟩
      have HV2 := HV.out
      rw [drop_at hp, hostV_cons] at HV2
      have HRr := HR.out.below HB.out
      obtain ⟨b, off, rfl, hcap, q0, q1⟩ := pair_cells HRr hp
      rw [HD.out] at hcap
      have hj1 : (i : Int) < (n : Int) := by omega
      have HBa : Hid (∀ o, Below w.heap.size w (wr.alloc o)) := fun o => HB.out.alloc HB.out.size o
      have HV3 := Lib.hid HV2
      clear HV HV2 HRr hp
      generalize hm p = ph at *
      generalize aw p = pa at *
      by_cases h1 : ph = x
      · have g1 : (ph == x) = true := beq_iff_eq.2 h1
        have HVx : Hid (hostV x r = ph) := by show _ = _; rw [← HV3.out]; exact if_pos (.inl h1)
        clear HV3 h1
        go_wp2
        go_ret
        exact ⟨by rw [HVx.out]; rfl, HBa.out _⟩
      have g1 : (ph == x) = false := beq_eq_false_iff_ne.2 h1
      by_cases h2 : pa = x
      · have g2 : (pa == x) = true := beq_iff_eq.2 h2
        have HVx : Hid (hostV x r = ph) := by show _ = _; rw [← HV3.out]; exact if_pos (.inr h2)
        clear HV3 h1 h2
        go_wp2
        go_ret
        exact ⟨by rw [HVx.out]; rfl, HBa.out _⟩
      have g2 : (pa == x) = false := beq_eq_false_iff_ne.2 h2
      have HVx : Hid (hostV x (r.drop (i + 1)) = hostV x r) := by show _ = _; rw [← HV3.out]; exact (if_neg (fun h => h.elim h1 h2)).symm
      clear HV3 h1 h2
      go_wp2
      go_roundw
      case rel => exact ⟨i + 1, by omega, by go_num, HVx, HBa.out _⟩
      case measure => simp [RowKit.intOf]; omega
    obtain rfl : i = n := by omega
    have HVx : Hid (hostV x r = -1) := by show _ = _; rw [← HV.out, List.drop_of_length_le (by have := HD.out; omega)]; rfl
    go_wp2
    go_ret
    exact ⟨by rw [HVx.out]; rfl, HB.out⟩
def MapAt (w : World) (X : Nat) (s : Int) (ka : Option Addr) (nk kc : Nat) (K : List Int) : Prop :=
  BoxN w X [.int .i64 s, .slice ka nk kc] ∧ IntRow w (.slice ka nk kc) nk (getI K)
theorem MapAt.below {w w' : World} {X : Nat} {s : Int} {ka : Option Addr} {nk kc : Nat} {K : List Int} (h : MapAt w X s ka nk kc K) (hb : Below w.heap.size w w') : MapAt w' X s ka nk kc K := ⟨h.1.below hb, h.2.below hb (Nat.le_refl _)⟩
theorem MapAt.cells {w : World} {X : Nat} {s : Int} {ka : Option Addr} {nk kc : Nat} {K : List Int} (h : MapAt w X s ka nk kc K) : w.cell? ⟨X, 0, none⟩ = some (.int .i64 s) ∧ w.cell? ⟨X, 1, none⟩ = some (.slice ka nk kc) := ⟨h.1.2 0 _ rfl, h.1.2 1 _ rfl⟩
theorem MapAt.made {w : World} {s : Int} {ka : Option Addr} {nk kc : Nat} {K : List Int} {t : TypeId} (h : IntRow w (.slice ka nk kc) nk (getI K)) : MapAt (w.alloc (.cells #[.int .i64 s, .slice ka nk kc] t)) w.heap.size s ka nk kc K :=
  have b : Below w.heap.size w (w.alloc (.cells #[.int .i64 s, .slice ka nk kc] t)) := (Below.refl _ _).alloc (Nat.le_refl _) _
  ⟨BoxN.made (Below.refl _ _) rfl, h.below b (Nat.le_refl _)⟩
set_option maxRecDepth 100000 in
set_option maxHeartbeats 4000000 in
theorem mapOk_spec (s : Int) (vk : Value) (K : List Int) (R : Bool) (w : World) (hR : R = true ↔ mapP s K) (h : IntRow w vk K.length (getI K)) :
    Calls Try.prog 23 #[.agg #[.int .i64 s, vk]] w fun e w' => e = .returned (.bool R) ∧ Below w.heap.size w w' := by
  obtain ⟨ka, kc, rfl, hkn, _⟩ := h.form
  obtain ⟨nk, hnk⟩ : ∃ nk, K.length = nk := ⟨_, rfl⟩
  obtain ⟨r1, hr1⟩ := boolEx (2 ≤ s ∧ s ≤ 8)
  obtain ⟨U, hU⟩ : ∃ U, w.alloc (.cells #[.int .i64 s, .slice ka K.length kc] 26) = U := ⟨_, rfl⟩
  have HS : Hid (MapAt U w.heap.size s ka K.length kc K) := by rw [← hU]; exact MapAt.made h
  have HB : Hid (Below w.heap.size w U) := by rw [← hU]; exact (Below.refl _ _).alloc (Nat.le_refl _) _
  have HN := Lib.hid (boolF hR)
  have HY := Lib.hid (boolT hR)
  have HNK := Lib.hid hnk
  have HR1 := Lib.hid hr1
  rw [hnk] at hkn hU HS ⊢
  clear h hR hnk hr1
  obtain ⟨c0, c1⟩ := HS.out.cells
  go_enter Try.func23, Try.ntmps23
  go_wp2_with fail
  clear hU
  refine (l01In_bool _ _ _ r1 HR1.out _).mono ?_
  rintro e wx ⟨rfl, rfl⟩
  cases r1 with
  | false =>
    obtain rfl := HN.out (fun h => by have := HR1.out.2 h.1; cases this)
    go_wp2
    go_ret
    exact ⟨rfl, HB.out⟩
  | true =>
  have hs := HR1.out.1 (by first | rfl | trivial)
  obtain ⟨n, hsn⟩ : ∃ n : Nat, s = n := ⟨s.toNat, by omega⟩
  subst hsn
  obtain ⟨q, hq⟩ : ∃ q : Nat, n * n = q := ⟨_, rfl⟩
  have hqi : (n : Int) * (n : Int) = (q : Int) := by rw [← hq]; exact (Int.natCast_mul n n).symm
  have hq64 : q ≤ 64 := by rw [← hq]; exact Nat.le_trans (Nat.mul_le_mul (show n ≤ 8 by omega) (show n ≤ 8 by omega)) (by decide)
  have HQ := Lib.hid hq
  clear hq HR1
  by_cases hne : nk = q
  case neg =>
    obtain rfl := HN.out (fun h => hne (by have h9 := h.2.1; rw [HNK.out, hqi] at h9; exact_mod_cast h9))
    have g1 : ((nk : Int) != (q : Int)) = true := by simp; omega
    go_wp2
    go_ret
    exact ⟨rfl, HB.out⟩
  subst hne
  have HNo : Hid ((∃ i, i < nk ∧ ¬ kmCell n K i) → R = false) := fun ⟨i, hi, h⟩ => HN.out fun hp => h (by have := hp.2.2 i (by rw [HNK.out]; exact hi); rw [Int.toNat_natCast] at this; exact this)
  have HYes : Hid ((∀ i, i < nk → kmCell n K i) → R = true) := fun h => HY.out ⟨hs, by rw [HNK.out, ← HQ.out]; exact Int.natCast_mul n n, fun i hi => by rw [Int.toNat_natCast]; exact h i (by rw [← HNK.out]; exact hi)⟩
  clear HN HY
  have g1 : ((nk : Int) != (nk : Int)) = false := by simp
  obtain ⟨hs2, hs8⟩ := hs
  go_wp2
  clear g1 c0 c1
  go_loopw [26] (fun iv wr => ∃ i : Nat, i ≤ nk ∧ iv = .int .i64 i ∧ Hid (∀ j, j < i → kmCell n K j) ∧ Hid (MapAt wr w.heap.size n ka nk kc K) ∧ Hid (Below w.heap.size w wr)) (fun iv _ => nk - (RowKit.intOf iv).toNat)
  case atStart => exact ⟨0, Nat.zero_le _, rfl, fun j hj => absurd hj (Nat.not_lt_zero _), HS, HB⟩
  case round =>
    clear HS HB
    obtain ⟨i, hi9, rfl, HV, HS, HB⟩ := hrel
    obtain ⟨c0, c1⟩ := HS.out.cells
    by_cases hlt : i < nk
    · obtain ⟨a, ha⟩ : ∃ a, i / n = a := ⟨_, rfl⟩
      obtain ⟨b, hb⟩ : ∃ b, i % n = b := ⟨_, rfl⟩
      have hn0 : 0 < n := by omega
      have hbn : b < n := by rw [← hb]; exact Nat.mod_lt _ hn0
      have han : a < n := by rw [← ha]; exact (Nat.div_lt_iff_lt_mul hn0).2 (by rw [HQ.out]; exact hlt)
      have e1 : (i : Int).tdiv (n : Int) = (a : Int) := by rw [← ha]; rfl
      have e2 : (i : Int).tmod (n : Int) = (b : Int) := by rw [← hb]; rfl
      obtain ⟨y, hy⟩ : ∃ y : Nat, b * n = y := ⟨_, rfl⟩
      obtain ⟨z, hz⟩ : ∃ z : Nat, a * n = z := ⟨_, rfl⟩
      have e3 : (b : Int) * (n : Int) = (y : Int) := by rw [← hy]; exact (Int.natCast_mul b n).symm
      have e4 : (a : Int) * (n : Int) = (z : Int) := by rw [← hz]; exact (Int.natCast_mul a n).symm
      have hya : y + a < nk := by rw [← hy, ← HQ.out]; exact at_lt hbn han
      have HZK : Hid (∀ k, k < n → z + k < nk) := fun k hk => by rw [← hz, ← HQ.out]; exact at_lt han hk
      have HCell : Hid (kmCell n K i ↔ (0 ≤ getI K i ∧ getI K i ≤ 5000) ∧ (a = b → getI K i = 0) ∧ getI K i = getI K (y + a) ∧ ∀ k, k < n → getI K i ≤ wrap64 (getI K (z + k) + getI K (k * n + b))) := by
        unfold kmCell; rw [ha, hb, hy, hz]; exact Iff.rfl
      have HF : Hid (¬ kmCell n K i → R = false) := fun h => HNo.out ⟨i, hlt, h⟩
      have HVN : Hid (kmCell n K i → ∀ j, j < i + 1 → kmCell n K j) := fun h j hj => by
        by_cases e : j = i
        · subst e; exact h
        · exact HV.out j (by omega)
      obtain ⟨bo, oo, hka, hcap, q0⟩ := int_at HS.out.2 hlt
      subst hka
      obtain ⟨_, _, he, _, q1⟩ := int_at HS.out.2 hya
      simp only [Option.some.injEq, Addr.mk.injEq, and_true] at he
      obtain ⟨rfl, rfl⟩ := he
      have HKK : Hid (∀ wa, MapAt wa w.heap.size n (some ⟨bo, oo, none⟩) nk kc K → ∀ k, k < nk → wa.cell? ⟨bo, oo + k, none⟩ = some (.int .i64 (getI K k))) := fun wa h k hk => by
        obtain ⟨_, _, he, _, q⟩ := int_at h.2 hk
        simp only [Option.some.injEq, Addr.mk.injEq, and_true] at he
        obtain ⟨rfl, rfl⟩ := he
        exact q
      have hj1 : (i : Int) < (nk : Int) := by omega
      obtain ⟨r2, hr2⟩ := boolEx (0 ≤ getI K i ∧ getI K i ≤ 5000)
      have HR2 := Lib.hid hr2
      obtain ⟨d, hd⟩ : ∃ d, getI K i = d := ⟨_, rfl⟩
      obtain ⟨d1, hd1⟩ : ∃ d, getI K (y + a) = d := ⟨_, rfl⟩
      have HD0 := Lib.hid hd
      rw [hd] at q0 HCell HR2
      rw [hd1] at q1 HCell
      clear ha hb hy hz hr2 HV HNo hd hd1 HYes
      go_wp2_with fail
      refine (l01In_bool _ _ _ r2 HR2.out _).mono ?_
      rintro e wx ⟨rfl, rfl⟩
      cases r2 with
      | false =>
        obtain rfl := HF.out (fun h => by have := HR2.out.2 (HCell.out.1 h).1; cases this)
        clear HF HVN HCell
        go_wp2
        go_ret
        exact ⟨rfl, HB.out⟩
      | true =>
      have HD5 := HR2.out.1 (by first | rfl | trivial)
      have k1 : ((y : Int) + (a : Int)).toNat = y + a := by omega
      have k2 : (y : Int) + (a : Int) < (nk : Int) := by omega
      by_cases hdd : d = d1
      case neg =>
        obtain rfl := HF.out (fun h => hdd (HCell.out.1 h).2.2.1)
        have g3 : (d != d1) = true := by simpa using hdd
        clear HF HVN HCell HR2
        by_cases hab : a = b
        · have g1 : ((a : Int) == (b : Int)) = true := by simp; omega
          by_cases hd0 : d = 0
          · have g2 : (d != 0) = false := by simp; omega
            clear hab hd0
            go_wp2
            go_ret
            exact ⟨rfl, HB.out⟩
          · have g2 : (d != 0) = true := by simpa using hd0
            clear hab hd0
            go_wp2
            go_ret
            exact ⟨rfl, HB.out⟩
        · have g1 : ((a : Int) == (b : Int)) = false := by simp; omega
          clear hab
          go_wp2
          go_ret
          exact ⟨rfl, HB.out⟩
      subst hdd
      have g3 : (d != d) = false := by simp
      by_cases hbad : a = b ∧ ¬ d = 0
      · obtain rfl := HF.out (fun h => hbad.2 ((HCell.out.1 h).2.1 hbad.1))
        have g1 : ((a : Int) == (b : Int)) = true := by simp; omega
        have g2 : (d != 0) = true := by simpa using hbad.2
        clear HF HVN HCell HR2 hbad
        go_wp2
        go_ret
        exact ⟨rfl, HB.out⟩
      have HCC : Hid ((∀ k, k < n → d ≤ wrap64 (getI K (z + k) + getI K (k * n + b))) → kmCell n K i) := fun h => HCell.out.2 ⟨HD5, fun e => by by_cases h0 : d = 0; exact h0; exact absurd ⟨e, h0⟩ hbad, rfl, h⟩
      have HCN : Hid (∀ k, k < n → ¬ d ≤ wrap64 (getI K (z + k) + getI K (k * n + b)) → R = false) := fun k hk h => HF.out fun hc => h ((HCell.out.1 hc).2.2.2 k hk)
      have HBAD := Lib.hid hbad
      clear HF HCell HR2 hbad
      by_cases hab : a = b
      · have g1 : ((a : Int) == (b : Int)) = true := by simp; omega
        have hd0 : d = 0 := by by_cases h0 : d = 0; exact h0; exact absurd ⟨hab, h0⟩ HBAD.out
        have g2 : (d != 0) = false := by simp; omega
        clear hab hd0
        go_wp2
        clear c0 c1 g1 g2 g3
        go_loopw [7] (fun kv wr => ∃ k : Nat, k ≤ n ∧ kv = .int .i64 k ∧ Hid (∀ j, j < k → d ≤ wrap64 (getI K (z + j) + getI K (j * n + b))) ∧ Hid (MapAt wr w.heap.size n (some ⟨bo, oo, none⟩) nk kc K) ∧ Hid (Below w.heap.size w wr)) (fun kv _ => n - (RowKit.intOf kv).toNat)
        case atStart => exact ⟨0, Nat.zero_le _, rfl, fun j hj => absurd hj (Nat.not_lt_zero _), HS, HB⟩
        case round =>
          clear HS HB q0 q1
          obtain ⟨k, hk9, rfl, HW, HS, HB⟩ := hrel
          obtain ⟨c0, c1⟩ := HS.out.cells
          by_cases hlk : k < n
          · obtain ⟨x, hx⟩ : ∃ x : Nat, k * n = x := ⟨_, rfl⟩
            have m1 : (k : Int) * (n : Int) = (x : Int) := by rw [← hx]; exact (Int.natCast_mul k n).symm
            have hxb : x + b < nk := by rw [← hx, ← HQ.out]; exact at_lt hlk hbn
            have hzk := HZK.out k hlk
            have p1 := HKK.out _ HS.out (z + k) hzk
            have p2 := HKK.out _ HS.out (x + b) hxb
            have HWN : Hid (d ≤ wrap64 (getI K (z + k) + getI K (x + b)) → ∀ j, j < k + 1 → d ≤ wrap64 (getI K (z + j) + getI K (j * n + b))) := fun h j hj => by
              by_cases e : j = k
              · subst e; rw [hx]; exact h
              · exact HW.out j (by omega)
            have HFK : Hid (¬ d ≤ wrap64 (getI K (z + k) + getI K (x + b)) → R = false) := fun h => HCN.out k hlk (by rw [hx]; first | exact h | exact Int.not_le.1 h)
            have w1 : IntKind.i64.wrap ((k : Int) * (n : Int)) = (x : Int) := by rw [m1]; exact IntWalk.i64_in _ (by omega)
            have w2 : IntKind.i64.wrap ((a : Int) * (n : Int)) = (z : Int) := by rw [e4]; exact IntWalk.i64_in _ (by omega)
            have w3 : IntKind.i64.wrap ((x : Int) + (b : Int)) = (x : Int) + (b : Int) := IntWalk.i64_in _ (by omega)
            have w4 : IntKind.i64.wrap ((z : Int) + (k : Int)) = (z : Int) + (k : Int) := IntWalk.i64_in _ (by omega)
            have t1 : ((x : Int) + (b : Int)).toNat = x + b := by omega
            have t2 : ((z : Int) + (k : Int)).toNat = z + k := by omega
            have t3 : (x : Int) + (b : Int) < (nk : Int) := by omega
            have t4 : (z : Int) + (k : Int) < (nk : Int) := by omega
            have hk1 : (k : Int) < (n : Int) := by omega
            clear hx HW
            generalize getI K (z + k) = u1 at *
            generalize getI K (x + b) = u2 at *
            obtain ⟨u3, hu3⟩ : ∃ z, wrap64 (u1 + u2) = z := ⟨_, rfl⟩
            have hu3' : IntKind.i64.wrap (u1 + u2) = u3 := (IntWalk.i64_left _).trans hu3
            rw [hu3] at HWN HFK
            by_cases hle : d ≤ u3
            · have g5 : decide (u3 < d) = false := decide_eq_false (by omega)
              have HWX := Lib.hid (HWN.out hle)
              clear HWN HFK
              go_wp2_with (go_quiet (fail))
              go_roundw
              case rel => exact ⟨k + 1, by omega, by go_num, HWX, HS.out.below (below_drewN (Below.refl _ _) _), below_drewN HB.out _⟩
              case measure => simp [RowKit.intOf]; omega
            · have g5 : decide (u3 < d) = true := decide_eq_true (by omega)
              obtain rfl := HFK.out hle
              clear HWN HFK
              go_wp2_with (go_quiet (fail))
              go_ret
              exact ⟨rfl, below_drewN HB.out _⟩
          obtain rfl : k = n := by omega
          have HVX := Lib.hid (HVN.out (HCC.out HW.out))
          go_wp2
          go_roundw
          case rel => exact ⟨i + 1, by omega, by go_num, HVX, HS, HB⟩
          case measure => simp [RowKit.intOf]; omega
      · have g1 : ((a : Int) == (b : Int)) = false := by simp; omega
        have g2 : (0 : Int) = 0 := rfl
        clear hab
        go_wp2
        clear c0 c1 g1 g2 g3
        go_loopw [7] (fun kv wr => ∃ k : Nat, k ≤ n ∧ kv = .int .i64 k ∧ Hid (∀ j, j < k → d ≤ wrap64 (getI K (z + j) + getI K (j * n + b))) ∧ Hid (MapAt wr w.heap.size n (some ⟨bo, oo, none⟩) nk kc K) ∧ Hid (Below w.heap.size w wr)) (fun kv _ => n - (RowKit.intOf kv).toNat)
        case atStart => exact ⟨0, Nat.zero_le _, rfl, fun j hj => absurd hj (Nat.not_lt_zero _), HS, HB⟩
        case round =>
          clear HS HB q0 q1
          obtain ⟨k, hk9, rfl, HW, HS, HB⟩ := hrel
          obtain ⟨c0, c1⟩ := HS.out.cells
          by_cases hlk : k < n
          · obtain ⟨x, hx⟩ : ∃ x : Nat, k * n = x := ⟨_, rfl⟩
            have m1 : (k : Int) * (n : Int) = (x : Int) := by rw [← hx]; exact (Int.natCast_mul k n).symm
            have hxb : x + b < nk := by rw [← hx, ← HQ.out]; exact at_lt hlk hbn
            have hzk := HZK.out k hlk
            have p1 := HKK.out _ HS.out (z + k) hzk
            have p2 := HKK.out _ HS.out (x + b) hxb
            have HWN : Hid (d ≤ wrap64 (getI K (z + k) + getI K (x + b)) → ∀ j, j < k + 1 → d ≤ wrap64 (getI K (z + j) + getI K (j * n + b))) := fun h j hj => by
              by_cases e : j = k
              · subst e; rw [hx]; exact h
              · exact HW.out j (by omega)
            have HFK : Hid (¬ d ≤ wrap64 (getI K (z + k) + getI K (x + b)) → R = false) := fun h => HCN.out k hlk (by rw [hx]; first | exact h | exact Int.not_le.1 h)
            have w1 : IntKind.i64.wrap ((k : Int) * (n : Int)) = (x : Int) := by rw [m1]; exact IntWalk.i64_in _ (by omega)
            have w2 : IntKind.i64.wrap ((a : Int) * (n : Int)) = (z : Int) := by rw [e4]; exact IntWalk.i64_in _ (by omega)
            have w3 : IntKind.i64.wrap ((x : Int) + (b : Int)) = (x : Int) + (b : Int) := IntWalk.i64_in _ (by omega)
            have w4 : IntKind.i64.wrap ((z : Int) + (k : Int)) = (z : Int) + (k : Int) := IntWalk.i64_in _ (by omega)
            have t1 : ((x : Int) + (b : Int)).toNat = x + b := by omega
            have t2 : ((z : Int) + (k : Int)).toNat = z + k := by omega
            have t3 : (x : Int) + (b : Int) < (nk : Int) := by omega
            have t4 : (z : Int) + (k : Int) < (nk : Int) := by omega
            have hk1 : (k : Int) < (n : Int) := by omega
            clear hx HW
            generalize getI K (z + k) = u1 at *
            generalize getI K (x + b) = u2 at *
            obtain ⟨u3, hu3⟩ : ∃ z, wrap64 (u1 + u2) = z := ⟨_, rfl⟩
            have hu3' : IntKind.i64.wrap (u1 + u2) = u3 := (IntWalk.i64_left _).trans hu3
            rw [hu3] at HWN HFK
            by_cases hle : d ≤ u3
            · have g5 : decide (u3 < d) = false := decide_eq_false (by omega)
              have HWX := Lib.hid (HWN.out hle)
              clear HWN HFK
              go_wp2_with (go_quiet (fail))
              go_roundw
              case rel => exact ⟨k + 1, by omega, by go_num, HWX, HS.out.below (below_drewN (Below.refl _ _) _), below_drewN HB.out _⟩
              case measure => simp [RowKit.intOf]; omega
            · have g5 : decide (u3 < d) = true := decide_eq_true (by omega)
              obtain rfl := HFK.out hle
              clear HWN HFK
              go_wp2_with (go_quiet (fail))
              go_ret
              exact ⟨rfl, below_drewN HB.out _⟩
          obtain rfl : k = n := by omega
          have HVX := Lib.hid (HVN.out (HCC.out HW.out))
          go_wp2
          go_roundw
          case rel => exact ⟨i + 1, by omega, by go_num, HVX, HS, HB⟩
          case measure => simp [RowKit.intOf]; omega
    obtain rfl : i = nk := by omega
    obtain rfl := HYes.out HV.out
    go_wp2
    go_ret
    exact ⟨rfl, HB.out⟩
def distV (R : Bool) (s : Int) (K : List Int) (a b : Int) : Int := if R = true then kmI s.toNat K a b else -1
theorem nat_in {n : Nat} {a : Int} (h : 0 ≤ a ∧ a ≤ (n : Int) - 1) : ∃ k : Nat, a = k ∧ k < n := ⟨a.toNat, by omega, by omega⟩
set_option maxRecDepth 100000 in
set_option maxHeartbeats 4000000 in
theorem distanceOf_spec (s : Int) (vk : Value) (K : List Int) (a b : Int) (R : Bool) (w : World) (hR : R = true ↔ mapP s K ∧ (0 ≤ a ∧ a ≤ s - 1) ∧ (0 ≤ b ∧ b ≤ s - 1)) (h : IntRow w vk K.length (getI K)) :
    Calls Try.prog 26 #[.agg #[.int .i64 s, vk], .int .i64 a, .int .i64 b] w fun e w' => e = .returned (.int .i64 (distV R s K a b)) ∧ Below w.heap.size w w' := by
  obtain ⟨ka, kc, rfl, hkn, _⟩ := h.form
  obtain ⟨nk, hnk⟩ : ∃ nk, K.length = nk := ⟨_, rfl⟩
  obtain ⟨r1, hr1⟩ := boolEx (mapP s K)
  obtain ⟨U, hU⟩ : ∃ U, w.alloc (.cells #[.int .i64 s, .slice ka K.length kc] 26) = U := ⟨_, rfl⟩
  have HS : Hid (MapAt U w.heap.size s ka K.length kc K) := by rw [← hU]; exact MapAt.made h
  have bU : Below w.heap.size w U := by rw [← hU]; exact (Below.refl _ _).alloc (Nat.le_refl _) _
  have HB := Lib.hid bU
  have CM := Lib.hid (mapOk_spec s (.slice ka K.length kc) K r1 U hr1 (h.below bU (Nat.le_refl _)))
  have HNK := Lib.hid hnk
  have HR1 := Lib.hid hr1
  have HRR := Lib.hid hR
  have HV : Hid (distV R s K a b = if R = true then kmI s.toNat K a b else -1) := rfl
  rw [hnk] at hkn hU HS CM ⊢
  clear h hR hnk hr1 bU
  generalize distV R s K a b = V at *
  obtain ⟨c0, c1⟩ := HS.out.cells
  go_enter Try.func26, Try.ntmps26
  go_wp2_with fail
  clear hU
  refine CM.out.mono ?_
  rintro e w1 ⟨rfl, bb⟩
  have HS1 := Lib.hid (HS.out.below bb)
  have HB1 := Lib.hid (HB.out.trans (bb.mono HB.out.size))
  clear bb c0 c1 HS HB CM
  obtain ⟨c0, c1⟩ := HS1.out.cells
  cases r1 with
  | false =>
    have hf : R = false := by cases R with | false => rfl | true => have := HR1.out.2 (HRR.out.1 rfl).1; cases this
    have HVX : Hid (V = -1) := by show _ = _; rw [HV.out, hf]; rfl
    go_wp2
    go_ret
    exact ⟨by rw [HVX.out]; rfl, HB1.out⟩
  | true =>
  have HMP : Hid (mapP s K) := HR1.out.1 (by first | rfl | trivial)
  have hs := HMP.out.1
  obtain ⟨hs1, hs2⟩ := hs
  clear HR1
  obtain ⟨r2, hr2⟩ := boolEx (0 ≤ a ∧ a ≤ s - 1)
  have HR2 := Lib.hid hr2
  clear hr2
  go_wp2_with fail
  refine (l01In_bool _ _ _ r2 HR2.out _).mono ?_
  rintro e wx ⟨rfl, rfl⟩
  cases r2 with
  | false =>
    have hf : R = false := by cases R with | false => rfl | true => have := HR2.out.2 (HRR.out.1 rfl).2.1; cases this
    have HVX : Hid (V = -1) := by show _ = _; rw [HV.out, hf]; rfl
    go_wp2
    go_ret
    exact ⟨by rw [HVX.out]; rfl, HB1.out⟩
  | true =>
  obtain ⟨r3, hr3⟩ := boolEx (0 ≤ b ∧ b ≤ s - 1)
  have HR3 := Lib.hid hr3
  clear hr3
  go_wp2_with fail
  refine (l01In_bool _ _ _ r3 HR3.out _).mono ?_
  rintro e wx ⟨rfl, rfl⟩
  cases r3 with
  | false =>
    have hf : R = false := by cases R with | false => rfl | true => have := HR3.out.2 (HRR.out.1 rfl).2.2; cases this
    have HVX : Hid (V = -1) := by show _ = _; rw [HV.out, hf]; rfl
    go_wp2
    go_ret
    exact ⟨by rw [HVX.out]; rfl, HB1.out⟩
  | true =>
  have ha := HR2.out.1 (by first | rfl | trivial)
  have hb := HR3.out.1 (by first | rfl | trivial)
  have hf : R = true := HRR.out.2 ⟨HMP.out, ha, hb⟩
  obtain ⟨n, rfl⟩ : ∃ n : Nat, s = n := ⟨s.toNat, by omega⟩
  obtain ⟨a, rfl, ka9⟩ := nat_in ha
  obtain ⟨b, rfl, kb9⟩ := nat_in hb
  obtain ⟨z, hz⟩ : ∃ z : Nat, a * n = z := ⟨_, rfl⟩
  have e1 : (a : Int) * (n : Int) = (z : Int) := by rw [← hz]; exact (Int.natCast_mul a n).symm
  have hlt : z + b < nk := by rw [← hz, ← HNK.out]; have h9 := HMP.out.metric.len; rw [Int.toNat_natCast] at h9; rw [h9]; exact at_lt ka9 kb9
  have hz64 : z ≤ 64 := by rw [← hz]; exact Nat.le_trans (Nat.mul_le_mul (show a ≤ 8 by omega) (show n ≤ 8 by omega)) (by decide)
  have t1 : ((z : Int) + (b : Int)).toNat = z + b := by omega
  have t2 : (z : Int) + (b : Int) < (nk : Int) := by omega
  obtain ⟨bo, oo, rfl, hcap, q0⟩ := int_at HS1.out.2 hlt
  have HVX : Hid (V = getI K (z + b)) := by show _ = _; rw [HV.out, hf, ← hz]; rfl
  clear hz HMP HR2 HR3 HRR HV hf
  generalize getI K (z + b) = x at *
  go_wp2
  go_ret
  exact ⟨by rw [HVX.out]; rfl, HB1.out⟩
end Go.Proofs.Ytfkfolglfmmkoaa
