/-
  Packed: FieldMap, RankImplA, Split, Strs, Join.
-/
import Derived.Test.YteciobkjfmddcaaGreatDoorShelf
import Derived.Lib.Join
import Derived.Test.YteciobkjfmddcaaGreatDoorQ2
import Derived.Test.YteciobkjfmddcaaGreatDoorQ3
import Derived.Test.YteciobkjfmddcaaGreatDoorQ4
import Derived.Test.YteciobkjfmddcaaGreatDoorQ7
import Derived.Test.YteciobkjfmddcaaGreatDoorQ10
set_option linter.unusedVariables false
namespace Go.Proofs.YteciobkjfmddcaaGreatDoor
open Go.RowKit Go.Maps

theorem kStr : Keyed Tryz.prog 9 := string_keyed Tryz.underlying9
theorem kInt : Keyed Tryz.prog 3 := int_keyed Tryz.underlying3
theorem zBool (w : World) : (zeroValue 4).run Tryz.prog w = .ok (.bool false) w := by kernel_rfl
def nameK (t : TeamD) : Lit := .string t.nm.data.toList
def seedK (t : TeamD) : Lit := .int .i64 t.seed
def keysUpto (f : TeamD → Lit) (g : Nat → TeamD) (k : Nat) (L : List Lit) : Prop := ∀ kl, kl ∈ L ↔ ∃ j, j < k ∧ kl = f (g j)
theorem keysUpto.next {f : TeamD → Lit} {g : Nat → TeamD} {k : Nat} {L : List Lit} (h : keysUpto f g k L) : keysUpto f g (k + 1) (f (g k) :: L) := by
  intro kl
  rw [List.mem_cons, h kl]
  constructor
  · rintro (rfl | ⟨j, hj, rfl⟩)
    · exact ⟨k, by omega, rfl⟩
    · exact ⟨j, by omega, rfl⟩
  · rintro ⟨j, hj, rfl⟩
    by_cases hjk : j = k
    · subst hjk; exact .inl rfl
    · exact .inr ⟨j, by omega, rfl⟩
theorem nameK_inj {a b : TeamD} (h : nameK a = nameK b) : a.nm = b.nm := by
  unfold nameK at h
  simp only [Lit.string.injEq] at h
  exact ByteArray.ext (Array.toList_inj.mp h)
theorem seedK_inj {a b : TeamD} (h : seedK a = seedK b) : a.seed = b.seed := by
  unfold seedK at h
  simpa using h
theorem fresh_of {g : Nat → TeamD} {k : Nat} {L1 L2 : List Lit} (h1 : keysUpto nameK g k L1) (h2 : keysUpto seedK g k L2) (ht : teamP (g k)) (hn : nameK (g k) ∉ L1) (hs : seedK (g k) ∉ L2) : freshP g k :=
  ⟨ht, fun j hj => ⟨fun e => hn ((h1 _).2 ⟨j, hj, by unfold nameK; rw [e]⟩), fun e => hs ((h2 _).2 ⟨j, hj, by unfold seedK; rw [e]⟩)⟩⟩
theorem stale_name {g : Nat → TeamD} {k : Nat} {L1 : List Lit} (h1 : keysUpto nameK g k L1) (hn : nameK (g k) ∈ L1) : ¬ freshP g k := by
  obtain ⟨j, hj, e⟩ := (h1 _).1 hn
  exact fun h => (h.2 j hj).1 (nameK_inj e).symm
theorem stale_seed {g : Nat → TeamD} {k : Nat} {L2 : List Lit} (h2 : keysUpto seedK g k L2) (hs : seedK (g k) ∈ L2) : ¬ freshP g k := by
  obtain ⟨j, hj, e⟩ := (h2 _).1 hs
  exact fun h => (h.2 j hj).2 (seedK_inj e).symm

theorem fieldOk_impl (v : Value) (n : Nat) (g : Nat → TeamD) (R : Bool) (w : World) (h : TeamRow w v n g) (hg : ∀ i, (g i).nm.size ≤ maxLen) (hR : R = true ↔ fieldP n g) :
    Calls Tryz.prog 35 #[v] w fun e w' => e = .returned (.bool R) ∧ Below w.heap.size w w' := by
  obtain ⟨a, cap, rfl, hn, hv⟩ := h.form'
  have HV := Lib.hid hv
  have HG := Lib.hid hg
  have HR := Lib.hid hR
  clear hv h hg hR
  have hmm := @run_makeMap Tryz.prog
  by_cases hlo : n < 2
  · have hf : R = false := by
      cases R with
      | false => rfl
      | true => exact absurd (HR.out.1 rfl).1 (by omega)
    subst hf
    have g1 : decide ((n : Int) < 2) = true := decide_eq_true (by omega)
    clear HR HV HG hlo
    go_enter Tryz.func35, Tryz.ntmps35
    go_wp2
    go_ret
    exact ⟨rfl, Below.refl _ _⟩
  have g1 : decide ((n : Int) < 2) = false := decide_eq_false (by omega)
  by_cases hhi : 8 < n
  · have hf : R = false := by
      cases R with
      | false => rfl
      | true => exact absurd (HR.out.1 rfl).1 (by omega)
    subst hf
    have g2 : decide ((8 : Int) < n) = true := decide_eq_true (by omega)
    clear HR HV HG hlo hhi
    go_enter Tryz.func35, Tryz.ntmps35
    go_wp2
    go_ret
    exact ⟨rfl, Below.refl _ _⟩
  have g2 : decide ((8 : Int) < n) = false := decide_eq_false (by omega)
  have hn8 : 2 ≤ n ∧ n ≤ 8 := by omega
  clear hlo hhi
  have HNO : Hid ((∃ k, k < n ∧ ¬ freshP g k) → R = false) := by
    rintro ⟨k, hk, hf⟩
    cases R with
    | false => rfl
    | true => exact absurd ((HR.out.1 rfl).2 k hk) hf
  have HYES : Hid ((∀ k, k < n → freshP g k) → R = true) := fun h => HR.out.2 ⟨hn8, h⟩
  clear HR
  have HK1 := Lib.hid kStr
  have HK2 := Lib.hid kInt
  have HZ := Lib.hid zBool
  go_enter Tryz.func35, Tryz.ntmps35
  go_wp2
  have m1 : BoolMap Tryz.prog (w.alloc (.map #[] 0)) 9 4 w.heap.size 0 [] := BoolMap.made w _ _ _
  have m2 : BoolMap Tryz.prog ((w.alloc (.map #[] 0)).alloc (.map #[] 0)) 3 4 (w.heap.size + 1) 0 [] := by
    have := BoolMap.made (w.alloc (.map #[] 0)) Tryz.prog 3 4
    simpa using this
  go_loopw [19] (fun i wr => ∃ (k : Nat) (L1 L2 : List Lit), k ≤ n ∧ i = .int .i64 k ∧ BoolMap Tryz.prog wr 9 4 w.heap.size k L1 ∧ BoolMap Tryz.prog wr 3 4 (w.heap.size + 1) k L2 ∧
      Hid (keysUpto nameK g k L1) ∧ Hid (keysUpto seedK g k L2) ∧ Hid (∀ j, j < k → freshP g j) ∧ Below w.heap.size w wr) (fun i _ => n - (RowKit.intOf i).toNat)
  case atStart =>
    exact ⟨0, [], [], Nat.zero_le _, rfl, m1.alloc _, m2, fun kl => by simp, fun kl => by simp, fun j hj => absurd hj (by omega),
      ((Below.refl _ _).alloc (Nat.le_refl _) _).alloc (by simp) _⟩
  case round =>
    clear m1 m2
    obtain ⟨k, L1, L2, hk, rfl, m1, m2, hL1, hL2, hfr, hb⟩ := hrel
    by_cases hlt : k < n
    · obtain ⟨b, off, rfl, hcap, hc⟩ := HV.out (by omega)
      obtain ⟨c0, c1, c2⟩ := cells_below hb (hc k hlt)
      have hgk := HG.out k
      have HBad : Hid (¬ freshP g k → R = false) := fun h => HNO.out ⟨k, hlt, h⟩
      have HStep : Hid (freshP g k → ∀ j, j < k + 1 → freshP g j) := fun h j hj => by
        by_cases hjk : j = k
        · subst hjk; exact h
        · exact hfr.out j (by omega)
      clear hc HV HG HNO hfr
      by_cases hx : ¬ teamP (g k)
      · have hf : R = false := HBad.out fun h => hx h.1
        subst hf
        have HX := Lib.hid hx
        clear hx HBad HStep HYES hL1 hL2
        generalize g k = x at *
        go_wp2_with (go_at_call 64; refine (teamOkI_no x _ hgk HX.out).mono ?_; rintro e w2 ⟨rfl, b2⟩; have hb2 : Below w.heap.size w w2 := (hb.alloc hb.size _).trans (b2.mono (Nat.le_trans hb.size (by simp))))
        go_ret
        exact ⟨rfl, hb2⟩
      replace hx := Classical.not_not.1 hx
      have HX := Lib.hid hx
      have hwf : (Lit.int .i64 (g k).seed).wf = true := WalkArith.wf_i64 (by have := hx.2.2; omega)
      have HK1 : Hid (keyOf Tryz.prog 9 (.string (g k).nm) = some (nameK (g k))) := WideMaps.keyOf_string_mk Tryz.underlying9 hgk
      have HK2 : Hid (keyOf Tryz.prog 3 (.int .i64 (g k).seed) = some (seedK (g k))) := keyOf_int_mk Tryz.underlying3 hwf
      have HF : Hid (nameK (g k) ∉ L1 → seedK (g k) ∉ L2 → freshP g k) := fun h1 h2 => fresh_of hL1.out hL2.out HX.out h1 h2
      have HN : Hid (nameK (g k) ∈ L1 → R = false) := fun h => HBad.out (stale_name hL1.out h)
      have HS : Hid (seedK (g k) ∈ L2 → R = false) := fun h => HBad.out (stale_seed hL2.out h)
      have hN1 := Lib.hid hL1.out.next
      have hN2 := Lib.hid hL2.out.next
      clear hx hwf HBad hL1 hL2
      have hl1 := m1.lt
      have hl2 := m2.lt
      have M1 : ∀ (o : Obj) (w2 : World), Below (wr.alloc o).heap.size (wr.alloc o) w2 → BoolMap Tryz.prog w2 9 4 w.heap.size k L1 := fun o w2 hb => (m1.alloc o).below hb (Nat.le_refl _)
      have M2 : ∀ (o : Obj) (w2 : World), Below (wr.alloc o).heap.size (wr.alloc o) w2 → BoolMap Tryz.prog w2 3 4 (w.heap.size + 1) k L2 := fun o w2 hb => (m2.alloc o).below hb (Nat.le_refl _)
      have M1 := Lib.hid M1
      have M2 := Lib.hid M2
      clear m1 m2
      by_cases hi1 : nameK (g k) ∈ L1
      · have hf : R = false := HN.out hi1
        subst hf
        have HI1 := Lib.hid hi1
        clear hi1 HN HS HF HStep HYES hN1 hN2 HK2
        generalize g k = x at *
        go_wp2_with (go_at_call 64; refine (teamOkI_yes x _ hgk HX.out).mono ?_; rintro e w2 ⟨rfl, b2⟩; obtain ⟨k0, k1, k2⟩ := var3 b2; have m1 := M1.out _ _ b2; have m2 := M2.out _ _ b2; have hb2 : Below w.heap.size w w2 := (hb.alloc hb.size _).trans (b2.mono (Nat.le_trans hb.size (by simp))); have hlB : wr.heap.size < w2.heap.size := World.block_lt_of_cell? _ _ k0; have r1 := (m1.run kStr Tryz.underlying97 Tryz.underlying4 (zBool _) HK1.out).1 HI1.out)
        go_ret
        exact ⟨rfl, hb2⟩
      have HI1 := Lib.hid hi1
      clear hi1 HN
      by_cases hi2 : seedK (g k) ∈ L2
      · have hf : R = false := HS.out hi2
        subst hf
        have HI2 := Lib.hid hi2
        clear hi2 HS HF HStep HYES hN1 hN2
        generalize g k = x at *
        go_wp2_with (go_at_call 64; refine (teamOkI_yes x _ hgk HX.out).mono ?_; rintro e w2 ⟨rfl, b2⟩; obtain ⟨k0, k1, k2⟩ := var3 b2; have m1 := M1.out _ _ b2; have m2 := M2.out _ _ b2; have hb2 : Below w.heap.size w w2 := (hb.alloc hb.size _).trans (b2.mono (Nat.le_trans hb.size (by simp))); have hlB : wr.heap.size < w2.heap.size := World.block_lt_of_cell? _ _ k0; have r1 := (m1.run kStr Tryz.underlying97 Tryz.underlying4 (zBool _) HK1.out).2 HI1.out; have r2 := (m2.run kInt Tryz.underlying98 Tryz.underlying4 (zBool _) HK2.out).1 HI2.out)
        go_ret
        exact ⟨rfl, hb2⟩
      have HI2 := Lib.hid hi2
      have HNext : Hid (∀ j, j < k + 1 → freshP g j) := HStep.out (HF.out HI1.out hi2)
      clear hi2 HS HF HStep
      generalize g k = x at *
      have kk1 : WideAt.IsKeyLit (nameK x) := trivial
      have kk2 : WideAt.IsKeyLit (seedK x) := trivial
      go_wp2_with (first
        | (go_at_call 64; refine (teamOkI_yes x _ hgk HX.out).mono ?_; rintro e w2 ⟨rfl, b2⟩; obtain ⟨k0, k1, k2⟩ := var3 b2; have m1 := M1.out _ _ b2; have m2 := M2.out _ _ b2; have hb2 : Below w.heap.size w w2 := (hb.alloc hb.size _).trans (b2.mono (Nat.le_trans hb.size (by simp))); have hlB : wr.heap.size < w2.heap.size := World.block_lt_of_cell? _ _ k0; have r1 := (m1.run kStr Tryz.underlying97 Tryz.underlying4 (zBool _) HK1.out).2 HI1.out; have r2 := (m2.run kInt Tryz.underlying98 Tryz.underlying4 (zBool _) HK2.out).2 HI2.out; have HM1 := Lib.hid m1; have HM2 := Lib.hid m2; clear m1 m2)
        | (at_mapUpdate; refine wpList_boolTrue rfl (.tmp 38) (.tmp 40) (.const (.bool true)) 97 rfl 9 4 kStr Tryz.underlying97 Tryz.underlying4 w.heap.size k L1 rfl HM1.out (by unfold maxLen; omega) _ (nameK x) rfl rfl HK1.out kk1 ?_; intro w3 m3 g3; have n2 : w3.cell? ⟨wr.heap.size, 2, none⟩ = some (.int .i64 x.seed) := g3.cell k2 (by simp; omega))
        | (at_mapUpdate; refine wpList_boolTrue rfl (.tmp 41) (.tmp 43) (.const (.bool true)) 98 rfl 3 4 kInt Tryz.underlying98 Tryz.underlying4 (w.heap.size + 1) k L2 rfl (HM2.out.grown g3 (by simp)) (by unfold maxLen; omega) _ (seedK x) rfl rfl HK2.out kk2 ?_; intro w4 m4 g4))
      go_roundw
      case rel =>
        exact ⟨k + 1, _, _, by omega, by go_num, m3.grown g4 (by simp), m4, hN1, hN2, HNext, (hb2.grown g3 hb2.size (fun q hq => by cases hq; exact Nat.le_refl _)).grown g4 (Nat.le_trans hb2.size g3.size) (fun q hq => by cases hq; omega)⟩
      case measure => simp [RowKit.intOf]; omega
    · obtain rfl : k = n := by omega
      have hf : R = true := HYES.out hfr.out
      subst hf
      clear HNO HYES hfr
      go_wp2
      go_ret
      exact ⟨rfl, hb⟩
end Go.Proofs.YteciobkjfmddcaaGreatDoor
set_option linter.unusedVariables false
namespace Go.Proofs.YteciobkjfmddcaaGreatDoor
open Go.RowKit

def Entered (f : Nat) : Prop := ∀ (args : Array Value) (w : World), Sem.run Tryz.prog (callFunc f args) w = .ok (.enter f args) w
set_option maxRecDepth 100000 in
set_option maxHeartbeats 2000000 in
theorem indexInts0 (f : Nat) (hf : Entered f) (v : Value) (n : Nat) (g : Nat → Int) (p : Int → Bool) (w : World) (hv : IntRow w v n g)
    (hp : ∀ x w', Below w.heap.size w w' → Calls Tryz.prog f #[.int .i64 x] w' fun e w'' => e = .returned (.bool (p x)) ∧ Below w'.heap.size w' w'') :
    Calls Tryz.prog 77 #[v, .func (.func f) #[] #[]] w fun e w' => e = .returned (.int .i64 (firstI (fun i => p (g i)) n 0)) ∧ Below w.heap.size w w' := by
  obtain ⟨aa, cap, rfl, hn, hc⟩ := hv.form
  have HP := Lib.hid hp
  have HVR := Lib.hid hv
  clear hc hv hp
  generalize hr : firstI (fun i => p (g i)) n 0 = R
  have HR := Lib.hid hr
  clear hr
  go_enter Tryz.func77, Tryz.ntmps77
  go_wp2
  go_loopw [8] (fun i wr => ∃ k : Nat, k ≤ n ∧ i = .int .i64 k ∧ Hid (firstI (fun i => p (g i)) (n - k) k = R) ∧ Below w.heap.size w wr) (fun i _ => n - (RowKit.intOf i).toNat)
  case atStart => exact ⟨0, Nat.zero_le _, rfl, HR.out, Below.refl _ _⟩
  case round =>
    obtain ⟨k, hk, rfl, hpf, hb⟩ := hrel
    by_cases hlt : k < n
    · obtain ⟨b, off, rfl, hcap, hc⟩ := int_at (HVR.out.below hb (Nat.le_refl _)) (by omega)
      have hstep := firstI_step (p := fun i => p (g i)) hlt
      rw [hpf.out] at hstep
      have HY := Lib.hid (fun (e : p (g k) = true) => hstep.trans (if_pos e))
      have HN := Lib.hid (fun (e : p (g k) = false) => hstep.trans (if_neg (by rw [e]; simp)))
      clear hstep
      have hsz := hb.size
      have hrun := hf #[.int .i64 (g k)] wr
      have C2 := Lib.hid (HP.out (g k) wr hb)
      generalize hx : g k = x at *
      clear HVR hpf HR HP hx
      generalize p x = r at *
      cases r with
      | true =>
        obtain rfl := HY.out rfl
        clear HY HN
        go_wp2_with fail
        refine C2.out.mono ?_
        rintro e w2 ⟨rfl, b2⟩
        have HE := Lib.hid (hb.trans (b2.mono hsz))
        clear C2 b2
        go_wp2
        go_ret
        exact ⟨rfl, HE.out⟩
      | false =>
        have HS := Lib.hid (HN.out rfl).symm
        clear HY HN
        go_wp2_with fail
        refine C2.out.mono ?_
        rintro e w2 ⟨rfl, b2⟩
        have HE := Lib.hid (hb.trans (b2.mono hsz))
        clear C2 b2
        go_wp2
        go_roundw
        case rel => exact ⟨k + 1, by omega, by go_num, HS.out, HE.out⟩
        case measure => simp [RowKit.intOf]; omega
    · obtain rfl : k = n := by omega
      have hR : R = -1 := by rw [← hpf.out, Nat.sub_self]; rfl
      subst hR
      clear hpf HR
      go_wp2
      go_ret
      exact ⟨rfl, hb⟩

set_option maxRecDepth 100000 in
set_option maxHeartbeats 2000000 in
theorem anyInts0 (f : Nat) (hf : Entered f) (v : Value) (n : Nat) (g : Nat → Int) (p : Int → Bool) (R : Bool) (w : World) (hR : R = true ↔ ∃ j, j < n ∧ p (g j) = true) (hv : IntRow w v n g)
    (hp : ∀ x w', Below w.heap.size w w' → Calls Tryz.prog f #[.int .i64 x] w' fun e w'' => e = .returned (.bool (p x)) ∧ Below w'.heap.size w' w'') :
    Calls Tryz.prog 54 #[v, .func (.func f) #[] #[]] w fun e w' => e = .returned (.bool R) ∧ Below w.heap.size w w' := by
  have H := Lib.hid (indexInts0 f hf v n g p w hv hp)
  have hq : R = decide (0 ≤ firstI (fun i => p (g i)) n 0) := by
    rw [Bool.eq_iff_iff, hR, decide_eq_true_eq, firstI_pos]
    exact ⟨fun ⟨j, h1, h2⟩ => ⟨j, by omega, by omega, h2⟩, fun ⟨j, _, h1, h2⟩ => ⟨j, by omega, h2⟩⟩
  generalize firstI (fun i => p (g i)) n 0 = q at *
  subst hq
  clear hv hR hp
  go_enter Tryz.func54, Tryz.ntmps54
  go_wp2_with (go_at_call 77; refine H.out.mono ?_; rintro e w' ⟨rfl, b1⟩)
  go_ret
  exact ⟨rfl, b1⟩

set_option maxRecDepth 100000 in
set_option maxHeartbeats 2000000 in
theorem indexInts1 (f : Nat) (hf : Entered f) (P : Option Addr) (v : Value) (n : Nat) (g : Nat → Int) (p : Int → Bool) (w : World) (hv : IntRow w v n g)
    (hp : ∀ x w', Below w.heap.size w w' → Calls Tryz.prog f #[.int .i64 x, .pointer P] w' fun e w'' => e = .returned (.bool (p x)) ∧ Below w'.heap.size w' w'') :
    Calls Tryz.prog 77 #[v, .func (.func f) #[] #[.pointer P]] w fun e w' => e = .returned (.int .i64 (firstI (fun i => p (g i)) n 0)) ∧ Below w.heap.size w w' := by
  obtain ⟨aa, cap, rfl, hn, hc⟩ := hv.form
  have HP := Lib.hid hp
  have HVR := Lib.hid hv
  clear hc hv hp
  generalize hr : firstI (fun i => p (g i)) n 0 = R
  have HR := Lib.hid hr
  clear hr
  go_enter Tryz.func77, Tryz.ntmps77
  go_wp2
  go_loopw [8] (fun i wr => ∃ k : Nat, k ≤ n ∧ i = .int .i64 k ∧ Hid (firstI (fun i => p (g i)) (n - k) k = R) ∧ Below w.heap.size w wr) (fun i _ => n - (RowKit.intOf i).toNat)
  case atStart => exact ⟨0, Nat.zero_le _, rfl, HR.out, Below.refl _ _⟩
  case round =>
    obtain ⟨k, hk, rfl, hpf, hb⟩ := hrel
    by_cases hlt : k < n
    · obtain ⟨b, off, rfl, hcap, hc⟩ := int_at (HVR.out.below hb (Nat.le_refl _)) (by omega)
      have hstep := firstI_step (p := fun i => p (g i)) hlt
      rw [hpf.out] at hstep
      have HY := Lib.hid (fun (e : p (g k) = true) => hstep.trans (if_pos e))
      have HN := Lib.hid (fun (e : p (g k) = false) => hstep.trans (if_neg (by rw [e]; simp)))
      clear hstep
      have hsz := hb.size
      have hrun := hf #[.int .i64 (g k), .pointer P] wr
      have C2 := Lib.hid (HP.out (g k) wr hb)
      generalize hx : g k = x at *
      clear HVR hpf HR HP hx
      generalize p x = r at *
      cases r with
      | true =>
        obtain rfl := HY.out rfl
        clear HY HN
        go_wp2_with fail
        refine C2.out.mono ?_
        rintro e w2 ⟨rfl, b2⟩
        have HE := Lib.hid (hb.trans (b2.mono hsz))
        clear C2 b2
        go_wp2
        go_ret
        exact ⟨rfl, HE.out⟩
      | false =>
        have HS := Lib.hid (HN.out rfl).symm
        clear HY HN
        go_wp2_with fail
        refine C2.out.mono ?_
        rintro e w2 ⟨rfl, b2⟩
        have HE := Lib.hid (hb.trans (b2.mono hsz))
        clear C2 b2
        go_wp2
        go_roundw
        case rel => exact ⟨k + 1, by omega, by go_num, HS.out, HE.out⟩
        case measure => simp [RowKit.intOf]; omega
    · obtain rfl : k = n := by omega
      have hR : R = -1 := by rw [← hpf.out, Nat.sub_self]; rfl
      subst hR
      clear hpf HR
      go_wp2
      go_ret
      exact ⟨rfl, hb⟩

set_option maxRecDepth 100000 in
set_option maxHeartbeats 2000000 in
theorem anyInts1 (f : Nat) (hf : Entered f) (P : Option Addr) (v : Value) (n : Nat) (g : Nat → Int) (p : Int → Bool) (R : Bool) (w : World) (hR : R = true ↔ ∃ j, j < n ∧ p (g j) = true) (hv : IntRow w v n g)
    (hp : ∀ x w', Below w.heap.size w w' → Calls Tryz.prog f #[.int .i64 x, .pointer P] w' fun e w'' => e = .returned (.bool (p x)) ∧ Below w'.heap.size w' w'') :
    Calls Tryz.prog 54 #[v, .func (.func f) #[] #[.pointer P]] w fun e w' => e = .returned (.bool R) ∧ Below w.heap.size w w' := by
  have H := Lib.hid (indexInts1 f hf P v n g p w hv hp)
  have hq : R = decide (0 ≤ firstI (fun i => p (g i)) n 0) := by
    rw [Bool.eq_iff_iff, hR, decide_eq_true_eq, firstI_pos]
    exact ⟨fun ⟨j, h1, h2⟩ => ⟨j, by omega, by omega, h2⟩, fun ⟨j, _, h1, h2⟩ => ⟨j, by omega, h2⟩⟩
  generalize firstI (fun i => p (g i)) n 0 = q at *
  subst hq
  clear hv hR hp
  go_enter Tryz.func54, Tryz.ntmps54
  go_wp2_with (go_at_call 77; refine H.out.mono ?_; rintro e w' ⟨rfl, b1⟩)
  go_ret
  exact ⟨rfl, b1⟩

def penB (x : Int) : Bool := decide (x < 0) || decide (1000 < x)
theorem penB_iff (x : Int) : penB x = true ↔ ¬ (0 ≤ x ∧ x ≤ 1000) := by unfold penB; simp; omega

set_option maxRecDepth 100000 in
set_option maxHeartbeats 2000000 in
theorem penCl_impl (x : Int) (w : World) :
    Calls Tryz.prog 67 #[.int .i64 x] w fun e w' => e = .returned (.bool (penB x)) ∧ Below w.heap.size w w' := by
  unfold penB
  by_cases h1 : x < 0
  · have g1 : decide (x < 0) = true := decide_eq_true h1
    rw [g1]
    go_enter Tryz.func67, Tryz.ntmps67
    go_wp2
    go_ret
    exact ⟨rfl, Below.refl _ _⟩
  · have g1 : decide (x < 0) = false := decide_eq_false h1
    rw [g1, Bool.false_or]
    go_enter Tryz.func67, Tryz.ntmps67
    go_wp2
    go_ret
    exact ⟨rfl, Below.refl _ _⟩

set_option maxRecDepth 100000 in
set_option maxHeartbeats 2000000 in
theorem arePen_impl (n : Nat) (v : Value) (m : Nat) (g : Nat → Int) (R : Bool) (w : World) (hR : R = true ↔ (m = n ∧ ∀ i, i < m → 0 ≤ g i ∧ g i ≤ 1000)) (hv : IntRow w v m g) :
    Calls Tryz.prog 38 #[.int .i64 n, v] w fun e w' => e = .returned (.bool R) ∧ Below w.heap.size w w' := by
  obtain ⟨r, hr⟩ := boolEx (∃ j, j < m ∧ penB (g j) = true)
  have C := Lib.hid (anyInts0 67 (fun _ _ => rfl) v m g penB r w hr hv fun x w' _ => penCl_impl x w')
  obtain ⟨a, c, rfl, hm, _⟩ := hv.form
  by_cases h1 : m = n
  case neg =>
    obtain rfl : R = false := boolF hR fun h => h1 h.1
    have g1 : ((m : Int) == n) = false := beq_eq_false_iff_ne.2 (by omega)
    clear hR hv C hr
    go_enter Tryz.func38, Tryz.ntmps38
    go_wp2
    go_ret
    exact ⟨rfl, Below.refl _ _⟩
  have g1 : ((m : Int) == n) = true := beq_iff_eq.2 (by omega)
  have hRr : R = !r := by
    cases r with
    | true =>
      obtain ⟨j, hj, hp⟩ := hr.1 rfl
      exact boolF hR fun h => (penB_iff _).1 hp (h.2 j hj)
    | false =>
      refine boolT hR ⟨h1, fun i hi => ?_⟩
      have : ¬ penB (g i) = true := fun h => by have := hr.2 ⟨i, hi, h⟩; cases this
      exact Classical.byContradiction fun h => this ((penB_iff _).2 h)
  subst hRr
  clear hR hv hr h1
  go_enter Tryz.func38, Tryz.ntmps38
  go_wp2_with fail
  refine C.out.mono ?_
  rintro e w1 ⟨rfl, b1⟩
  go_wp2
  go_ret
  exact ⟨rfl, b1⟩

set_option maxRecDepth 100000 in
set_option maxHeartbeats 2000000 in
theorem bookOk_impl (vf vl vg vfa vta : Value) (b : BookD) (R : Bool) (w : World) (hR : R = true ↔ bookP b) (h : BookRow w vf vl vg vfa vta b) (hs : ∀ i, (b.f i).nm.size ≤ maxLen) :
    Calls Tryz.prog 16 #[.agg #[vf, .int .i64 b.win, .int .i64 b.draw, .int .i64 b.loss, vl, .bool b.again, vg, vfa, vta]] w fun e w' => e = .returned (.bool R) ∧ Below w.heap.size w w' := by
  obtain ⟨fa, fc, la, lc, ga, gc, qa, qc, ta, tc, rfl, rfl, rfl, rfl, rfl⟩ := h.form
  obtain ⟨r1, hr1⟩ := boolEx (fieldP b.nf b.f)
  obtain ⟨r2, hr2⟩ := boolEx (rulesP b.win b.draw b.loss b.nl b.l)
  obtain ⟨r3, hr3⟩ := boolEx (seasonP b.nf b.m b.g)
  obtain ⟨r4, hr4⟩ := boolEx (b.nfa = b.nf ∧ ∀ i, i < b.nfa → 0 ≤ b.fa i ∧ b.fa i ≤ 1000)
  obtain ⟨r5, hr5⟩ := boolEx (b.nta = b.nf ∧ ∀ i, i < b.nta → 0 ≤ b.ta i ∧ b.ta i ≤ 1000)
  have C1 := Lib.hid (fun w1 h1 => fieldOk_impl (.slice fa b.nf fc) b.nf b.f r1 w1 h1 hs hr1)
  have C2 := Lib.hid (fun w1 h1 => rulesOk_impl b.win b.draw b.loss b.again r2 (.slice la b.nl lc) b.nl b.l w1 hr2 h1)
  have C3 := Lib.hid (fun w1 h1 => seasonOk_impl b.nf (.slice ga b.m gc) b.m b.g r3 w1 hr3 h1)
  have C4 := Lib.hid (fun w1 h1 => arePen_impl b.nf (.slice qa b.nfa qc) b.nfa b.fa r4 w1 hr4 h1)
  have C5 := Lib.hid (fun w1 h1 => arePen_impl b.nf (.slice ta b.nta tc) b.nta b.ta r5 w1 hr5 h1)
  have hall : R = true ↔ (r1 = true ∧ r2 = true ∧ r3 = true ∧ r4 = true ∧ r5 = true) := by
    rw [hR, hr1, hr2, hr3, hr4, hr5]
    unfold bookP pensP
    refine ⟨fun ⟨a1, a2, a3, a4, a5, a6⟩ => ⟨a1, a2, a3, ⟨a4, fun i hi => (a6 i (by omega)).1⟩, a5, fun i hi => (a6 i (by omega)).2⟩, fun ⟨a1, a2, a3, ⟨a4, a6⟩, a5, a7⟩ => ⟨a1, a2, a3, a4, a5, fun i hi => ⟨a6 i (by omega), a7 i (by omega)⟩⟩⟩
  have HN := Lib.hid (boolF hall)
  have HY := Lib.hid (boolT hall)
  clear hR hr1 hr2 hr3 hr4 hr5 hall hs
  have K0 := Lib.hid (BkAt.made h 29)
  have hsix := h.sixty
  clear h
  obtain ⟨d0, d1, d2, d3, d4, d5, d6, d7, d8⟩ := K0.out.cells
  go_enter Tryz.func16, Tryz.ntmps16
  cases r1 with
  | false =>
    obtain rfl := HN.out fun h => by have := h.1; cases this
    clear HN HY
    go_wp2_with fail
    refine (C1.out _ K0.out.row.1).mono ?_
    rintro e w1 ⟨rfl, b1⟩
    have K1 := Lib.hid (K0.out.next b1)
    clear d0 d1 d2 d3 d4 d5 d6 d7 d8 K0 b1
    obtain ⟨d0, d1, d2, d3, d4, d5, d6, d7, d8⟩ := K1.out.cells
    have HE := Lib.hid K1.out.bel
    go_wp2
    go_ret
    exact ⟨rfl, HE.out⟩
  | true =>
  go_wp2_with fail
  refine (C1.out _ K0.out.row.1).mono ?_
  rintro e w1 ⟨rfl, b1⟩
  have K1 := Lib.hid (K0.out.next b1)
  clear d0 d1 d2 d3 d4 d5 d6 d7 d8 K0 b1
  obtain ⟨d0, d1, d2, d3, d4, d5, d6, d7, d8⟩ := K1.out.cells
  cases r2 with
  | false =>
    obtain rfl := HN.out fun h => by have := h.2.1; cases this
    clear HN HY
    go_wp2_with fail
    refine (C2.out _ K1.out.row.2.1).mono ?_
    rintro e w2 ⟨rfl, b2⟩
    have K2 := Lib.hid (K1.out.next b2)
    clear d0 d1 d2 d3 d4 d5 d6 d7 d8 K1 b2
    obtain ⟨d0, d1, d2, d3, d4, d5, d6, d7, d8⟩ := K2.out.cells
    have HE := Lib.hid K2.out.bel
    go_wp2
    go_ret
    exact ⟨rfl, HE.out⟩
  | true =>
  go_wp2_with fail
  refine (C2.out _ K1.out.row.2.1).mono ?_
  rintro e w2 ⟨rfl, b2⟩
  have K2 := Lib.hid (K1.out.next b2)
  clear d0 d1 d2 d3 d4 d5 d6 d7 d8 K1 b2
  obtain ⟨d0, d1, d2, d3, d4, d5, d6, d7, d8⟩ := K2.out.cells
  cases r3 with
  | false =>
    obtain rfl := HN.out fun h => by have := h.2.2.1; cases this
    clear HN HY
    go_wp2_with fail
    refine (C3.out _ K2.out.row.2.2.1).mono ?_
    rintro e w3 ⟨rfl, b3⟩
    have K3 := Lib.hid (K2.out.next b3)
    clear d0 d1 d2 d3 d4 d5 d6 d7 d8 K2 b3
    obtain ⟨d0, d1, d2, d3, d4, d5, d6, d7, d8⟩ := K3.out.cells
    have HE := Lib.hid K3.out.bel
    go_wp2
    go_ret
    exact ⟨rfl, HE.out⟩
  | true =>
  go_wp2_with fail
  refine (C3.out _ K2.out.row.2.2.1).mono ?_
  rintro e w3 ⟨rfl, b3⟩
  have K3 := Lib.hid (K2.out.next b3)
  clear d0 d1 d2 d3 d4 d5 d6 d7 d8 K2 b3
  obtain ⟨d0, d1, d2, d3, d4, d5, d6, d7, d8⟩ := K3.out.cells
  cases r4 with
  | false =>
    obtain rfl := HN.out fun h => by have := h.2.2.2.1; cases this
    clear HN HY
    go_wp2_with fail
    refine (C4.out _ K3.out.row.2.2.2.1).mono ?_
    rintro e w4 ⟨rfl, b4⟩
    have K4 := Lib.hid (K3.out.next b4)
    clear d0 d1 d2 d3 d4 d5 d6 d7 d8 K3 b4
    obtain ⟨d0, d1, d2, d3, d4, d5, d6, d7, d8⟩ := K4.out.cells
    have HE := Lib.hid K4.out.bel
    go_wp2
    go_ret
    exact ⟨rfl, HE.out⟩
  | true =>
  go_wp2_with fail
  refine (C4.out _ K3.out.row.2.2.2.1).mono ?_
  rintro e w4 ⟨rfl, b4⟩
  have K4 := Lib.hid (K3.out.next b4)
  clear d0 d1 d2 d3 d4 d5 d6 d7 d8 K3 b4
  obtain ⟨d0, d1, d2, d3, d4, d5, d6, d7, d8⟩ := K4.out.cells
  cases r5 with
  | false =>
    obtain rfl := HN.out fun h => by have := h.2.2.2.2; cases this
    clear HN HY
    go_wp2_with fail
    refine (C5.out _ K4.out.row.2.2.2.2).mono ?_
    rintro e w5 ⟨rfl, b5⟩
    have K5 := Lib.hid (K4.out.next b5)
    clear d0 d1 d2 d3 d4 d5 d6 d7 d8 K4 b5
    obtain ⟨d0, d1, d2, d3, d4, d5, d6, d7, d8⟩ := K5.out.cells
    have HE := Lib.hid K5.out.bel
    go_wp2
    go_ret
    exact ⟨rfl, HE.out⟩
  | true =>
  go_wp2_with fail
  refine (C5.out _ K4.out.row.2.2.2.2).mono ?_
  rintro e w5 ⟨rfl, b5⟩
  have K5 := Lib.hid (K4.out.next b5)
  clear d0 d1 d2 d3 d4 d5 d6 d7 d8 K4 b5
  obtain ⟨d0, d1, d2, d3, d4, d5, d6, d7, d8⟩ := K5.out.cells
  obtain rfl := HY.out ⟨by first | rfl | trivial, by first | rfl | trivial, by first | rfl | trivial, by first | rfl | trivial, by first | rfl | trivial⟩
  clear HN HY
  have HE := Lib.hid K5.out.bel
  go_wp2
  go_ret
  exact ⟨rfl, HE.out⟩

set_option maxRecDepth 100000 in
set_option maxHeartbeats 2000000 in
theorem isTeamOf_impl (vf vl vg vfa vta : Value) (b : BookD) (t : Int) (w : World) (h : BookRow w vf vl vg vfa vta b) :
    Calls Tryz.prog 17 #[.agg #[vf, .int .i64 b.win, .int .i64 b.draw, .int .i64 b.loss, vl, .bool b.again, vg, vfa, vta], .int .i64 t] w fun e w' => e = .returned (.bool (decide (0 ≤ t ∧ t < b.nf))) ∧ Below w.heap.size w w' := by
  obtain ⟨fa, fc, la, lc, ga, gc, qa, qc, ta, tc, rfl, rfl, rfl, rfl, rfl⟩ := h.form
  by_cases h0 : 0 ≤ t
  case neg =>
    have e : decide (0 ≤ t ∧ t < b.nf) = false := decide_eq_false fun h => h0 h.1
    have g1 : decide (0 ≤ t) = false := decide_eq_false h0
    rw [e]
    have K0 := Lib.hid (BkAt.made h 29)
    have hsix := h.sixty
    clear h
    clear e h0
    obtain ⟨d0, d1, d2, d3, d4, d5, d6, d7, d8⟩ := K0.out.cells
    go_enter Tryz.func17, Tryz.ntmps17
    have HE := Lib.hid K0.out.bel
    go_wp2
    go_ret
    exact ⟨rfl, HE.out⟩
  have g1 : decide (0 ≤ t) = true := decide_eq_true h0
  obtain ⟨r, hr⟩ : ∃ r, decide (t < (b.nf : Int)) = r := ⟨_, rfl⟩
  have e : decide (0 ≤ t ∧ t < b.nf) = r := by rw [← hr]; simp [h0]
  rw [e]
  have K0 := Lib.hid (BkAt.made h 29)
  have hsix := h.sixty
  clear h
  clear e h0
  obtain ⟨d0, d1, d2, d3, d4, d5, d6, d7, d8⟩ := K0.out.cells
  go_enter Tryz.func17, Tryz.ntmps17
  have HE := Lib.hid K0.out.bel
  go_wp2
  go_ret
  exact ⟨rfl, HE.out⟩

set_option maxRecDepth 100000 in
set_option maxHeartbeats 2000000 in
theorem teamCl_impl (B : Nat) (t : Int) (w0 w : World) (fa : Option Addr) (fc : Nat) (la : Option Addr) (lc : Nat) (ga : Option Addr) (gc : Nat) (qa : Option Addr) (qc : Nat) (ta : Option Addr) (tc : Nat) (b : BookD) (h : BkAt w0 w B fa fc la lc ga gc qa qc ta tc b) :
    Calls Tryz.prog 55 #[.int .i64 t, .pointer (some ⟨B, 0, none⟩)] w fun e w' => e = .returned (.bool (!decide (0 ≤ t ∧ t < b.nf))) ∧ Below w.heap.size w w' := by
  have C := Lib.hid (isTeamOf_impl (.slice fa b.nf fc) (.slice la b.nl lc) (.slice ga b.m gc) (.slice qa b.nfa qc) (.slice ta b.nta tc) b t w h.row)
  obtain ⟨d0, d1, d2, d3, d4, d5, d6, d7, d8⟩ := h.cells
  have hlt := h.lt
  clear h
  generalize decide (0 ≤ t ∧ t < (b.nf : Int)) = r at *
  go_enter Tryz.func55, Tryz.ntmps55
  go_wp2_with fail
  refine C.out.mono ?_
  rintro e w1 ⟨rfl, b1⟩
  have HB := Lib.hid b1
  clear b1 C
  go_wp2
  go_ret
  exact ⟨rfl, HB.out⟩

set_option maxRecDepth 100000 in
set_option maxHeartbeats 2000000 in
theorem areTeams_impl (vf vl vg vfa vta : Value) (b : BookD) (gv : Value) (ng : Nat) (gg : Nat → Int) (R : Bool) (w : World) (hR : R = true ↔ teamsP b.nf ng gg) (h : BookRow w vf vl vg vfa vta b) (hgv : IntRow w gv ng gg) :
    Calls Tryz.prog 23 #[.agg #[vf, .int .i64 b.win, .int .i64 b.draw, .int .i64 b.loss, vl, .bool b.again, vg, vfa, vta], gv] w fun e w' => e = .returned (.bool R) ∧ Below w.heap.size w w' := by
  obtain ⟨fa, fc, la, lc, ga, gc, qa, qc, ta, tc, rfl, rfl, rfl, rfl, rfl⟩ := h.form
  have hb0 : Below w.heap.size w (w.alloc (.cells #[.slice fa b.nf fc, .int .i64 b.win, .int .i64 b.draw, .int .i64 b.loss, .slice la b.nl lc, .bool b.again, .slice ga b.m gc, .slice qa b.nfa qc, .slice ta b.nta tc] 29)) := (Below.refl _ _).alloc (Nat.le_refl _) _
  have GR := hgv.below hb0 (Nat.le_refl _)
  have hRr : (!R) = true ↔ ∃ j, j < ng ∧ (!decide (0 ≤ gg j ∧ gg j < b.nf)) = true := by
    constructor
    · intro h1
      have h2 : ¬ teamsP b.nf ng gg := fun h3 => by rw [hR.2 h3] at h1; cases h1
      refine Classical.byContradiction fun h3 => h2 fun i hi => ?_
      have h4 : ¬ (!decide (0 ≤ gg i ∧ gg i < b.nf)) = true := fun h5 => h3 ⟨i, hi, h5⟩
      simp at h4
      omega
    · rintro ⟨j, hj, h1⟩
      rw [boolF hR fun h2 => by have := h2 j hj; simp at h1; omega]
      rfl
  have K0 := Lib.hid (BkAt.made h 29)
  have C := Lib.hid (anyInts1 55 (fun _ _ => rfl) (some ⟨w.heap.size, 0, none⟩) gv ng gg (fun t => !decide (0 ≤ t ∧ t < b.nf)) (!R) _ hRr GR fun x w' hw' => teamCl_impl w.heap.size x w w' fa fc la lc ga gc qa qc ta tc b (K0.out.next hw'))
  obtain ⟨xa, xc, rfl, hx, _⟩ := hgv.form
  clear h hgv hR hRr hb0 GR
  obtain ⟨d0, d1, d2, d3, d4, d5, d6, d7, d8⟩ := K0.out.cells
  go_enter Tryz.func23, Tryz.ntmps23
  go_wp2_with fail
  refine C.out.mono ?_
  rintro e w1 ⟨rfl, b1⟩
  have HE := Lib.hid (K0.out.bel.trans (b1.mono K0.out.bel.size))
  clear b1 C K0 d0 d1 d2 d3 d4 d5 d6 d7 d8
  go_wp2
  go_ret
  exact ⟨by simp, HE.out⟩

end Go.Proofs.YteciobkjfmddcaaGreatDoor
set_option linter.unusedVariables false
namespace Go.Proofs.YteciobkjfmddcaaGreatDoor
open Go.RowKit

def splAt (by_ : ByteArray) (b : Nat) : Bool := decide (∃ j, j < by_.size ∧ bat by_ j = b)
theorem splAt_yes (by_ : ByteArray) (b j : Nat) (h : j < by_.size) (hb : bat by_ j = b) : splAt by_ b = true := decide_eq_true ⟨j, h, hb⟩
theorem splAt_no (by_ : ByteArray) (b : Nat) (h : ∀ j, j < by_.size → bat by_ j ≠ b) : splAt by_ b = false := decide_eq_false fun ⟨j, h1, h2⟩ => h j h1 h2
def spl (s by_ : ByteArray) : Nat → List ByteArray × Nat
  | 0 => ([], 0)
  | k + 1 => if splAt by_ (bat s k) = true then ((spl s by_ k).1 ++ [s.extract (spl s by_ k).2 k], k + 1) else spl s by_ k
theorem spl_hit {s by_ : ByteArray} {k F : Nat} {P : List ByteArray} (h : spl s by_ k = (P, F)) (hs : splAt by_ (bat s k) = true) : spl s by_ (k + 1) = (P ++ [s.extract F k], k + 1) := by
  rw [spl, if_pos hs, h]
theorem spl_miss {s by_ : ByteArray} {k F : Nat} {P : List ByteArray} (h : spl s by_ k = (P, F)) (hs : splAt by_ (bat s k) = false) : spl s by_ (k + 1) = (P, F) := by
  rw [spl, if_neg (by rw [hs]; decide), h]
def splAll (s by_ : ByteArray) : List ByteArray := (spl s by_ s.size).1 ++ [s.extract (spl s by_ s.size).2 s.size]
theorem splAll_of {s by_ : ByteArray} {F : Nat} {P : List ByteArray} (h : spl s by_ s.size = (P, F)) : splAll s by_ = P ++ [s.extract F s.size] := by
  unfold splAll; rw [h]
theorem Tryz.infoS : (Tryz.prog.info? 9).map (fun i => (i.zero, i.size, i.bytes)) = some (some (.string ByteArray.empty), 1, 16) := by kernel_rfl

def SplitPost (base : Nat) (w : World) (L : List ByteArray) (e : Ending) (w' : World) : Prop :=
  ∃ v, e = .returned v ∧ w'.ownsRow base 9 1 v L.length (L.map Value.string) ∧ Below base w w'

def splTo (by_ : ByteArray) (j b : Nat) : Bool := decide (∃ t, t < j ∧ bat by_ t = b)
def tab0 : Array Value := Array.replicate 256 (.bool false)
theorem spl_len (s by_ : ByteArray) : ∀ k, (spl s by_ k).1.length ≤ k
  | 0 => Nat.le_refl _
  | k + 1 => by
    rw [spl]
    split
    · simp; exact spl_len s by_ k
    · exact Nat.le_succ_of_le (spl_len s by_ k)
theorem splAll_len (s by_ : ByteArray) : (splAll s by_).length ≤ s.size + 1 := by
  have := spl_len s by_ s.size
  simp [splAll]; omega

def StrsMade (w : World) (n : Nat) (g : Nat → ByteArray) (e : Ending) (w' : World) : Prop :=
  ∃ v, e = .returned v ∧ StrRow w' v n g ∧ (∃ xs, w'.ownsRow w.heap.size 9 1 v n xs) ∧ Below w.heap.size w w'
theorem StrsMade.of {k : Nat} {args : Array Value} {w : World} {L : List ByteArray} (h : Calls Tryz.prog k args w (SplitPost w.heap.size w L)) (hn : L.length ≤ 999999999999) :
    Calls Tryz.prog k args w (StrsMade w L.length (getS L)) :=
  h.mono fun e w' ⟨v, h1, h2, h3⟩ => ⟨v, h1, StrRow.of_list h2 (by omega), ⟨_, h2⟩, h3⟩
end Go.Proofs.YteciobkjfmddcaaGreatDoor
set_option linter.unusedVariables false
namespace Go.Proofs.YteciobkjfmddcaaGreatDoor
open Go.RowKit

def IsStrs (w : World) (a : Option Addr) (len cap : Nat) (zs : List ByteArray) : Prop :=
  (a = none ∧ len = 0 ∧ cap = 0 ∧ zs = []) ∨
  ∃ x, a = some x ∧ len ≤ cap ∧ cap ≤ maxLen ∧ zs.length = cap ∧ (∀ i, i < zs.length → w.cell? (x.add i) = some (.string (zs.getD i ByteArray.empty))) ∧ ∀ s ∈ zs, s.size ≤ maxLen
theorem IsStrs.row {w : World} {a : Option Addr} {len cap : Nat} {zs : List ByteArray} (h : IsStrs w a len cap zs) : StrRow w (.slice a len cap) len (getS zs) := by
  rcases h with ⟨rfl, rfl, rfl, rfl⟩ | ⟨x, rfl, hl, hm, hz, hc, _⟩
  · exact .inl ⟨_, _, rfl, rfl⟩
  · by_cases h0 : len = 0
    · subst h0; exact .inl ⟨_, _, rfl, rfl⟩
    · obtain ⟨b, off, spot⟩ := x
      have hc0 := hc 0 (by omega)
      have hspot : spot = none := by simpa [Addr.add] using World.cell?_spot hc0
      subst hspot
      refine .inr ⟨b, off, cap, rfl, by omega, by unfold maxLen at hm; omega, fun i hi => ?_, hl⟩
      have := hc i (by omega)
      have hadd : (⟨b, off, none⟩ : Addr).add i = ⟨b, off + i, none⟩ := by unfold Addr.add; split <;> simp_all
      rw [hadd] at this
      exact this
theorem IsStrs.small {w : World} {a : Option Addr} {len cap : Nat} {zs : List ByteArray} (h : IsStrs w a len cap zs) (i : Nat) : (getS zs i).size ≤ 9223372036854775807 := by
  have key : ∀ s ∈ zs, s.size ≤ maxLen := by
    rcases h with ⟨rfl, rfl, rfl, rfl⟩ | ⟨x, rfl, hl, hm, hz, hc, h⟩
    · intro s hs; cases hs
    · exact h
  unfold getS
  by_cases hi : i < zs.length
  · have := key zs[i] (List.getElem_mem hi)
    unfold maxLen at this
    simp [List.getD, List.getElem?_eq_getElem hi]; omega
  · simp [List.getD, List.getElem?_eq_none (Nat.le_of_not_lt hi)]

def tot (g : Nat → ByteArray) : Nat → Nat
  | 0 => 0
  | k + 1 => tot g k + (g k).size
theorem tot_mono (g : Nat → ByteArray) (k : Nat) : ∀ n, k ≤ n → tot g k ≤ tot g n
  | 0, h => by obtain rfl : k = 0 := by omega
               exact Nat.le_refl _
  | n + 1, h => by
    by_cases hk : k = n + 1
    · rw [hk]; exact Nat.le_refl _
    · exact Nat.le_trans (tot_mono g k n (by omega)) (Nat.le_add_right _ _)

def SzPostS (g : Nat → ByteArray) (n left : Nat) (w : World) (e : Ending) (w' : World) : Prop :=
  ∃ r : Int, e = .returned (.int .i64 r) ∧ (r < 0 ∨ (0 ≤ r ∧ n + tot g n + r = left)) ∧ w = w'

def jn (y : ByteArray) (g : Nat → ByteArray) : Nat → ByteArray
  | 0 => ByteArray.empty
  | k + 1 => if 0 < k then jn y g k ++ y ++ g k else g k
theorem jn_one (y : ByteArray) (g : Nat → ByteArray) : jn y g 1 = g 0 := rfl
theorem jn_more (y : ByteArray) (g : Nat → ByteArray) (k : Nat) (h : 0 < k) : jn y g (k + 1) = jn y g k ++ y ++ g k := by simp [jn, h]
theorem jn_size (y : ByteArray) (g : Nat → ByteArray) : ∀ k, (jn y g k).size ≤ tot g k + k * y.size
  | 0 => by simp [jn]
  | k + 1 => by
    have ih := jn_size y g k
    have h1 : (k + 1) * y.size = k * y.size + y.size := Nat.succ_mul k y.size
    unfold tot
    by_cases h : 0 < k
    · rw [jn_more y g k h]
      simp only [ByteArray.size_append]
      omega
    · obtain rfl : k = 0 := by omega
      rw [jn_one]; omega

end Go.Proofs.YteciobkjfmddcaaGreatDoor
set_option linter.unusedVariables false
namespace Go.Proofs.YteciobkjfmddcaaGreatDoor
open Go.RowKit

theorem joinTail_snoc (sep x : List UInt8) (r : List (List UInt8)) : Lib.joinTail sep (r ++ [x]) = Lib.joinTail sep r ++ sep ++ x := by
  simp [Lib.joinTail, List.append_assoc]
theorem jn_data (y : ByteArray) (g : Nat → ByteArray) : ∀ k, (jn y g (k + 1)).data.toList = (g 0).data.toList ++ Lib.joinTail y.data.toList ((List.range k).map fun i => (g (i + 1)).data.toList)
  | 0 => by simp [jn_one, Lib.joinTail]
  | k + 1 => by
    rw [jn_more y g (k + 1) (by omega), List.range_succ, List.map_append, List.map_cons, List.map_nil, joinTail_snoc]
    simp only [ByteArray.data_append, Array.toList_append]
    rw [jn_data y g k]
    simp [List.append_assoc]
def listOf (g : Nat → ByteArray) (n : Nat) : List ByteArray := (List.range n).map g
theorem listOf_succ (g : Nat → ByteArray) (k : Nat) : listOf g (k + 1) = g 0 :: (List.range k).map fun i => g (i + 1) := by
  simp only [listOf, List.range_succ_eq_map, List.map_cons, List.map_map]
  rfl
theorem jn_join (y : ByteArray) (g : Nat → ByteArray) (n : Nat) : jn y g n = ⟨(Lib.join ((listOf g n).map (·.data.toList)) y.data.toList).toArray⟩ := by
  cases n with
  | zero => rfl
  | succ k =>
    rw [listOf_succ, List.map_cons, Lib.join_cons, List.map_map]
    have := jn_data y g k
    apply ByteArray.ext
    apply Array.ext'
    rw [this]
    rfl

theorem stringsJoinL (v : Value) (n : Nat) (g : Nat → ByteArray) (y : ByteArray) (w : World) (h : StrRow w v n g) (hn : n ≤ 1048576) (ht : tot g n ≤ 1099511627776) (hy : y.size ≤ 1048576) :
    Calls Tryz.prog 79 #[v, .string y] w fun e w' => e = .returned (.string (jn y g n)) ∧ Below w.heap.size w w' := by
  rcases h with ⟨a, cap, rfl, rfl⟩ | ⟨b, off, cap, rfl, h0, _, hc, hcap⟩
  · exact (Tryz.strings_Join_none a cap y w).mono fun e w' ⟨h1, h2⟩ => ⟨h1, h2 ▸ Below.refl _ _⟩
  · have hlen : (listOf g n).length = n := by simp [listOf]
    have hsz := jn_size y g n
    have hm : n * y.size ≤ 1048576 * 1048576 := Nat.mul_le_mul hn hy
    have hj : (Lib.join ((listOf g n).map (·.data.toList)) y.data.toList).length = (jn y g n).size := by rw [jn_join]; simp [ByteArray.size]
    have C := Tryz.strings_Join b off cap (listOf g n) y w (fun j x hx => by
      have hjn : j < n := by have := (List.getElem?_eq_some_iff.1 hx).1; omega
      rw [hc j hjn]
      simp [listOf, hjn] at hx
      rw [← hx]) (World.block_lt_of_cell? w _ (hc 0 h0)) (by omega) (by omega) (by omega)
    rw [hlen, ← jn_join] at C
    exact C

theorem joined_anyL (v : Value) (n : Nat) (g : Nat → ByteArray) (y : ByteArray) (w : World) (h : StrRow w v n g) (hn : n ≤ 1048576) (ht : tot g n ≤ 1099511627776) (hy : y.size ≤ 1048576) :
    Calls Tryz.prog 57 #[.string y, v] w fun e w' => e = .returned (.string (jn y g n)) ∧ Below w.heap.size w w' := by
  have C := Lib.hid (stringsJoinL v n g y w h hn ht hy)
  clear h
  go_enter Tryz.func57, Tryz.ntmps57
  go_wp2_with fail
  refine C.out.mono ?_
  rintro e w1 ⟨rfl, b1⟩
  go_wp2
  go_ret
  exact ⟨rfl, b1⟩
theorem join_implL (v : Value) (n : Nat) (g : Nat → ByteArray) (y : ByteArray) (w : World) (h : StrRow w v n g) (hn : n ≤ 1048576) (ht : tot g n ≤ 1099511627776) (hy : y.size ≤ 1048576) :
    Calls Tryz.prog 26 #[v, .string y] w fun e w' => e = .returned (.string (jn y g n)) ∧ Below w.heap.size w w' := by
  have C := Lib.hid (joined_anyL v n g y w h hn ht hy)
  clear h
  go_enter Tryz.func26, Tryz.ntmps26
  go_wp2_with fail
  refine C.out.mono ?_
  rintro e w1 ⟨rfl, b1⟩
  go_wp2
  go_ret
  exact ⟨rfl, b1⟩
theorem stringsJoin (v : Value) (n : Nat) (g : Nat → ByteArray) (y : ByteArray) (w : World) (h : StrRow w v n g) (hn : n ≤ 1048576) (ht : tot g n ≤ 1050576) (hy : y.size ≤ 1048576) :
    Calls Tryz.prog 79 #[v, .string y] w fun e w' => e = .returned (.string (jn y g n)) ∧ Below w.heap.size w w' := stringsJoinL v n g y w h hn (by omega) hy
theorem joined_any (v : Value) (n : Nat) (g : Nat → ByteArray) (y : ByteArray) (w : World) (h : StrRow w v n g) (hn : n ≤ 1048576) (ht : tot g n ≤ 1050576) (hy : y.size ≤ 1048576) :
    Calls Tryz.prog 57 #[.string y, v] w fun e w' => e = .returned (.string (jn y g n)) ∧ Below w.heap.size w w' := joined_anyL v n g y w h hn (by omega) hy
theorem join_impl (v : Value) (n : Nat) (g : Nat → ByteArray) (y : ByteArray) (w : World) (h : StrRow w v n g) (hn : n ≤ 1048576) (ht : tot g n ≤ 1050576) (hy : y.size ≤ 1048576) :
    Calls Tryz.prog 26 #[v, .string y] w fun e w' => e = .returned (.string (jn y g n)) ∧ Below w.heap.size w w' := join_implL v n g y w h hn (by omega) hy
end Go.Proofs.YteciobkjfmddcaaGreatDoor
