/-
  Packed: FieldMap, RankImplA, ResCell.
-/
import Derived.Laws.ResultCell
import Derived.Test.YteciobkjfmddcaaGreatQ3
import Derived.Test.YteciobkjfmddcaaGreatQ7
import Derived.Test.YteciobkjfmddcaaGreatQ11
import Derived.Test.YteciobkjfmddcaaGreatQ14
set_option linter.unusedVariables false
namespace Go.Proofs.YteciobkjfmddcaaGreat
open Go.RowKit Go.Maps

theorem kStr : Keyed Tryz.prog 9 := string_keyed Tryz.underlying9
theorem kInt : Keyed Tryz.prog 3 := int_keyed Tryz.underlying3
theorem zBool (w : World) : (zeroValue 4).run Tryz.prog w = .ok (.bool false) w := by kernel_rfl
def nameK (t : TeamD) : Lit := .string t.nm.data.toList
def seedK (t : TeamD) : Lit := .int .i64 t.seed
def keysUpto (f : TeamD → Lit) (g : Nat → TeamD) (k : Nat) (L : List Lit) : Prop := ∀ kl, kl ∈ L ↔ ∃ j, j < k ∧ kl = f (g j)
theorem keysUpto.next {f : TeamD → Lit} {g : Nat → TeamD} {k : Nat} {L : List Lit} (h : keysUpto f g k L) : keysUpto f g (k + 1) (f (g k) :: L) := by
  intro kl
  rw [List.mem_cons, h kl]
  constructor
  · rintro (rfl | ⟨j, hj, rfl⟩)
    · exact ⟨k, by omega, rfl⟩
    · exact ⟨j, by omega, rfl⟩
  · rintro ⟨j, hj, rfl⟩
    by_cases hjk : j = k
    · subst hjk; exact .inl rfl
    · exact .inr ⟨j, by omega, rfl⟩
theorem nameK_inj {a b : TeamD} (h : nameK a = nameK b) : a.nm = b.nm := by
  unfold nameK at h
  simp only [Lit.string.injEq] at h
  exact ByteArray.ext (Array.toList_inj.mp h)
theorem seedK_inj {a b : TeamD} (h : seedK a = seedK b) : a.seed = b.seed := by
  unfold seedK at h
  simpa using h
theorem fresh_of {g : Nat → TeamD} {k : Nat} {L1 L2 : List Lit} (h1 : keysUpto nameK g k L1) (h2 : keysUpto seedK g k L2) (ht : teamP (g k)) (hn : nameK (g k) ∉ L1) (hs : seedK (g k) ∉ L2) : freshP g k :=
  ⟨ht, fun j hj => ⟨fun e => hn ((h1 _).2 ⟨j, hj, by unfold nameK; rw [e]⟩), fun e => hs ((h2 _).2 ⟨j, hj, by unfold seedK; rw [e]⟩)⟩⟩
theorem stale_name {g : Nat → TeamD} {k : Nat} {L1 : List Lit} (h1 : keysUpto nameK g k L1) (hn : nameK (g k) ∈ L1) : ¬ freshP g k := by
  obtain ⟨j, hj, e⟩ := (h1 _).1 hn
  exact fun h => (h.2 j hj).1 (nameK_inj e).symm
theorem stale_seed {g : Nat → TeamD} {k : Nat} {L2 : List Lit} (h2 : keysUpto seedK g k L2) (hs : seedK (g k) ∈ L2) : ¬ freshP g k := by
  obtain ⟨j, hj, e⟩ := (h2 _).1 hs
  exact fun h => (h.2 j hj).2 (seedK_inj e).symm

theorem fieldOk_impl (v : Value) (n : Nat) (g : Nat → TeamD) (R : Bool) (w : World) (h : TeamRow w v n g) (hg : ∀ i, (g i).nm.size ≤ maxLen) (hR : R = true ↔ fieldP n g) :
    Calls Tryz.prog 64 #[v] w fun e w' => e = .returned (.bool R) ∧ Below w.heap.size w w' := by
  obtain ⟨a, cap, rfl, hn, hv⟩ := h.form'
  have HV := Lib.hid hv
  have HG := Lib.hid hg
  have HR := Lib.hid hR
  clear hv h hg hR
  have hmm := @run_makeMap Tryz.prog
  by_cases hlo : n < 2
  · have hf : R = false := by
      cases R with
      | false => rfl
      | true => exact absurd (HR.out.1 rfl).1 (by omega)
    subst hf
    have g1 : decide ((n : Int) < 2) = true := decide_eq_true (by omega)
    clear HR HV HG hlo
    go_enter Tryz.func64, Tryz.ntmps64
    go_wp2
    go_ret
    exact ⟨rfl, Below.refl _ _⟩
  have g1 : decide ((n : Int) < 2) = false := decide_eq_false (by omega)
  by_cases hhi : 8 < n
  · have hf : R = false := by
      cases R with
      | false => rfl
      | true => exact absurd (HR.out.1 rfl).1 (by omega)
    subst hf
    have g2 : decide ((8 : Int) < n) = true := decide_eq_true (by omega)
    clear HR HV HG hlo hhi
    go_enter Tryz.func64, Tryz.ntmps64
    go_wp2
    go_ret
    exact ⟨rfl, Below.refl _ _⟩
  have g2 : decide ((8 : Int) < n) = false := decide_eq_false (by omega)
  have hn8 : 2 ≤ n ∧ n ≤ 8 := by omega
  clear hlo hhi
  have HNO : Hid ((∃ k, k < n ∧ ¬ freshP g k) → R = false) := by
    rintro ⟨k, hk, hf⟩
    cases R with
    | false => rfl
    | true => exact absurd ((HR.out.1 rfl).2 k hk) hf
  have HYES : Hid ((∀ k, k < n → freshP g k) → R = true) := fun h => HR.out.2 ⟨hn8, h⟩
  clear HR
  have HK1 := Lib.hid kStr
  have HK2 := Lib.hid kInt
  have HZ := Lib.hid zBool
  go_enter Tryz.func64, Tryz.ntmps64
  go_wp2
  have m1 : BoolMap Tryz.prog (w.alloc (.map #[] 0)) 9 4 w.heap.size 0 [] := BoolMap.made w _ _ _
  have m2 : BoolMap Tryz.prog ((w.alloc (.map #[] 0)).alloc (.map #[] 0)) 3 4 (w.heap.size + 1) 0 [] := by
    have := BoolMap.made (w.alloc (.map #[] 0)) Tryz.prog 3 4
    simpa using this
  go_loopw [19] (fun i wr => ∃ (k : Nat) (L1 L2 : List Lit), k ≤ n ∧ i = .int .i64 k ∧ BoolMap Tryz.prog wr 9 4 w.heap.size k L1 ∧ BoolMap Tryz.prog wr 3 4 (w.heap.size + 1) k L2 ∧
      Hid (keysUpto nameK g k L1) ∧ Hid (keysUpto seedK g k L2) ∧ Hid (∀ j, j < k → freshP g j) ∧ Below w.heap.size w wr) (fun i _ => n - (RowKit.intOf i).toNat)
  case atStart =>
    exact ⟨0, [], [], Nat.zero_le _, rfl, m1.alloc _, m2, fun kl => by simp, fun kl => by simp, fun j hj => absurd hj (by omega),
      ((Below.refl _ _).alloc (Nat.le_refl _) _).alloc (by simp) _⟩
  case round =>
    clear m1 m2
    obtain ⟨k, L1, L2, hk, rfl, m1, m2, hL1, hL2, hfr, hb⟩ := hrel
    by_cases hlt : k < n
    · obtain ⟨b, off, rfl, hcap, hc⟩ := HV.out (by omega)
      obtain ⟨c0, c1, c2⟩ := cells_below hb (hc k hlt)
      have hgk := HG.out k
      have HBad : Hid (¬ freshP g k → R = false) := fun h => HNO.out ⟨k, hlt, h⟩
      have HStep : Hid (freshP g k → ∀ j, j < k + 1 → freshP g j) := fun h j hj => by
        by_cases hjk : j = k
        · subst hjk; exact h
        · exact hfr.out j (by omega)
      clear hc HV HG HNO hfr
      by_cases hx : ¬ teamP (g k)
      · have hf : R = false := HBad.out fun h => hx h.1
        subst hf
        have HX := Lib.hid hx
        clear hx HBad HStep HYES hL1 hL2
        generalize g k = x at *
        go_wp2_with (go_at_call 103; refine (teamOkI_no x _ hgk HX.out).mono ?_; rintro e w2 ⟨rfl, b2⟩; have hb2 : Below w.heap.size w w2 := (hb.alloc hb.size _).trans (b2.mono (Nat.le_trans hb.size (by simp))))
        go_ret
        exact ⟨rfl, hb2⟩
      replace hx := Classical.not_not.1 hx
      have HX := Lib.hid hx
      have hwf : (Lit.int .i64 (g k).seed).wf = true := WalkArith.wf_i64 (by have := hx.2.2; omega)
      have HK1 : Hid (keyOf Tryz.prog 9 (.string (g k).nm) = some (nameK (g k))) := WideMaps.keyOf_string_mk Tryz.underlying9 hgk
      have HK2 : Hid (keyOf Tryz.prog 3 (.int .i64 (g k).seed) = some (seedK (g k))) := keyOf_int_mk Tryz.underlying3 hwf
      have HF : Hid (nameK (g k) ∉ L1 → seedK (g k) ∉ L2 → freshP g k) := fun h1 h2 => fresh_of hL1.out hL2.out HX.out h1 h2
      have HN : Hid (nameK (g k) ∈ L1 → R = false) := fun h => HBad.out (stale_name hL1.out h)
      have HS : Hid (seedK (g k) ∈ L2 → R = false) := fun h => HBad.out (stale_seed hL2.out h)
      have hN1 := Lib.hid hL1.out.next
      have hN2 := Lib.hid hL2.out.next
      clear hx hwf HBad hL1 hL2
      have hl1 := m1.lt
      have hl2 := m2.lt
      have M1 : ∀ (o : Obj) (w2 : World), Below (wr.alloc o).heap.size (wr.alloc o) w2 → BoolMap Tryz.prog w2 9 4 w.heap.size k L1 := fun o w2 hb => (m1.alloc o).below hb (Nat.le_refl _)
      have M2 : ∀ (o : Obj) (w2 : World), Below (wr.alloc o).heap.size (wr.alloc o) w2 → BoolMap Tryz.prog w2 3 4 (w.heap.size + 1) k L2 := fun o w2 hb => (m2.alloc o).below hb (Nat.le_refl _)
      have M1 := Lib.hid M1
      have M2 := Lib.hid M2
      clear m1 m2
      by_cases hi1 : nameK (g k) ∈ L1
      · have hf : R = false := HN.out hi1
        subst hf
        have HI1 := Lib.hid hi1
        clear hi1 HN HS HF HStep HYES hN1 hN2 HK2
        generalize g k = x at *
        go_wp2_with (go_at_call 103; refine (teamOkI_yes x _ hgk HX.out).mono ?_; rintro e w2 ⟨rfl, b2⟩; obtain ⟨k0, k1, k2⟩ := var3 b2; have m1 := M1.out _ _ b2; have m2 := M2.out _ _ b2; have hb2 : Below w.heap.size w w2 := (hb.alloc hb.size _).trans (b2.mono (Nat.le_trans hb.size (by simp))); have hlB : wr.heap.size < w2.heap.size := World.block_lt_of_cell? _ _ k0; have r1 := (m1.run kStr Tryz.underlying134 Tryz.underlying4 (zBool _) HK1.out).1 HI1.out)
        go_ret
        exact ⟨rfl, hb2⟩
      have HI1 := Lib.hid hi1
      clear hi1 HN
      by_cases hi2 : seedK (g k) ∈ L2
      · have hf : R = false := HS.out hi2
        subst hf
        have HI2 := Lib.hid hi2
        clear hi2 HS HF HStep HYES hN1 hN2
        generalize g k = x at *
        go_wp2_with (go_at_call 103; refine (teamOkI_yes x _ hgk HX.out).mono ?_; rintro e w2 ⟨rfl, b2⟩; obtain ⟨k0, k1, k2⟩ := var3 b2; have m1 := M1.out _ _ b2; have m2 := M2.out _ _ b2; have hb2 : Below w.heap.size w w2 := (hb.alloc hb.size _).trans (b2.mono (Nat.le_trans hb.size (by simp))); have hlB : wr.heap.size < w2.heap.size := World.block_lt_of_cell? _ _ k0; have r1 := (m1.run kStr Tryz.underlying134 Tryz.underlying4 (zBool _) HK1.out).2 HI1.out; have r2 := (m2.run kInt Tryz.underlying135 Tryz.underlying4 (zBool _) HK2.out).1 HI2.out)
        go_ret
        exact ⟨rfl, hb2⟩
      have HI2 := Lib.hid hi2
      have HNext : Hid (∀ j, j < k + 1 → freshP g j) := HStep.out (HF.out HI1.out hi2)
      clear hi2 HS HF HStep
      generalize g k = x at *
      have kk1 : WideAt.IsKeyLit (nameK x) := trivial
      have kk2 : WideAt.IsKeyLit (seedK x) := trivial
      go_wp2_with (first
        | (go_at_call 103; refine (teamOkI_yes x _ hgk HX.out).mono ?_; rintro e w2 ⟨rfl, b2⟩; obtain ⟨k0, k1, k2⟩ := var3 b2; have m1 := M1.out _ _ b2; have m2 := M2.out _ _ b2; have hb2 : Below w.heap.size w w2 := (hb.alloc hb.size _).trans (b2.mono (Nat.le_trans hb.size (by simp))); have hlB : wr.heap.size < w2.heap.size := World.block_lt_of_cell? _ _ k0; have r1 := (m1.run kStr Tryz.underlying134 Tryz.underlying4 (zBool _) HK1.out).2 HI1.out; have r2 := (m2.run kInt Tryz.underlying135 Tryz.underlying4 (zBool _) HK2.out).2 HI2.out; have HM1 := Lib.hid m1; have HM2 := Lib.hid m2; clear m1 m2)
        | (at_mapUpdate; refine wpList_boolTrue rfl (.tmp 38) (.tmp 40) (.const (.bool true)) 134 rfl 9 4 kStr Tryz.underlying134 Tryz.underlying4 w.heap.size k L1 rfl HM1.out (by unfold maxLen; omega) _ (nameK x) rfl rfl HK1.out kk1 ?_; intro w3 m3 g3; have n2 : w3.cell? ⟨wr.heap.size, 2, none⟩ = some (.int .i64 x.seed) := g3.cell k2 (by simp; omega))
        | (at_mapUpdate; refine wpList_boolTrue rfl (.tmp 41) (.tmp 43) (.const (.bool true)) 135 rfl 3 4 kInt Tryz.underlying135 Tryz.underlying4 (w.heap.size + 1) k L2 rfl (HM2.out.grown g3 (by simp)) (by unfold maxLen; omega) _ (seedK x) rfl rfl HK2.out kk2 ?_; intro w4 m4 g4))
      go_roundw
      case rel =>
        exact ⟨k + 1, _, _, by omega, by go_num, m3.grown g4 (by simp), m4, hN1, hN2, HNext, (hb2.grown g3 hb2.size (fun q hq => by cases hq; exact Nat.le_refl _)).grown g4 (Nat.le_trans hb2.size g3.size) (fun q hq => by cases hq; omega)⟩
      case measure => simp [RowKit.intOf]; omega
    · obtain rfl : k = n := by omega
      have hf : R = true := HYES.out hfr.out
      subst hf
      clear HNO HYES hfr
      go_wp2
      go_ret
      exact ⟨rfl, hb⟩
end Go.Proofs.YteciobkjfmddcaaGreat
set_option linter.unusedVariables false
namespace Go.Proofs.YteciobkjfmddcaaGreat
open Go.RowKit

def Entered (f : Nat) : Prop := ∀ (args : Array Value) (w : World), Sem.run Tryz.prog (callFunc f args) w = .ok (.enter f args) w
set_option maxRecDepth 100000 in
set_option maxHeartbeats 2000000 in
theorem indexInts0 (f : Nat) (hf : Entered f) (v : Value) (n : Nat) (g : Nat → Int) (p : Int → Bool) (w : World) (hv : IntRow w v n g)
    (hp : ∀ x w', Below w.heap.size w w' → Calls Tryz.prog f #[.int .i64 x] w' fun e w'' => e = .returned (.bool (p x)) ∧ Below w'.heap.size w' w'') :
    Calls Tryz.prog 107 #[v, .func (.func f) #[] #[]] w fun e w' => e = .returned (.int .i64 (firstI (fun i => p (g i)) n 0)) ∧ Below w.heap.size w w' := by
  obtain ⟨aa, cap, rfl, hn, hc⟩ := hv.form
  have HP := Lib.hid hp
  have HVR := Lib.hid hv
  clear hc hv hp
  generalize hr : firstI (fun i => p (g i)) n 0 = R
  have HR := Lib.hid hr
  clear hr
  go_enter Tryz.func107, Tryz.ntmps107
  go_wp2
  go_loopw [8] (fun i wr => ∃ k : Nat, k ≤ n ∧ i = .int .i64 k ∧ Hid (firstI (fun i => p (g i)) (n - k) k = R) ∧ Below w.heap.size w wr) (fun i _ => n - (RowKit.intOf i).toNat)
  case atStart => exact ⟨0, Nat.zero_le _, rfl, HR.out, Below.refl _ _⟩
  case round =>
    obtain ⟨k, hk, rfl, hpf, hb⟩ := hrel
    by_cases hlt : k < n
    · obtain ⟨b, off, rfl, hcap, hc⟩ := int_at (HVR.out.below hb (Nat.le_refl _)) (by omega)
      have hstep := firstI_step (p := fun i => p (g i)) hlt
      rw [hpf.out] at hstep
      have HY := Lib.hid (fun (e : p (g k) = true) => hstep.trans (if_pos e))
      have HN := Lib.hid (fun (e : p (g k) = false) => hstep.trans (if_neg (by rw [e]; simp)))
      clear hstep
      have hsz := hb.size
      have hrun := hf #[.int .i64 (g k)] wr
      have C2 := Lib.hid (HP.out (g k) wr hb)
      generalize hx : g k = x at *
      clear HVR hpf HR HP hx
      generalize p x = r at *
      cases r with
      | true =>
        obtain rfl := HY.out rfl
        clear HY HN
        go_wp2_with fail
        refine C2.out.mono ?_
        rintro e w2 ⟨rfl, b2⟩
        have HE := Lib.hid (hb.trans (b2.mono hsz))
        clear C2 b2
        go_wp2
        go_ret
        exact ⟨rfl, HE.out⟩
      | false =>
        have HS := Lib.hid (HN.out rfl).symm
        clear HY HN
        go_wp2_with fail
        refine C2.out.mono ?_
        rintro e w2 ⟨rfl, b2⟩
        have HE := Lib.hid (hb.trans (b2.mono hsz))
        clear C2 b2
        go_wp2
        go_roundw
        case rel => exact ⟨k + 1, by omega, by go_num, HS.out, HE.out⟩
        case measure => simp [RowKit.intOf]; omega
    · obtain rfl : k = n := by omega
      have hR : R = -1 := by rw [← hpf.out, Nat.sub_self]; rfl
      subst hR
      clear hpf HR
      go_wp2
      go_ret
      exact ⟨rfl, hb⟩

set_option maxRecDepth 100000 in
set_option maxHeartbeats 2000000 in
theorem anyInts0 (f : Nat) (hf : Entered f) (v : Value) (n : Nat) (g : Nat → Int) (p : Int → Bool) (R : Bool) (w : World) (hR : R = true ↔ ∃ j, j < n ∧ p (g j) = true) (hv : IntRow w v n g)
    (hp : ∀ x w', Below w.heap.size w w' → Calls Tryz.prog f #[.int .i64 x] w' fun e w'' => e = .returned (.bool (p x)) ∧ Below w'.heap.size w' w'') :
    Calls Tryz.prog 68 #[v, .func (.func f) #[] #[]] w fun e w' => e = .returned (.bool R) ∧ Below w.heap.size w w' := by
  have H := Lib.hid (indexInts0 f hf v n g p w hv hp)
  have hq : R = decide (0 ≤ firstI (fun i => p (g i)) n 0) := by
    rw [Bool.eq_iff_iff, hR, decide_eq_true_eq, firstI_pos]
    exact ⟨fun ⟨j, h1, h2⟩ => ⟨j, by omega, by omega, h2⟩, fun ⟨j, _, h1, h2⟩ => ⟨j, by omega, h2⟩⟩
  generalize firstI (fun i => p (g i)) n 0 = q at *
  subst hq
  clear hv hR hp
  go_enter Tryz.func68, Tryz.ntmps68
  go_wp2_with (go_at_call 107; refine H.out.mono ?_; rintro e w' ⟨rfl, b1⟩)
  go_ret
  exact ⟨rfl, b1⟩

set_option maxRecDepth 100000 in
set_option maxHeartbeats 2000000 in
theorem indexInts1 (f : Nat) (hf : Entered f) (P : Option Addr) (v : Value) (n : Nat) (g : Nat → Int) (p : Int → Bool) (w : World) (hv : IntRow w v n g)
    (hp : ∀ x w', Below w.heap.size w w' → Calls Tryz.prog f #[.int .i64 x, .pointer P] w' fun e w'' => e = .returned (.bool (p x)) ∧ Below w'.heap.size w' w'') :
    Calls Tryz.prog 107 #[v, .func (.func f) #[] #[.pointer P]] w fun e w' => e = .returned (.int .i64 (firstI (fun i => p (g i)) n 0)) ∧ Below w.heap.size w w' := by
  obtain ⟨aa, cap, rfl, hn, hc⟩ := hv.form
  have HP := Lib.hid hp
  have HVR := Lib.hid hv
  clear hc hv hp
  generalize hr : firstI (fun i => p (g i)) n 0 = R
  have HR := Lib.hid hr
  clear hr
  go_enter Tryz.func107, Tryz.ntmps107
  go_wp2
  go_loopw [8] (fun i wr => ∃ k : Nat, k ≤ n ∧ i = .int .i64 k ∧ Hid (firstI (fun i => p (g i)) (n - k) k = R) ∧ Below w.heap.size w wr) (fun i _ => n - (RowKit.intOf i).toNat)
  case atStart => exact ⟨0, Nat.zero_le _, rfl, HR.out, Below.refl _ _⟩
  case round =>
    obtain ⟨k, hk, rfl, hpf, hb⟩ := hrel
    by_cases hlt : k < n
    · obtain ⟨b, off, rfl, hcap, hc⟩ := int_at (HVR.out.below hb (Nat.le_refl _)) (by omega)
      have hstep := firstI_step (p := fun i => p (g i)) hlt
      rw [hpf.out] at hstep
      have HY := Lib.hid (fun (e : p (g k) = true) => hstep.trans (if_pos e))
      have HN := Lib.hid (fun (e : p (g k) = false) => hstep.trans (if_neg (by rw [e]; simp)))
      clear hstep
      have hsz := hb.size
      have hrun := hf #[.int .i64 (g k), .pointer P] wr
      have C2 := Lib.hid (HP.out (g k) wr hb)
      generalize hx : g k = x at *
      clear HVR hpf HR HP hx
      generalize p x = r at *
      cases r with
      | true =>
        obtain rfl := HY.out rfl
        clear HY HN
        go_wp2_with fail
        refine C2.out.mono ?_
        rintro e w2 ⟨rfl, b2⟩
        have HE := Lib.hid (hb.trans (b2.mono hsz))
        clear C2 b2
        go_wp2
        go_ret
        exact ⟨rfl, HE.out⟩
      | false =>
        have HS := Lib.hid (HN.out rfl).symm
        clear HY HN
        go_wp2_with fail
        refine C2.out.mono ?_
        rintro e w2 ⟨rfl, b2⟩
        have HE := Lib.hid (hb.trans (b2.mono hsz))
        clear C2 b2
        go_wp2
        go_roundw
        case rel => exact ⟨k + 1, by omega, by go_num, HS.out, HE.out⟩
        case measure => simp [RowKit.intOf]; omega
    · obtain rfl : k = n := by omega
      have hR : R = -1 := by rw [← hpf.out, Nat.sub_self]; rfl
      subst hR
      clear hpf HR
      go_wp2
      go_ret
      exact ⟨rfl, hb⟩

set_option maxRecDepth 100000 in
set_option maxHeartbeats 2000000 in
theorem anyInts1 (f : Nat) (hf : Entered f) (P : Option Addr) (v : Value) (n : Nat) (g : Nat → Int) (p : Int → Bool) (R : Bool) (w : World) (hR : R = true ↔ ∃ j, j < n ∧ p (g j) = true) (hv : IntRow w v n g)
    (hp : ∀ x w', Below w.heap.size w w' → Calls Tryz.prog f #[.int .i64 x, .pointer P] w' fun e w'' => e = .returned (.bool (p x)) ∧ Below w'.heap.size w' w'') :
    Calls Tryz.prog 68 #[v, .func (.func f) #[] #[.pointer P]] w fun e w' => e = .returned (.bool R) ∧ Below w.heap.size w w' := by
  have H := Lib.hid (indexInts1 f hf P v n g p w hv hp)
  have hq : R = decide (0 ≤ firstI (fun i => p (g i)) n 0) := by
    rw [Bool.eq_iff_iff, hR, decide_eq_true_eq, firstI_pos]
    exact ⟨fun ⟨j, h1, h2⟩ => ⟨j, by omega, by omega, h2⟩, fun ⟨j, _, h1, h2⟩ => ⟨j, by omega, h2⟩⟩
  generalize firstI (fun i => p (g i)) n 0 = q at *
  subst hq
  clear hv hR hp
  go_enter Tryz.func68, Tryz.ntmps68
  go_wp2_with (go_at_call 107; refine H.out.mono ?_; rintro e w' ⟨rfl, b1⟩)
  go_ret
  exact ⟨rfl, b1⟩

def penB (x : Int) : Bool := decide (x < 0) || decide (1000 < x)
theorem penB_iff (x : Int) : penB x = true ↔ ¬ (0 ≤ x ∧ x ≤ 1000) := by unfold penB; simp; omega

set_option maxRecDepth 100000 in
set_option maxHeartbeats 2000000 in
theorem penCl_impl (x : Int) (w : World) :
    Calls Tryz.prog 106 #[.int .i64 x] w fun e w' => e = .returned (.bool (penB x)) ∧ Below w.heap.size w w' := by
  unfold penB
  by_cases h1 : x < 0
  · have g1 : decide (x < 0) = true := decide_eq_true h1
    rw [g1]
    go_enter Tryz.func106, Tryz.ntmps106
    go_wp2
    go_ret
    exact ⟨rfl, Below.refl _ _⟩
  · have g1 : decide (x < 0) = false := decide_eq_false h1
    rw [g1, Bool.false_or]
    go_enter Tryz.func106, Tryz.ntmps106
    go_wp2
    go_ret
    exact ⟨rfl, Below.refl _ _⟩

set_option maxRecDepth 100000 in
set_option maxHeartbeats 2000000 in
theorem arePen_impl (n : Nat) (v : Value) (m : Nat) (g : Nat → Int) (R : Bool) (w : World) (hR : R = true ↔ (m = n ∧ ∀ i, i < m → 0 ≤ g i ∧ g i ≤ 1000)) (hv : IntRow w v m g) :
    Calls Tryz.prog 67 #[.int .i64 n, v] w fun e w' => e = .returned (.bool R) ∧ Below w.heap.size w w' := by
  obtain ⟨r, hr⟩ := boolEx (∃ j, j < m ∧ penB (g j) = true)
  have C := Lib.hid (anyInts0 106 (fun _ _ => rfl) v m g penB r w hr hv fun x w' _ => penCl_impl x w')
  obtain ⟨a, c, rfl, hm, _⟩ := hv.form
  by_cases h1 : m = n
  case neg =>
    obtain rfl : R = false := boolF hR fun h => h1 h.1
    have g1 : ((m : Int) == n) = false := beq_eq_false_iff_ne.2 (by omega)
    clear hR hv C hr
    go_enter Tryz.func67, Tryz.ntmps67
    go_wp2
    go_ret
    exact ⟨rfl, Below.refl _ _⟩
  have g1 : ((m : Int) == n) = true := beq_iff_eq.2 (by omega)
  have hRr : R = !r := by
    cases r with
    | true =>
      obtain ⟨j, hj, hp⟩ := hr.1 rfl
      exact boolF hR fun h => (penB_iff _).1 hp (h.2 j hj)
    | false =>
      refine boolT hR ⟨h1, fun i hi => ?_⟩
      have : ¬ penB (g i) = true := fun h => by have := hr.2 ⟨i, hi, h⟩; cases this
      exact Classical.byContradiction fun h => this ((penB_iff _).2 h)
  subst hRr
  clear hR hv hr h1
  go_enter Tryz.func67, Tryz.ntmps67
  go_wp2_with fail
  refine C.out.mono ?_
  rintro e w1 ⟨rfl, b1⟩
  go_wp2
  go_ret
  exact ⟨rfl, b1⟩

set_option maxRecDepth 100000 in
set_option maxHeartbeats 2000000 in
theorem bookOk_impl (vf vl vg vfa vta : Value) (b : BookD) (R : Bool) (w : World) (hR : R = true ↔ bookP b) (h : BookRow w vf vl vg vfa vta b) (hs : ∀ i, (b.f i).nm.size ≤ maxLen) :
    Calls Tryz.prog 33 #[.agg #[vf, .int .i64 b.win, .int .i64 b.draw, .int .i64 b.loss, vl, .bool b.again, vg, vfa, vta]] w fun e w' => e = .returned (.bool R) ∧ Below w.heap.size w w' := by
  obtain ⟨fa, fc, la, lc, ga, gc, qa, qc, ta, tc, rfl, rfl, rfl, rfl, rfl⟩ := h.form
  obtain ⟨r1, hr1⟩ := boolEx (fieldP b.nf b.f)
  obtain ⟨r2, hr2⟩ := boolEx (rulesP b.win b.draw b.loss b.nl b.l)
  obtain ⟨r3, hr3⟩ := boolEx (seasonP b.nf b.m b.g)
  obtain ⟨r4, hr4⟩ := boolEx (b.nfa = b.nf ∧ ∀ i, i < b.nfa → 0 ≤ b.fa i ∧ b.fa i ≤ 1000)
  obtain ⟨r5, hr5⟩ := boolEx (b.nta = b.nf ∧ ∀ i, i < b.nta → 0 ≤ b.ta i ∧ b.ta i ≤ 1000)
  have C1 := Lib.hid (fun w1 h1 => fieldOk_impl (.slice fa b.nf fc) b.nf b.f r1 w1 h1 hs hr1)
  have C2 := Lib.hid (fun w1 h1 => rulesOk_impl b.win b.draw b.loss b.again r2 (.slice la b.nl lc) b.nl b.l w1 hr2 h1)
  have C3 := Lib.hid (fun w1 h1 => seasonOk_impl b.nf (.slice ga b.m gc) b.m b.g r3 w1 hr3 h1)
  have C4 := Lib.hid (fun w1 h1 => arePen_impl b.nf (.slice qa b.nfa qc) b.nfa b.fa r4 w1 hr4 h1)
  have C5 := Lib.hid (fun w1 h1 => arePen_impl b.nf (.slice ta b.nta tc) b.nta b.ta r5 w1 hr5 h1)
  have hall : R = true ↔ (r1 = true ∧ r2 = true ∧ r3 = true ∧ r4 = true ∧ r5 = true) := by
    rw [hR, hr1, hr2, hr3, hr4, hr5]
    unfold bookP pensP
    refine ⟨fun ⟨a1, a2, a3, a4, a5, a6⟩ => ⟨a1, a2, a3, ⟨a4, fun i hi => (a6 i (by omega)).1⟩, a5, fun i hi => (a6 i (by omega)).2⟩, fun ⟨a1, a2, a3, ⟨a4, a6⟩, a5, a7⟩ => ⟨a1, a2, a3, a4, a5, fun i hi => ⟨a6 i (by omega), a7 i (by omega)⟩⟩⟩
  have HN := Lib.hid (boolF hall)
  have HY := Lib.hid (boolT hall)
  clear hR hr1 hr2 hr3 hr4 hr5 hall hs
  have K0 := Lib.hid (BkAt.made h 29)
  have hsix := h.sixty
  clear h
  obtain ⟨d0, d1, d2, d3, d4, d5, d6, d7, d8⟩ := K0.out.cells
  go_enter Tryz.func33, Tryz.ntmps33
  cases r1 with
  | false =>
    obtain rfl := HN.out fun h => by have := h.1; cases this
    clear HN HY
    go_wp2_with fail
    refine (C1.out _ K0.out.row.1).mono ?_
    rintro e w1 ⟨rfl, b1⟩
    have K1 := Lib.hid (K0.out.next b1)
    clear d0 d1 d2 d3 d4 d5 d6 d7 d8 K0 b1
    obtain ⟨d0, d1, d2, d3, d4, d5, d6, d7, d8⟩ := K1.out.cells
    have HE := Lib.hid K1.out.bel
    go_wp2
    go_ret
    exact ⟨rfl, HE.out⟩
  | true =>
  go_wp2_with fail
  refine (C1.out _ K0.out.row.1).mono ?_
  rintro e w1 ⟨rfl, b1⟩
  have K1 := Lib.hid (K0.out.next b1)
  clear d0 d1 d2 d3 d4 d5 d6 d7 d8 K0 b1
  obtain ⟨d0, d1, d2, d3, d4, d5, d6, d7, d8⟩ := K1.out.cells
  cases r2 with
  | false =>
    obtain rfl := HN.out fun h => by have := h.2.1; cases this
    clear HN HY
    go_wp2_with fail
    refine (C2.out _ K1.out.row.2.1).mono ?_
    rintro e w2 ⟨rfl, b2⟩
    have K2 := Lib.hid (K1.out.next b2)
    clear d0 d1 d2 d3 d4 d5 d6 d7 d8 K1 b2
    obtain ⟨d0, d1, d2, d3, d4, d5, d6, d7, d8⟩ := K2.out.cells
    have HE := Lib.hid K2.out.bel
    go_wp2
    go_ret
    exact ⟨rfl, HE.out⟩
  | true =>
  go_wp2_with fail
  refine (C2.out _ K1.out.row.2.1).mono ?_
  rintro e w2 ⟨rfl, b2⟩
  have K2 := Lib.hid (K1.out.next b2)
  clear d0 d1 d2 d3 d4 d5 d6 d7 d8 K1 b2
  obtain ⟨d0, d1, d2, d3, d4, d5, d6, d7, d8⟩ := K2.out.cells
  cases r3 with
  | false =>
    obtain rfl := HN.out fun h => by have := h.2.2.1; cases this
    clear HN HY
    go_wp2_with fail
    refine (C3.out _ K2.out.row.2.2.1).mono ?_
    rintro e w3 ⟨rfl, b3⟩
    have K3 := Lib.hid (K2.out.next b3)
    clear d0 d1 d2 d3 d4 d5 d6 d7 d8 K2 b3
    obtain ⟨d0, d1, d2, d3, d4, d5, d6, d7, d8⟩ := K3.out.cells
    have HE := Lib.hid K3.out.bel
    go_wp2
    go_ret
    exact ⟨rfl, HE.out⟩
  | true =>
  go_wp2_with fail
  refine (C3.out _ K2.out.row.2.2.1).mono ?_
  rintro e w3 ⟨rfl, b3⟩
  have K3 := Lib.hid (K2.out.next b3)
  clear d0 d1 d2 d3 d4 d5 d6 d7 d8 K2 b3
  obtain ⟨d0, d1, d2, d3, d4, d5, d6, d7, d8⟩ := K3.out.cells
  cases r4 with
  | false =>
    obtain rfl := HN.out fun h => by have := h.2.2.2.1; cases this
    clear HN HY
    go_wp2_with fail
    refine (C4.out _ K3.out.row.2.2.2.1).mono ?_
    rintro e w4 ⟨rfl, b4⟩
    have K4 := Lib.hid (K3.out.next b4)
    clear d0 d1 d2 d3 d4 d5 d6 d7 d8 K3 b4
    obtain ⟨d0, d1, d2, d3, d4, d5, d6, d7, d8⟩ := K4.out.cells
    have HE := Lib.hid K4.out.bel
    go_wp2
    go_ret
    exact ⟨rfl, HE.out⟩
  | true =>
  go_wp2_with fail
  refine (C4.out _ K3.out.row.2.2.2.1).mono ?_
  rintro e w4 ⟨rfl, b4⟩
  have K4 := Lib.hid (K3.out.next b4)
  clear d0 d1 d2 d3 d4 d5 d6 d7 d8 K3 b4
  obtain ⟨d0, d1, d2, d3, d4, d5, d6, d7, d8⟩ := K4.out.cells
  cases r5 with
  | false =>
    obtain rfl := HN.out fun h => by have := h.2.2.2.2; cases this
    clear HN HY
    go_wp2_with fail
    refine (C5.out _ K4.out.row.2.2.2.2).mono ?_
    rintro e w5 ⟨rfl, b5⟩
    have K5 := Lib.hid (K4.out.next b5)
    clear d0 d1 d2 d3 d4 d5 d6 d7 d8 K4 b5
    obtain ⟨d0, d1, d2, d3, d4, d5, d6, d7, d8⟩ := K5.out.cells
    have HE := Lib.hid K5.out.bel
    go_wp2
    go_ret
    exact ⟨rfl, HE.out⟩
  | true =>
  go_wp2_with fail
  refine (C5.out _ K4.out.row.2.2.2.2).mono ?_
  rintro e w5 ⟨rfl, b5⟩
  have K5 := Lib.hid (K4.out.next b5)
  clear d0 d1 d2 d3 d4 d5 d6 d7 d8 K4 b5
  obtain ⟨d0, d1, d2, d3, d4, d5, d6, d7, d8⟩ := K5.out.cells
  obtain rfl := HY.out ⟨by first | rfl | trivial, by first | rfl | trivial, by first | rfl | trivial, by first | rfl | trivial, by first | rfl | trivial⟩
  clear HN HY
  have HE := Lib.hid K5.out.bel
  go_wp2
  go_ret
  exact ⟨rfl, HE.out⟩

set_option maxRecDepth 100000 in
set_option maxHeartbeats 2000000 in
theorem isTeamOf_impl (vf vl vg vfa vta : Value) (b : BookD) (t : Int) (w : World) (h : BookRow w vf vl vg vfa vta b) :
    Calls Tryz.prog 37 #[.agg #[vf, .int .i64 b.win, .int .i64 b.draw, .int .i64 b.loss, vl, .bool b.again, vg, vfa, vta], .int .i64 t] w fun e w' => e = .returned (.bool (decide (0 ≤ t ∧ t < b.nf))) ∧ Below w.heap.size w w' := by
  obtain ⟨fa, fc, la, lc, ga, gc, qa, qc, ta, tc, rfl, rfl, rfl, rfl, rfl⟩ := h.form
  by_cases h0 : 0 ≤ t
  case neg =>
    have e : decide (0 ≤ t ∧ t < b.nf) = false := decide_eq_false fun h => h0 h.1
    have g1 : decide (0 ≤ t) = false := decide_eq_false h0
    rw [e]
    have K0 := Lib.hid (BkAt.made h 29)
    have hsix := h.sixty
    clear h
    clear e h0
    obtain ⟨d0, d1, d2, d3, d4, d5, d6, d7, d8⟩ := K0.out.cells
    go_enter Tryz.func37, Tryz.ntmps37
    have HE := Lib.hid K0.out.bel
    go_wp2
    go_ret
    exact ⟨rfl, HE.out⟩
  have g1 : decide (0 ≤ t) = true := decide_eq_true h0
  obtain ⟨r, hr⟩ : ∃ r, decide (t < (b.nf : Int)) = r := ⟨_, rfl⟩
  have e : decide (0 ≤ t ∧ t < b.nf) = r := by rw [← hr]; simp [h0]
  rw [e]
  have K0 := Lib.hid (BkAt.made h 29)
  have hsix := h.sixty
  clear h
  clear e h0
  obtain ⟨d0, d1, d2, d3, d4, d5, d6, d7, d8⟩ := K0.out.cells
  go_enter Tryz.func37, Tryz.ntmps37
  have HE := Lib.hid K0.out.bel
  go_wp2
  go_ret
  exact ⟨rfl, HE.out⟩

set_option maxRecDepth 100000 in
set_option maxHeartbeats 2000000 in
theorem teamCl_impl (B : Nat) (t : Int) (w0 w : World) (fa : Option Addr) (fc : Nat) (la : Option Addr) (lc : Nat) (ga : Option Addr) (gc : Nat) (qa : Option Addr) (qc : Nat) (ta : Option Addr) (tc : Nat) (b : BookD) (h : BkAt w0 w B fa fc la lc ga gc qa qc ta tc b) :
    Calls Tryz.prog 69 #[.int .i64 t, .pointer (some ⟨B, 0, none⟩)] w fun e w' => e = .returned (.bool (!decide (0 ≤ t ∧ t < b.nf))) ∧ Below w.heap.size w w' := by
  have C := Lib.hid (isTeamOf_impl (.slice fa b.nf fc) (.slice la b.nl lc) (.slice ga b.m gc) (.slice qa b.nfa qc) (.slice ta b.nta tc) b t w h.row)
  obtain ⟨d0, d1, d2, d3, d4, d5, d6, d7, d8⟩ := h.cells
  have hlt := h.lt
  clear h
  generalize decide (0 ≤ t ∧ t < (b.nf : Int)) = r at *
  go_enter Tryz.func69, Tryz.ntmps69
  go_wp2_with fail
  refine C.out.mono ?_
  rintro e w1 ⟨rfl, b1⟩
  have HB := Lib.hid b1
  clear b1 C
  go_wp2
  go_ret
  exact ⟨rfl, HB.out⟩

set_option maxRecDepth 100000 in
set_option maxHeartbeats 2000000 in
theorem areTeams_impl (vf vl vg vfa vta : Value) (b : BookD) (gv : Value) (ng : Nat) (gg : Nat → Int) (R : Bool) (w : World) (hR : R = true ↔ teamsP b.nf ng gg) (h : BookRow w vf vl vg vfa vta b) (hgv : IntRow w gv ng gg) :
    Calls Tryz.prog 34 #[.agg #[vf, .int .i64 b.win, .int .i64 b.draw, .int .i64 b.loss, vl, .bool b.again, vg, vfa, vta], gv] w fun e w' => e = .returned (.bool R) ∧ Below w.heap.size w w' := by
  obtain ⟨fa, fc, la, lc, ga, gc, qa, qc, ta, tc, rfl, rfl, rfl, rfl, rfl⟩ := h.form
  have hb0 : Below w.heap.size w (w.alloc (.cells #[.slice fa b.nf fc, .int .i64 b.win, .int .i64 b.draw, .int .i64 b.loss, .slice la b.nl lc, .bool b.again, .slice ga b.m gc, .slice qa b.nfa qc, .slice ta b.nta tc] 29)) := (Below.refl _ _).alloc (Nat.le_refl _) _
  have GR := hgv.below hb0 (Nat.le_refl _)
  have hRr : (!R) = true ↔ ∃ j, j < ng ∧ (!decide (0 ≤ gg j ∧ gg j < b.nf)) = true := by
    constructor
    · intro h1
      have h2 : ¬ teamsP b.nf ng gg := fun h3 => by rw [hR.2 h3] at h1; cases h1
      refine Classical.byContradiction fun h3 => h2 fun i hi => ?_
      have h4 : ¬ (!decide (0 ≤ gg i ∧ gg i < b.nf)) = true := fun h5 => h3 ⟨i, hi, h5⟩
      simp at h4
      omega
    · rintro ⟨j, hj, h1⟩
      rw [boolF hR fun h2 => by have := h2 j hj; simp at h1; omega]
      rfl
  have K0 := Lib.hid (BkAt.made h 29)
  have C := Lib.hid (anyInts1 69 (fun _ _ => rfl) (some ⟨w.heap.size, 0, none⟩) gv ng gg (fun t => !decide (0 ≤ t ∧ t < b.nf)) (!R) _ hRr GR fun x w' hw' => teamCl_impl w.heap.size x w w' fa fc la lc ga gc qa qc ta tc b (K0.out.next hw'))
  obtain ⟨xa, xc, rfl, hx, _⟩ := hgv.form
  clear h hgv hR hRr hb0 GR
  obtain ⟨d0, d1, d2, d3, d4, d5, d6, d7, d8⟩ := K0.out.cells
  go_enter Tryz.func34, Tryz.ntmps34
  go_wp2_with fail
  refine C.out.mono ?_
  rintro e w1 ⟨rfl, b1⟩
  have HE := Lib.hid (K0.out.bel.trans (b1.mono K0.out.bel.size))
  clear b1 C K0 d0 d1 d2 d3 d4 d5 d6 d7 d8
  go_wp2
  go_ret
  exact ⟨by simp, HE.out⟩

end Go.Proofs.YteciobkjfmddcaaGreat
set_option linter.unusedVariables false
namespace Go.Proofs.YteciobkjfmddcaaGreat
open Go.RowKit

theorem results_cell {fn : Func} {p : Tmp} {ty : TypeId} (h : fn.results = #[.cell p ty]) (tmps : Array Value) (P : Program) (w : World) :
    (results fn tmps).run P w = ((asAddr (tmps.getD p undef)).run P w).andThen fun a w₁ => (loadVar ty a).run P w₁ := by
  simp only [results, h]
  simp [Sem.run_bind, Result.andThen]
theorem post_named {Q : Exit → Act → World → Prop} {x : Exit} {a : Act} {w : World} (h : ∀ w', Hid (w' = w) → Q x a w') : Q x a w := h w rfl
def ResAt (w : World) (B k : Nat) : Prop := ∃ cs, cs.length = k ∧ BoxF w B cs
theorem ResAt.made (u : World) (cs : Array Value) (t : TypeId) : ResAt (u.alloc (.cells cs t)) u.heap.size cs.size := ⟨cs.toList, by simp, BoxF.made (Below.refl _ _) rfl⟩
theorem ResAt.made' {u : World} {cs : Array Value} {t : TypeId} {B k : Nat} (hB : u.heap.size = B) (hk : cs.size = k) : ResAt (u.alloc (.cells cs t)) B k := by subst hB hk; exact ResAt.made _ _ _
theorem ResAt.below {w w' : World} {B k : Nat} (h : ResAt w B k) (hb : Below w.heap.size w w') : ResAt w' B k := by
  obtain ⟨cs, hl, hc⟩ := h
  exact ⟨cs, hl, hc.below hb⟩
theorem ResAt.lt {w : World} {B k : Nat} (h : ResAt w B k) : B < w.heap.size := by
  obtain ⟨cs, _, hc⟩ := h
  exact hc.1
theorem ResAt.at {w : World} {B k : Nat} (h : ResAt w B k) (j : Nat) (hj : j < k) : (∃ v, w.cell? ⟨B, j, none⟩ = some v) ∧ w.frozen? ⟨B, j, none⟩ = false := by
  obtain ⟨cs, hl, hc⟩ := h
  have := hc.2 j _ (List.getElem?_eq_getElem (by omega : j < cs.length))
  exact ⟨⟨_, this.1⟩, this.2⟩
def putCs (w : World) (B : Nat) : Nat → List Value → World
  | _, [] => w
  | o, v :: vs => putCs (w.setCell ⟨B, o, none⟩ v) B (o + 1) vs
theorem BoxF.putCs {B : Nat} : ∀ (vs : List Value) (o : Nat) (w : World) (cs : List Value), BoxF w B cs → o + vs.length ≤ cs.length → BoxF (Go.Proofs.YteciobkjfmddcaaGreat.putCs w B o vs) B (setsFrom cs o vs)
  | [], _, _, _, h, _ => h
  | v :: vs, o, w, cs, h, hl => by
    simp only [List.length_cons] at hl
    exact BoxF.putCs vs (o + 1) _ _ (h.set o v (by omega)) (by simp; omega)
theorem setsFrom_all {cs vs : List Value} (h : cs.length = vs.length) : setsFrom cs 0 vs = vs := by
  refine List.ext_getElem? fun j => ?_
  by_cases hj : j < vs.length
  · have h1 := setsFrom_in vs cs 0 j vs[j] (by omega) (List.getElem?_eq_getElem hj)
    rw [Nat.zero_add] at h1
    rw [h1, List.getElem?_eq_getElem hj]
  · rw [List.getElem?_eq_none (by rw [setsFrom_len]; omega), List.getElem?_eq_none (by omega)]
theorem ResAt.put {w : World} {B k : Nat} (h : ResAt w B k) {vs : List Value} (hk : vs.length = k) : BoxF (putCs w B 0 vs) B vs := by
  obtain ⟨cs, hl, hc⟩ := h
  have := BoxF.putCs vs 0 w cs hc (by omega)
  rwa [setsFrom_all (by omega)] at this
theorem Touch.putCs {lo hi B : Nat} (h1 : lo ≤ B) (h2 : B < hi) : ∀ (vs : List Value) (o : Nat) (a w : World), Touch lo hi a w → Touch lo hi a (Go.Proofs.YteciobkjfmddcaaGreat.putCs w B o vs)
  | [], _, _, _, h => h
  | v :: vs, o, a, w, h => Touch.putCs h1 h2 vs (o + 1) a _ (h.setCell ⟨B, o, none⟩ v h1 h2)
theorem Below.putCs {C B : Nat} (h1 : C ≤ B) : ∀ (vs : List Value) (o : Nat) (a w : World), Below C a w → Below C a (Go.Proofs.YteciobkjfmddcaaGreat.putCs w B o vs)
  | [], _, _, _, h => h
  | v :: vs, o, a, w, h => Below.putCs h1 vs (o + 1) a _ (h.setCell (p := ⟨B, o, none⟩) h1 v)
theorem BoxF.of_put {w : World} {B : Nat} {cs : List Value} (h : BoxF w B cs) : ResAt w B cs.length := ⟨cs, rfl, h⟩
end Go.Proofs.YteciobkjfmddcaaGreat
