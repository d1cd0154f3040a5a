/-
  Fields: the program's FieldOk over two sets of keys (TRIAL: of an implementation of our own).
-/
import Derived.Test.YtmghnhjfkecaaaaFieldImpl
import Derived.Test.YtmghnhjfkecaaaaMaps
set_option linter.unusedVariables false
namespace Go.Proofs.Ytmghnhjfkecaaaa
open Go.RowKit Go.Maps

theorem kStr : Keyed Try.prog 9 := string_keyed Try.underlying9
theorem kInt : Keyed Try.prog 3 := int_keyed Try.underlying3
theorem zBool (w : World) : (zeroValue 4).run Try.prog w = .ok (.bool false) w := by kernel_rfl
def nameK (t : TeamD) : Lit := .string t.nm.data.toList
def seedK (t : TeamD) : Lit := .int .i64 t.seed
def keysUpto (f : TeamD → Lit) (g : Nat → TeamD) (k : Nat) (L : List Lit) : Prop := ∀ kl, kl ∈ L ↔ ∃ j, j < k ∧ kl = f (g j)
theorem keysUpto.next {f : TeamD → Lit} {g : Nat → TeamD} {k : Nat} {L : List Lit} (h : keysUpto f g k L) : keysUpto f g (k + 1) (f (g k) :: L) := by
  intro kl
  rw [List.mem_cons, h kl]
  constructor
  · rintro (rfl | ⟨j, hj, rfl⟩)
    · exact ⟨k, by omega, rfl⟩
    · exact ⟨j, by omega, rfl⟩
  · rintro ⟨j, hj, rfl⟩
    by_cases hjk : j = k
    · subst hjk; exact .inl rfl
    · exact .inr ⟨j, by omega, rfl⟩
theorem nameK_inj {a b : TeamD} (h : nameK a = nameK b) : a.nm = b.nm := by
  unfold nameK at h
  simp only [Lit.string.injEq] at h
  exact ByteArray.ext (Array.toList_inj.mp h)
theorem seedK_inj {a b : TeamD} (h : seedK a = seedK b) : a.seed = b.seed := by
  unfold seedK at h
  simpa using h
theorem fresh_of {g : Nat → TeamD} {k : Nat} {L1 L2 : List Lit} (h1 : keysUpto nameK g k L1) (h2 : keysUpto seedK g k L2) (ht : teamP (g k)) (hn : nameK (g k) ∉ L1) (hs : seedK (g k) ∉ L2) : freshP g k :=
  ⟨ht, fun j hj => ⟨fun e => hn ((h1 _).2 ⟨j, hj, by unfold nameK; rw [e]⟩), fun e => hs ((h2 _).2 ⟨j, hj, by unfold seedK; rw [e]⟩)⟩⟩
theorem stale_name {g : Nat → TeamD} {k : Nat} {L1 : List Lit} (h1 : keysUpto nameK g k L1) (hn : nameK (g k) ∈ L1) : ¬ freshP g k := by
  obtain ⟨j, hj, e⟩ := (h1 _).1 hn
  exact fun h => (h.2 j hj).1 (nameK_inj e).symm
theorem stale_seed {g : Nat → TeamD} {k : Nat} {L2 : List Lit} (h2 : keysUpto seedK g k L2) (hs : seedK (g k) ∈ L2) : ¬ freshP g k := by
  obtain ⟨j, hj, e⟩ := (h2 _).1 hs
  exact fun h => (h.2 j hj).2 (seedK_inj e).symm

theorem fieldOk_impl (v : Value) (n : Nat) (g : Nat → TeamD) (R : Bool) (w : World) (h : TeamRow w v n g) (hg : ∀ i, (g i).nm.size ≤ maxLen) (hR : R = true ↔ fieldP n g) :
    Calls Try.prog 14 #[v] w fun e w' => e = .returned (.bool R) ∧ Below w.heap.size w w' := by
  obtain ⟨a, cap, rfl, hn, hv⟩ := h.form'
  have HV := Lib.hid hv
  have HG := Lib.hid hg
  have HR := Lib.hid hR
  clear hv h hg hR
  have hmm := @run_makeMap Try.prog
  by_cases hlo : n < 2
  · have hf : R = false := by
      cases R with
      | false => rfl
      | true => exact absurd (HR.out.1 rfl).1 (by omega)
    subst hf
    have g1 : decide ((n : Int) < 2) = true := decide_eq_true (by omega)
    clear HR HV HG hlo
    go_enter Try.func14, Try.ntmps14
    go_wp2
    go_ret
    exact ⟨rfl, Below.refl _ _⟩
  have g1 : decide ((n : Int) < 2) = false := decide_eq_false (by omega)
  by_cases hhi : 8 < n
  · have hf : R = false := by
      cases R with
      | false => rfl
      | true => exact absurd (HR.out.1 rfl).1 (by omega)
    subst hf
    have g2 : decide ((8 : Int) < n) = true := decide_eq_true (by omega)
    clear HR HV HG hlo hhi
    go_enter Try.func14, Try.ntmps14
    go_wp2
    go_ret
    exact ⟨rfl, Below.refl _ _⟩
  have g2 : decide ((8 : Int) < n) = false := decide_eq_false (by omega)
  have hn8 : 2 ≤ n ∧ n ≤ 8 := by omega
  clear hlo hhi
  have HNO : Hid ((∃ k, k < n ∧ ¬ freshP g k) → R = false) := by
    rintro ⟨k, hk, hf⟩
    cases R with
    | false => rfl
    | true => exact absurd ((HR.out.1 rfl).2 k hk) hf
  have HYES : Hid ((∀ k, k < n → freshP g k) → R = true) := fun h => HR.out.2 ⟨hn8, h⟩
  clear HR
  have HK1 := Lib.hid kStr
  have HK2 := Lib.hid kInt
  have HZ := Lib.hid zBool
  go_enter Try.func14, Try.ntmps14
  go_wp2
  have m1 : BoolMap Try.prog (w.alloc (.map #[] 0)) 9 4 w.heap.size 0 [] := BoolMap.made w _ _ _
  have m2 : BoolMap Try.prog ((w.alloc (.map #[] 0)).alloc (.map #[] 0)) 3 4 (w.heap.size + 1) 0 [] := by
    have := BoolMap.made (w.alloc (.map #[] 0)) Try.prog 3 4
    simpa using this
  go_loopw [19] (fun i wr => ∃ (k : Nat) (L1 L2 : List Lit), k ≤ n ∧ i = .int .i64 k ∧ BoolMap Try.prog wr 9 4 w.heap.size k L1 ∧ BoolMap Try.prog wr 3 4 (w.heap.size + 1) k L2 ∧
      Hid (keysUpto nameK g k L1) ∧ Hid (keysUpto seedK g k L2) ∧ Hid (∀ j, j < k → freshP g j) ∧ Below w.heap.size w wr) (fun i _ => n - (intOf i).toNat)
  case atStart =>
    exact ⟨0, [], [], Nat.zero_le _, rfl, m1.alloc _, m2, fun kl => by simp, fun kl => by simp, fun j hj => absurd hj (by omega),
      ((Below.refl _ _).alloc (Nat.le_refl _) _).alloc (by simp) _⟩
  case round =>
    clear m1 m2
    obtain ⟨k, L1, L2, hk, rfl, m1, m2, hL1, hL2, hfr, hb⟩ := hrel
    by_cases hlt : k < n
    · obtain ⟨b, off, rfl, hcap, hc⟩ := HV.out (by omega)
      obtain ⟨c0, c1, c2⟩ := cells_below hb (hc k hlt)
      have hgk := HG.out k
      have HBad : Hid (¬ freshP g k → R = false) := fun h => HNO.out ⟨k, hlt, h⟩
      have HStep : Hid (freshP g k → ∀ j, j < k + 1 → freshP g j) := fun h j hj => by
        by_cases hjk : j = k
        · subst hjk; exact h
        · exact hfr.out j (by omega)
      clear hc HV HG HNO hfr
      by_cases hx : ¬ teamP (g k)
      · have hf : R = false := HBad.out fun h => hx h.1
        subst hf
        have HX := Lib.hid hx
        clear hx HBad HStep HYES hL1 hL2
        generalize g k = x at *
        go_wp2_with (go_at_call 23; refine (teamOkI_no x _ hgk HX.out).mono ?_; rintro e w2 ⟨rfl, b2⟩; have hb2 : Below w.heap.size w w2 := (hb.alloc hb.size _).trans (b2.mono (Nat.le_trans hb.size (by simp))))
        go_ret
        exact ⟨rfl, hb2⟩
      replace hx := Classical.not_not.1 hx
      have HX := Lib.hid hx
      have hwf : (Lit.int .i64 (g k).seed).wf = true := WalkArith.wf_i64 (by have := hx.2.2; omega)
      have HK1 : Hid (keyOf Try.prog 9 (.string (g k).nm) = some (nameK (g k))) := WideMaps.keyOf_string_mk Try.underlying9 hgk
      have HK2 : Hid (keyOf Try.prog 3 (.int .i64 (g k).seed) = some (seedK (g k))) := keyOf_int_mk Try.underlying3 hwf
      have HF : Hid (nameK (g k) ∉ L1 → seedK (g k) ∉ L2 → freshP g k) := fun h1 h2 => fresh_of hL1.out hL2.out HX.out h1 h2
      have HN : Hid (nameK (g k) ∈ L1 → R = false) := fun h => HBad.out (stale_name hL1.out h)
      have HS : Hid (seedK (g k) ∈ L2 → R = false) := fun h => HBad.out (stale_seed hL2.out h)
      have hN1 := Lib.hid hL1.out.next
      have hN2 := Lib.hid hL2.out.next
      clear hx hwf HBad hL1 hL2
      have hl1 := m1.lt
      have hl2 := m2.lt
      have M1 : ∀ (o : Obj) (w2 : World), Below (wr.alloc o).heap.size (wr.alloc o) w2 → BoolMap Try.prog w2 9 4 w.heap.size k L1 := fun o w2 hb => (m1.alloc o).below hb (Nat.le_refl _)
      have M2 : ∀ (o : Obj) (w2 : World), Below (wr.alloc o).heap.size (wr.alloc o) w2 → BoolMap Try.prog w2 3 4 (w.heap.size + 1) k L2 := fun o w2 hb => (m2.alloc o).below hb (Nat.le_refl _)
      have M1 := Lib.hid M1
      have M2 := Lib.hid M2
      clear m1 m2
      by_cases hi1 : nameK (g k) ∈ L1
      · have hf : R = false := HN.out hi1
        subst hf
        have HI1 := Lib.hid hi1
        clear hi1 HN HS HF HStep HYES hN1 hN2 HK2
        generalize g k = x at *
        go_wp2_with (go_at_call 23; refine (teamOkI_yes x _ hgk HX.out).mono ?_; rintro e w2 ⟨rfl, b2⟩; obtain ⟨k0, k1, k2⟩ := var3 b2; have m1 := M1.out _ _ b2; have m2 := M2.out _ _ b2; have hb2 : Below w.heap.size w w2 := (hb.alloc hb.size _).trans (b2.mono (Nat.le_trans hb.size (by simp))); have hlB : wr.heap.size < w2.heap.size := World.block_lt_of_cell? _ _ k0; have r1 := (m1.run kStr Try.underlying57 Try.underlying4 (zBool _) HK1.out).1 HI1.out)
        go_ret
        exact ⟨rfl, hb2⟩
      have HI1 := Lib.hid hi1
      clear hi1 HN
      by_cases hi2 : seedK (g k) ∈ L2
      · have hf : R = false := HS.out hi2
        subst hf
        have HI2 := Lib.hid hi2
        clear hi2 HS HF HStep HYES hN1 hN2
        generalize g k = x at *
        go_wp2_with (go_at_call 23; refine (teamOkI_yes x _ hgk HX.out).mono ?_; rintro e w2 ⟨rfl, b2⟩; obtain ⟨k0, k1, k2⟩ := var3 b2; have m1 := M1.out _ _ b2; have m2 := M2.out _ _ b2; have hb2 : Below w.heap.size w w2 := (hb.alloc hb.size _).trans (b2.mono (Nat.le_trans hb.size (by simp))); have hlB : wr.heap.size < w2.heap.size := World.block_lt_of_cell? _ _ k0; have r1 := (m1.run kStr Try.underlying57 Try.underlying4 (zBool _) HK1.out).2 HI1.out; have r2 := (m2.run kInt Try.underlying58 Try.underlying4 (zBool _) HK2.out).1 HI2.out)
        go_ret
        exact ⟨rfl, hb2⟩
      have HI2 := Lib.hid hi2
      have HNext : Hid (∀ j, j < k + 1 → freshP g j) := HStep.out (HF.out HI1.out hi2)
      clear hi2 HS HF HStep
      generalize g k = x at *
      have kk1 : WideAt.IsKeyLit (nameK x) := trivial
      have kk2 : WideAt.IsKeyLit (seedK x) := trivial
      go_wp2_with (first
        | (go_at_call 23; refine (teamOkI_yes x _ hgk HX.out).mono ?_; rintro e w2 ⟨rfl, b2⟩; obtain ⟨k0, k1, k2⟩ := var3 b2; have m1 := M1.out _ _ b2; have m2 := M2.out _ _ b2; have hb2 : Below w.heap.size w w2 := (hb.alloc hb.size _).trans (b2.mono (Nat.le_trans hb.size (by simp))); have hlB : wr.heap.size < w2.heap.size := World.block_lt_of_cell? _ _ k0; have r1 := (m1.run kStr Try.underlying57 Try.underlying4 (zBool _) HK1.out).2 HI1.out; have r2 := (m2.run kInt Try.underlying58 Try.underlying4 (zBool _) HK2.out).2 HI2.out; have HM1 := Lib.hid m1; have HM2 := Lib.hid m2; clear m1 m2)
        | (at_mapUpdate; refine wpList_boolTrue rfl (.tmp 38) (.tmp 40) (.const (.bool true)) 57 rfl 9 4 kStr Try.underlying57 Try.underlying4 w.heap.size k L1 rfl HM1.out (by unfold maxLen; omega) _ (nameK x) rfl rfl HK1.out kk1 ?_; intro w3 m3 g3; have n2 : w3.cell? ⟨wr.heap.size, 2, none⟩ = some (.int .i64 x.seed) := g3.cell k2 (by simp; omega))
        | (at_mapUpdate; refine wpList_boolTrue rfl (.tmp 41) (.tmp 43) (.const (.bool true)) 58 rfl 3 4 kInt Try.underlying58 Try.underlying4 (w.heap.size + 1) k L2 rfl (HM2.out.grown g3 (by simp)) (by unfold maxLen; omega) _ (seedK x) rfl rfl HK2.out kk2 ?_; intro w4 m4 g4))
      go_roundw
      case rel =>
        exact ⟨k + 1, _, _, by omega, by go_num, m3.grown g4 (by simp), m4, hN1, hN2, HNext, (hb2.grown g3 hb2.size (fun q hq => by cases hq; exact Nat.le_refl _)).grown g4 (Nat.le_trans hb2.size g3.size) (fun q hq => by cases hq; omega)⟩
      case measure => simp [intOf]; omega
    · obtain rfl : k = n := by omega
      have hf : R = true := HYES.out hfr.out
      subst hf
      clear HNO HYES hfr
      go_wp2
      go_ret
      exact ⟨rfl, hb⟩
end Go.Proofs.Ytmghnhjfkecaaaa
