/-
  The contract of the program's ParseInt: strconv.Atoi by the library's contracts.
-/
import Derived.Test.YtgdahjcngkokfaaDoorIntParse
import Derived.Lib.SmallJoins
set_option linter.unusedVariables false
namespace Go.Proofs.YtgdahjcngkokfaaDoor
open Go.RowKit

def valFrom (acc : Nat) (l : List UInt8) : Nat := l.foldl (fun a b => a * 10 + (b.toNat - 48)) acc
theorem valFrom_ge : ∀ (l : List UInt8) (acc : Nat), acc ≤ valFrom acc l
  | [], acc => Nat.le_refl _
  | b :: r, acc => by
    have := valFrom_ge r (acc * 10 + (b.toNat - 48))
    show acc ≤ valFrom (acc * 10 + (b.toNat - 48)) r
    omega
theorem parseUint10_ok : ∀ (l : List UInt8) (acc : Nat), (∀ b ∈ l, 48 ≤ b.toNat ∧ b.toNat ≤ 57) → valFrom acc l ≤ 9223372036854775808 → Lib.parseUint10 acc l = .ok (valFrom acc l)
  | [], acc, _, _ => rfl
  | b :: r, acc, hd, hv => by
    have hb := hd b (List.mem_cons_self ..)
    have hge := valFrom_ge r (acc * 10 + (b.toNat - 48))
    have hv' : valFrom (acc * 10 + (b.toNat - 48)) r ≤ 9223372036854775808 := hv
    rw [Lib.parseUint10, if_pos hb, if_neg (by omega), if_neg (by omega)]
    exact parseUint10_ok r _ (fun c hc => hd c (List.mem_cons_of_mem _ hc)) hv'
theorem parseMag_dec (u : Nat) (h : u ≤ 9223372036854775808) : Lib.parseMag (Lib.decDigits u) = .ok u := by
  unfold Lib.parseMag
  rw [if_neg (decDigits_ne u)]
  have hv : valFrom 0 (Lib.decDigits u) = u := valL_decDigits u
  have := parseUint10_ok (Lib.decDigits u) 0 (decDigits_dig u) (by rw [hv]; exact h)
  rw [hv] at this
  exact this
theorem atoiAll_itoa (n : Int) (h : isInt n) : Lib.atoiAll (Lib.itoa n) = .ok n := by
  unfold isInt at h
  by_cases hp : n < 0
  · rw [itoa_neg n hp]
    have h45 : (45 : UInt8).toNat = 45 := rfl
    simp only [Lib.atoiAll, h45, or_true, if_true, parseMag_dec n.natAbs (show n.natAbs ≤ 9223372036854775808 by omega)]
    rw [if_neg (by simp), if_neg (by simp; omega)]
    congr 1; omega
  · rw [itoa_pos n hp]
    obtain ⟨b, r, hbr, h1, h2⟩ := decDigits_cons n.toNat
    have hm := parseMag_dec n.toNat (by omega)
    rw [hbr] at hm ⊢
    simp only [Lib.atoiAll]
    rw [if_neg (by omega), hm]
    simp only
    rw [if_neg (by omega), if_neg (by omega), if_neg (by omega)]
    congr 1; omega
theorem atoiAll_int {l : List UInt8} {v : Int} (h : Lib.atoiAll l = .ok v) : isInt v := by
  unfold Lib.atoiAll at h
  split at h
  · cases h
  · simp only at h
    split at h
    · cases h
    · cases h
    · split at h
      · cases h
      · split at h
        · cases h
        · injection h with h
          subst h
          unfold isInt
          split <;> omega
theorem no_of_atoi {l : List UInt8} (h : ∀ v, Lib.atoiAll l ≠ .ok v) : ∀ n, isInt n → Lib.itoa n ≠ l := fun n hn he => h n (by rw [← he]; exact atoiAll_itoa n hn)

/-- what the program's ParseInt asks of the world: the library's table and its two errors -/
structure NumWorld (w : World) : Prop where
  tab : PowTab w
  syn : ∃ tp p, VarAt w 0 #[.iface tp p]
  ran : ∃ tp p, VarAt w 1 #[.iface tp p]
theorem NumWorld.below {w w' : World} {B : Nat} (h : NumWorld w) (hb : Below B w w') (hB : w.heap.size ≤ B) : NumWorld w' := by
  refine ⟨VarAt.below h.tab hb hB, ?_, ?_⟩
  · obtain ⟨tp, p, hv⟩ := h.syn
    exact ⟨tp, p, hv.below hb hB⟩
  · obtain ⟨tp, p, hv⟩ := h.ran
    exact ⟨tp, p, hv.below hb hB⟩

theorem parseInt_impl (s : ByteArray) (w : World) (hs : s.size ≤ 1048576) (hw : NumWorld w) :
    Calls Tryd.prog 7 #[.string s] w (ParsePost s w) := by
  rcases ha : Lib.atoiAll s.data.toList with v | _ | _
  · have hi := atoiAll_int ha
    have C : Hid (Calls Tryd.prog 18 #[.string s] w fun e w' => e = .returned (.tuple #[.int .i64 v, .nilIface]) ∧ Below w.heap.size w w') :=
      (Any.strconv_Atoi_ok Tryd.laysC172 s (by omega) v ha w).mono fun e w' ⟨h1, h2⟩ => ⟨h1, by
        rcases h2 with rfl | ⟨t, rfl⟩
        · exact Below.refl _ _
        · exact Joins.below_bytesWorld _ _ _ _ (Nat.le_refl _)⟩
    have CF : Hid (∀ w1, Below w.heap.size w w1 → Calls Tryd.prog 8 #[.int .i64 v] w1 fun e w' => e = .returned (.string ⟨(Lib.itoa v).toArray⟩) ∧ Below w1.heap.size w1 w') :=
      fun w1 hb => formatInt_impl v w1 hi (VarAt.below hw.tab hb (Nat.le_refl _))
    clear hw
    by_cases hit : Lib.itoa v = s.data.toList
    · have Hy : Hid (isInt v ∧ Lib.itoa v = s.data.toList) := ⟨hi, hit⟩
      rw [hit] at CF
      clear hit hi ha
      go_enter Tryd.func7, Tryd.ntmps7
      go_wp2_with fail
      refine C.out.mono ?_
      rintro e w1 ⟨rfl, b1⟩
      go_wp2_with (go_at_call 8; refine (CF.out _ b1).mono ?_; rintro e w2 ⟨rfl, b2⟩)
      go_ret2
      exact ParsePost.yes Hy.out.1 Hy.out.2 (b1.trans (Below.mono (by assumption) b1.size))
    · have hno : Hid (∀ n, isInt n → Lib.itoa n ≠ s.data.toList) := fun n hn he => by
        have := atoiAll_itoa n hn
        rw [he, ha] at this
        injection this with this
        exact hit (this ▸ he)
      have hz : (Lib.itoa v == s.toList) = false := by rw [ByteArray.toList_eq]; simpa using hit
      clear hit hi ha
      generalize Lib.itoa v = Z at *
      go_enter Tryd.func7, Tryd.ntmps7
      go_wp2_with fail
      refine C.out.mono ?_
      rintro e w1 ⟨rfl, b1⟩
      go_wp2_with (go_at_call 8; refine (CF.out _ b1).mono ?_; rintro e w2 ⟨rfl, b2⟩)
      go_ret2
      exact ParsePost.no hno.out (b1.trans (Below.mono (by assumption) b1.size))
  · have hno := Lib.hid (no_of_atoi (l := s.data.toList) (by rw [ha]; intro v h; cases h))
    obtain ⟨tp, p, hv⟩ := hw.syn
    have C : Hid (Calls Tryd.prog 18 #[.string s] w fun e w' => (∃ v N, e = .returned (.tuple #[.int .i64 v, .iface 55 (.pointer (some ⟨N, 0, none⟩))])) ∧ Below w.heap.size w w') :=
      (Any.strconv_Atoi_syntax_var Tryd.laysC172 s (by omega) ha tp p w (var_of_at (by kernel_rfl) hv)).mono fun e w' ⟨N, h1, _, _, h2⟩ => ⟨⟨_, N, h1⟩, h2⟩
    clear hw hv ha
    go_enter Tryd.func7, Tryd.ntmps7
    go_wp2_with fail
    refine C.out.mono ?_
    rintro e w1 ⟨⟨v, N, rfl⟩, b1⟩
    go_wp2_with fail
    go_ret2
    exact ParsePost.no hno.out b1
  · have hno := Lib.hid (no_of_atoi (l := s.data.toList) (by rw [ha]; intro v h; cases h))
    obtain ⟨tp, p, hv⟩ := hw.ran
    have C : Hid (Calls Tryd.prog 18 #[.string s] w fun e w' => (∃ v N, e = .returned (.tuple #[.int .i64 v, .iface 55 (.pointer (some ⟨N, 0, none⟩))])) ∧ Below w.heap.size w w') :=
      (Any.strconv_Atoi_range_var Tryd.laysC172 s (by omega) ha tp p w (var_of_at (by kernel_rfl) hv)).mono fun e w' ⟨N, h1, _, _, h2⟩ => ⟨⟨_, N, h1⟩, h2⟩
    clear hw hv ha
    go_enter Tryd.func7, Tryd.ntmps7
    go_wp2_with fail
    refine C.out.mono ?_
    rintro e w1 ⟨⟨v, N, rfl⟩, b1⟩
    go_wp2_with fail
    go_ret2
    exact ParsePost.no hno.out b1
end Go.Proofs.YtgdahjcngkokfaaDoor
