/-
  Packed: Rounds2, TypeClosed, TyClosed, TyIntS, Cal.
-/
import Derived.Deep.RegionHeld3
import Derived.Test.YtcbpgbiannpfpaaDoorQ1
import Derived.Test.YtcbpgbiannpfpaaDoorQ2
import Derived.Test.YtcbpgbiannpfpaaDoorQ3
import Derived.Test.YtcbpgbiannpfpaaDoorQ4
import Derived.Test.YtcbpgbiannpfpaaDoorQ6
set_option linter.unusedVariables false
namespace Go.Proofs.YtcbpgbiannpfpaaDoor
open Go.RowKit

def teamsR : PairL → List Int
  | [] => []
  | p :: r => hm p :: aw p :: teamsR r
theorem teamsR_cons (p : tPair.D) (r : PairL) : teamsR (p :: r) = [hm p, aw p] ++ teamsR r := rfl
def onceP (n : Int) (L : List Int) : Prop := (∀ t ∈ L, 0 ≤ t ∧ t ≤ n - 1) ∧ L.Nodup
theorem onceP_pre {n : Int} {A B : List Int} (h : onceP n (A ++ B)) : onceP n A := ⟨fun t ht => h.1 t (List.mem_append_left _ ht), (List.nodup_append.1 h.2).1⟩
theorem onceP_push {n t : Int} {A : List Int} (h : onceP n A) (h1 : 0 ≤ t ∧ t ≤ n - 1) (h2 : t ∉ A) : onceP n (A ++ [t]) := by
  refine ⟨fun u hu => ?_, List.nodup_append.2 ⟨h.2, by simp, fun x hx y hy => ?_⟩⟩
  · rcases List.mem_append.1 hu with hu | hu
    · exact h.1 u hu
    · rw [List.mem_singleton.1 hu]; exact h1
  · rw [List.mem_singleton.1 hy]; intro e; subst e; exact h2 hx
theorem not_once_out {n t : Int} {A B : List Int} (h : ¬ (0 ≤ t ∧ t ≤ n - 1)) : ¬ onceP n (A ++ t :: B) := fun e => h (e.1 t (List.mem_append_right _ (List.mem_cons_self ..)))
theorem not_once_dup {n t : Int} {A B : List Int} (h : t ∈ A) : ¬ onceP n (A ++ t :: B) := fun e => (List.nodup_append.1 e.2).2.2 t h t (List.mem_cons_self ..) rfl
theorem take_get {L : List Int} {i : Nat} (hi : i < L.length) : L = L.take i ++ getI L i :: L.drop (i + 1) := by
  have h1 : L[i]? = some (getI L i) := by rw [List.getElem?_eq_getElem hi]; simp [getI, hi]
  rw [← drop_at h1, List.take_append_drop]
theorem take_next {L : List Int} {i : Nat} (hi : i < L.length) : L.take (i + 1) = L.take i ++ [getI L i] := by
  have h1 : L[i]? = some (getI L i) := by rw [List.getElem?_eq_getElem hi]; simp [getI, hi]
  simp [List.take_add_one, h1]
theorem teamsR_len : ∀ r : PairL, (teamsR r).length = 2 * List.length (α := tPair.D) r
  | [] => rfl
  | p :: r => by
    have h := teamsR_len r
    have key : ∀ A B : Nat, A = 2 * B → A + 1 + 1 = 2 * (B + 1) := by omega
    exact key _ _ h
def schedP (n : Int) (d : List PairL) : Prop := (2 ≤ n ∧ n ≤ 8) ∧ List.length (α := PairL) d ≤ 14 ∧ ∀ r ∈ d, onceP n (teamsR r)
theorem teamsR_app : ∀ A B : PairL, teamsR (A ++ B) = teamsR A ++ teamsR B
  | [], _ => rfl
  | p :: A, B => by show hm p :: aw p :: teamsR (A ++ B) = _; rw [teamsR_app A B]; rfl
theorem lit_kept {w w' : World} {base n LB c : Nat} {e : TypeId} {xs : List Value} {v : Value} (h : w.ownsRow base e 1 (.slice (some ⟨LB, 0, none⟩) n c) n xs) (g : w.grownBy w' v.ownBlock) (ha : ∀ q, v.ownBlock = some q → q ≠ LB) : w'.ownsRow base e 1 (.slice (some ⟨LB, 0, none⟩) n c) n xs :=
  h.kept g (.inr fun e => ha LB e.symm rfl)
theorem lit_apart {w : World} {gg n c LB : Nat} {v : Value} (h : v.ownBlock = some gg ∨ w.heap.size ≤ gg) (hl : LB < w.heap.size) (ha : ∀ q, v.ownBlock = some q → q ≠ LB) : ∀ q, (Value.slice (some ⟨gg, 0, none⟩) n c).ownBlock = some q → q ≠ LB := fun q hq => by
  have hq' : gg = q := by simpa [Value.ownBlock] using hq
  subst hq'
  rcases h with h | h
  · exact ha _ h
  · omega
set_option maxRecDepth 100000 in
set_option maxHeartbeats 4000000 in
theorem isSchedule_spec (v : Value) (d : List PairL) (N : Int) (R : Bool) (w : World) (hR : R = true ↔ schedP N d) (h : RdA tPairSS w [v] d) (hw : tPairSS.wt d ≤ 1048576) :
    Calls Tryd.prog 52 #[.int .i64 N, v] w fun e w' => e = .returned (.bool R) ∧ Below w.heap.size w w' := by
  obtain ⟨i0, hi, hz0, hz1, hz2⟩ := info_parts Tryd.infoI
  have hdl : List.length (α := PairL) d ≤ 1048576 := by have e : tPairSS.wt d = List.length (α := PairL) d + (d.map tPairS.wt).sum := rfl; omega
  obtain ⟨a, c, rfl, hn⟩ := schedule_form h
  have HR := Lib.hid h
  clear h
  obtain ⟨n, hd⟩ : ∃ n, List.length (α := PairL) d = n := ⟨_, rfl⟩
  have HD := Lib.hid hd
  rw [hd] at hn ⊢
  clear hd
  have HN := Lib.hid (boolF hR)
  have HY := Lib.hid (boolT hR)
  clear hR
  have HF : Hid (∀ r ∈ d, ¬ onceP N (teamsR r) → R = false) := fun r hr h => HN.out (fun e => h (e.2.2 r hr))
  have hn6 : n ≤ 1048576 := by rw [HD.out] at hdl; exact hdl
  clear hdl
  have HWT : Hid (∀ r ∈ d, List.length (α := tPair.D) r ≤ 1048576) := fun r hr => by
    have h1 : ∀ L : List PairL, r ∈ L → List.length (α := tPair.D) r ≤ tPairSS.wt L := by
      intro L
      induction L with
      | nil => intro h; cases h
      | cons y L ih =>
        intro h
        have h9 := wt_PairSS_cons y L
        have h8 : List.length (α := tPair.D) r ≤ List.length (α := tPair.D) y + 1 + tPairSS.wt L := by
          rcases List.mem_cons.1 h with e | e
          · subst e; omega
          · have := ih e; omega
        exact Nat.le_trans h8 (Nat.le_of_eq h9.symm)
    exact Nat.le_trans (h1 d hr) hw
  go_enter Tryd.func52, Tryd.ntmps52
  by_cases hN : 2 ≤ N ∧ N ≤ 8
  case neg =>
    obtain rfl := HN.out (fun e => hN e.1)
    go_wp2_with fail
    refine (l01In_no _ _ _ _ hN).mono ?_
    rintro e wx ⟨rfl, rfl⟩
    go_wp2
    go_ret
    exact ⟨rfl, Below.refl _ _⟩
  go_wp2_with fail
  refine (l01In_yes _ _ _ _ hN).mono ?_
  rintro e wx ⟨rfl, rfl⟩
  by_cases hl : n ≤ 14
  case neg =>
    have g1 : decide ((14 : Int) < (n : Int)) = true := decide_eq_true (by omega)
    have g2 : decide (14 < n) = true := decide_eq_true (by omega)
    obtain rfl := HN.out (fun e => hl (by have := e.2.1; rw [HD.out] at this; exact this))
    go_wp2
    go_ret
    exact ⟨rfl, Below.refl _ _⟩
  have g1 : decide ((14 : Int) < (n : Int)) = false := decide_eq_false (by omega)
  have g2 : decide (14 < n) = false := decide_eq_false (by omega)
  go_wp2
  clear g1 g2
  go_loopw [22] (fun iv wr => ∃ k : Nat, k ≤ n ∧ iv = .int .i64 k ∧ Hid (∀ r ∈ d.take k, onceP N (teamsR r)) ∧ Hid (Below w.heap.size w wr)) (fun iv _ => n - (RowKit.intOf iv).toNat)
  case atStart => exact ⟨0, Nat.zero_le _, rfl, fun r hr => (by simp at hr), Below.refl _ _⟩
  case round =>
    obtain ⟨k, hk9, rfl, HV, HB⟩ := hrel
    by_cases hlt : k < n
    · obtain ⟨r, hr⟩ : ∃ r : PairL, d[k]? = some r := ⟨_, List.getElem?_eq_getElem (by rw [HD.out]; exact hlt)⟩
      have HRr := HR.out.below HB.out
      obtain ⟨b, off, x, xc, rfl, hcap, q0, hrr, hm63⟩ := round_cells HRr hr
      rw [HD.out] at hcap
      have hj1 : (k : Int) < (n : Int) := by omega
      have HRW := Lib.hid hrr
      obtain ⟨m, hm⟩ : ∃ m, List.length (α := tPair.D) r = m := ⟨_, rfl⟩
      have HM := Lib.hid hm
      rw [hm] at q0 hm63
      clear hm hrr HRr
      have hrm := Lib.hid (List.mem_of_getElem? hr)
      have HDT : Hid (d.take (k + 1) = d.take k ++ [r]) := by show _ = _; rw [List.take_add_one, hr]; rfl
      have hm6 : m ≤ 1048576 := by have h9 := HWT.out r hrm.out; rw [HM.out] at h9; exact h9
      have HBo := HB
      clear hr HB
      generalize wr = w1 at *
      have ON : Hid ((w1.alloc (.cells #[] 3)).ownsRow w1.heap.size 3 1 (.slice (some ⟨w1.heap.size, 0, none⟩) 0 0) 0 []) := World.ownsRow_lit (e := 3) (size := 1) w1 #[] 0 (Nat.le_refl _) (by decide) rfl
      have HB1 : Hid (Below w1.heap.size w1 (w1.alloc (.cells #[] 3))) := (Below.refl _ _).alloc (Nat.le_refl _) _
      go_wp2
      go_loopw [7, 29] (fun ov jv wi => ∃ (j : Nat) (SL : List Int), j ≤ m ∧ jv = .int .i64 j ∧ Hid (SL = teamsR (r.take j)) ∧ Hid (onceP N SL) ∧ Hid (wi.ownsRow w1.heap.size 3 1 ov SL.length (SL.map (Value.int .i64))) ∧ Hid (Below w1.heap.size w1 wi)) (fun _ jv _ => m - (RowKit.intOf jv).toNat)
      case atStart => exact ⟨0, [], Nat.zero_le _, rfl, rfl, ⟨fun t ht => (by cases ht), List.nodup_nil⟩, ON, HB1⟩
      case round =>
        clear ON HB1
        obtain ⟨j, SL, hj9, rfl, HSL, HOK, HO, HB2⟩ := hrel
        obtain ⟨oa, oc, hof⟩ := owns_form HO.out
        subst hof
        by_cases hlt2 : j < m
        · obtain ⟨p, hp⟩ : ∃ p : tPair.D, r[j]? = some p := ⟨_, List.getElem?_eq_getElem (by rw [HM.out]; exact hlt2)⟩
          have HRr := HRW.out.below HB2.out
          obtain ⟨bp, op, rfl, hcap2, e0, e1⟩ := pair_cells HRr hp
          rw [HM.out] at hcap2
          have hj2 : (j : Int) < (m : Int) := by omega
          have HT : Hid (teamsR r = SL ++ ([hm p, aw p] ++ teamsR (r.drop (j + 1)))) := by show _ = _; rw [HSL.out, ← teamsR_cons, ← teamsR_app, ← drop_at hp, List.take_append_drop]
          have HTK : Hid (teamsR (r.take (j + 1)) = teamsR (r.take j) ++ [hm p, aw p]) := by show _ = _; rw [List.take_add_one, hp, teamsR_app]; rfl
          clear hp HRr
          generalize hm p = ph at *
          generalize aw p = pa at *
          have HLT0 : Hid ((((wr.alloc (.cells #[.int .i64 ph, .int .i64 pa] 98)).alloc (.cells #[.int .i64 ph, .int .i64 pa] 3))).ownsRow (wr.heap.size + 1) 3 1 (.slice (some ⟨wr.heap.size + 1, 0, none⟩) 2 2) 2 [.int .i64 ph, .int .i64 pa]) := by
            refine Lib.hid ?_
            have h9 := World.ownsRow_lit (e := 3) (size := 1) (wr.alloc (.cells #[.int .i64 ph, .int .i64 pa] 98)) #[.int .i64 ph, .int .i64 pa] 2 (Nat.le_refl _) (by decide) rfl
            simpa using h9
          have hs2 := HB2.out.size
          have HOX : Hid ((((wr.alloc (.cells #[.int .i64 ph, .int .i64 pa] 98)).alloc (.cells #[.int .i64 ph, .int .i64 pa] 3))).ownsRow w1.heap.size 3 1 (.slice oa SL.length oc) SL.length (SL.map (Value.int .i64))) := (HO.out.alloc _).alloc _
          have HBX : Hid (Below w1.heap.size w1 ((wr.alloc (.cells #[.int .i64 ph, .int .i64 pa] 98)).alloc (.cells #[.int .i64 ph, .int .i64 pa] 3))) := (HB2.out.alloc hs2 _).alloc (by simp; omega) _
          have HAX : Hid (∀ q, (Value.slice oa SL.length oc).ownBlock = some q → q ≠ wr.heap.size + 1) := fun q hq => by have := (HO.out.lt q hq).2; omega
          clear HO HB2
          go_wp2
          obtain ⟨LB, hLB⟩ : ∃ LB, wr.heap.size + 1 = LB := ⟨_, rfl⟩
          rw [hLB] at HLT0 HAX
          (try rw [hLB])
          clear hLB
          go_loopw [7, 39] (fun ov iv wi => ∃ (i : Nat) (SQ : List Int), i ≤ 2 ∧ iv = .int .i64 i ∧ Hid (SQ = SL ++ ([ph, pa] : List Int).take i) ∧ Hid (onceP N SQ) ∧ Hid (wi.ownsRow w1.heap.size 3 1 ov SQ.length (SQ.map (Value.int .i64))) ∧ Hid (wi.ownsRow LB 3 1 (.slice (some ⟨LB, 0, none⟩) 2 2) 2 [.int .i64 ph, .int .i64 pa]) ∧ Hid (∀ q, ov.ownBlock = some q → q ≠ LB) ∧ Hid (Below w1.heap.size w1 wi)) (fun _ iv _ => 2 - (RowKit.intOf iv).toNat)
          case atStart => exact ⟨0, SL, Nat.zero_le _, rfl, (by show _ = _; simp), HOK, HOX, HLT0, HAX, HBX⟩
          case round =>
            clear HLT0 HOX HBX HAX HOK
            obtain ⟨i, SQ, hi9, rfl, HSQ, HOK, HO, HLIT, HAP, HB3⟩ := hrel
            obtain ⟨oa, oc, hof⟩ := owns_form HO.out
            subst hof
            by_cases hlt3 : i < 2
            · have HLR := IntRow.of_list (L := [ph, pa]) (v := (.slice (some ⟨LB, 0, none⟩) 2 2)) HLIT.out (by simp)
              obtain ⟨lb, lo, he, hlc, q9⟩ := int_at HLR (show i < ([ph, pa] : List Int).length from hlt3)
              simp only [Option.some.injEq, Addr.mk.injEq, and_true] at he
              obtain ⟨rfl, rfl⟩ := he
              simp only [Nat.zero_add] at q9
              have hj3 : (i : Int) < 2 := by omega
              have HSPL : Hid (teamsR r = SQ ++ getI [ph, pa] i :: (([ph, pa] : List Int).drop (i + 1) ++ teamsR (r.drop (j + 1)))) := by
                show _ = _
                rw [HT.out, HSQ.out]
                have e := take_get (L := [ph, pa]) hlt3
                conv => lhs; rw [e]
                simp
              have HNX : Hid (SQ ++ [getI [ph, pa] i] = SL ++ ([ph, pa] : List Int).take (i + 1)) := by show _ = _; rw [take_next (L := [ph, pa]) hlt3, HSQ.out]; simp
              have hSQl : SQ.length ≤ 2097152 := by have h9 := congrArg List.length HSPL.out; rw [teamsR_len, HM.out, List.length_append] at h9; omega
              have HW3 : Hid (Below w.heap.size w wr) := HBo.out.trans (HB3.out.mono HBo.out.size)
              clear HLR
              generalize getI [ph, pa] i = tt at *
              by_cases ht : 0 ≤ tt ∧ tt ≤ N - 1
              case neg =>
                obtain rfl := HF.out r hrm.out (by rw [HSPL.out]; exact not_once_out ht)
                go_wp2_with fail
                refine (l01In_no _ _ _ _ ht).mono ?_
                rintro e wx ⟨rfl, rfl⟩
                go_wp2
                go_ret
                exact ⟨rfl, HW3.out⟩
              go_wp2_with fail
              refine (l01In_yes _ _ _ _ ht).mono ?_
              rintro e wx ⟨rfl, rfl⟩
              have hrow := IntRow.of_list HO.out (by omega)
              obtain ⟨r1, hr1⟩ := boolEx (tt ∈ SQ)
              have C1 := Lib.hid (l02Has_mem _ SQ tt r1 wr hr1 hrow)
              have HR1 := Lib.hid hr1
              clear hrow hr1
              go_wp2_with fail
              refine C1.out.mono ?_
              rintro e wx ⟨rfl, rfl⟩
              clear C1
              cases r1 with
              | true =>
                obtain rfl := HF.out r hrm.out (by rw [HSPL.out]; exact not_once_dup (HR1.out.1 (by first | rfl | trivial)))
                go_wp2
                go_ret
                exact ⟨rfl, HW3.out⟩
              | false =>
              have HOK2 : Hid (onceP N (SQ ++ [tt])) := onceP_push HOK.out ht (fun e => by have := HR1.out.2 e; cases this)
              have hs3 := HB3.out.size
              have HLL : Hid (LB < wr.heap.size) := (HLIT.out.lt LB rfl).2
              clear HR1 HOK HW3
              go_wp2_with (at_builtin; (refine wpList_pushL rfl (.tmp 53) (.tmp 55) 24 rfl w1.heap.size 3 Tryd.underlying24 hi hz0 hz1 hz2 rfl (by decide) [.int .i64 tt] rfl (by intro u hu; simp at hu; subst hu; rfl) rfl (by show Value.slice (some ⟨_, 0, none⟩) 1 1 = _; simp) HO.out (by unfold maxLen; omega) (by omega) hs3 ?_; intro gg5 cc5 w5 o5 g5 at5 lt5; have O5 := Lib.hid o5; have HB5 := Lib.hid (HB3.out.grown g5 hs3 (fun q hq => (HO.out.lt q hq).1)); have HL5 := Lib.hid (lit_kept HLIT.out g5 HAP.out); have HA5 := Lib.hid (lit_apart (n := SQ.length + 1) (c := cc5) at5 HLL.out HAP.out); clear o5 g5 at5 lt5))
              go_roundw
              case rel => exact ⟨i + 1, SQ ++ [tt], by omega, by go_num, HNX, HOK2, by rw [List.length_append, List.map_append]; exact O5, HL5, HA5, HB5⟩
              case measure => simp [RowKit.intOf]; omega
            obtain rfl : i = 2 := by omega
            have HNX : Hid (SQ = teamsR (r.take (j + 1))) := by show _ = _; rw [HSQ.out, HSL.out, HTK.out]; rfl
            go_wp2
            go_roundw
            case rel => exact ⟨j + 1, SQ, by omega, by go_num, HNX, HOK, HO, HB3⟩
            case measure => simp [RowKit.intOf]; omega
        obtain rfl : j = m := by omega
        have HOR : Hid (onceP N (teamsR r)) := by have h9 := HOK.out; rw [HSL.out, List.take_of_length_le (by have := HM.out; omega)] at h9; exact h9
        have HVN : Hid (∀ y ∈ d.take (k + 1), onceP N (teamsR y)) := fun y hy => by
          rw [HDT.out] at hy
          rcases List.mem_append.1 hy with h | h
          · exact HV.out y h
          · rw [List.mem_singleton.1 h]; exact HOR.out
        have HBE : Hid (Below w.heap.size w wr) := HBo.out.trans (HB2.out.mono HBo.out.size)
        go_wp2
        go_roundw
        case rel => exact ⟨k + 1, by omega, by go_num, HVN, HBE⟩
        case measure => simp [RowKit.intOf]; omega
    obtain rfl : k = n := by omega
    obtain rfl := HY.out ⟨hN, by rw [HD.out]; exact hl, fun r hr => HV.out r (by rw [List.take_of_length_le (by have := HD.out; omega)]; exact hr)⟩
    go_wp2
    go_ret
    exact ⟨rfl, HB.out⟩
end Go.Proofs.YtcbpgbiannpfpaaDoor
set_option linter.unusedVariables false
namespace Go.Proofs.YtcbpgbiannpfpaaDoor
open Go.RowKit

structure ClosedD where
  team : Int
  since : Int
  till : Int
instance : Inhabited ClosedD := ⟨⟨0, 0, 0⟩⟩
def ClosedD.cells (t : ClosedD) : List Value := [.int .i64 t.team, .int .i64 t.since, .int .i64 t.till]
def ClosedD.val (t : ClosedD) : Value := .agg #[.int .i64 t.team, .int .i64 t.since, .int .i64 t.till]
def ClosedD.fit (t : ClosedD) : Prop := IntFit t.team ∧ IntFit t.since ∧ IntFit t.till
theorem ClosedD.len (t : ClosedD) : t.cells.length = 3 := rfl
def ClosedRow (w : World) (v : Value) (n : Nat) (g : Nat → ClosedD) : Prop := RecRow 3 w v n fun i => (g i).cells
theorem ClosedRow.below {w w' : World} {B : Nat} {v : Value} {n : Nat} {g : Nat → ClosedD} (h : ClosedRow w v n g) (hb : Below B w w') (hB : w.heap.size ≤ B) : ClosedRow w' v n g := RecRow.below h hb hB
theorem ClosedRow.touch {lo hi lo' hi' : Nat} {w w' : World} {v : Value} {n : Nat} {g : Nat → ClosedD} (h : ClosedRow w v n g) (t : Touch lo hi w w') (hv : 0 < n → InW lo' hi' v) (ho : hi' ≤ lo ∨ hi ≤ lo') : ClosedRow w' v n g := RecRow.touch h t hv ho
theorem ClosedRow.form {w : World} {v : Value} {n : Nat} {g : Nat → ClosedD} (h : ClosedRow w v n g) : ∃ a cap, v = .slice a n cap ∧ n ≤ 9223372036854775807 ∧ (0 < n → ∃ b off, a = some ⟨b, off, none⟩ ∧ n ≤ cap ∧ ∀ i, i < n → CellsAt w b (off + i * 3) (g i).cells) := RecRow.form h
theorem InW.closedRow {hi : Nat} {v : Value} {w : World} {n : Nat} {g : Nat → ClosedD} (h : ClosedRow w v n g) (h0 : 0 < n) (hs : w.heap.size ≤ hi) : InW 0 hi v := RecRow.inw h h0 hs
theorem ClosedRow.of_owns {w : World} {base : Nat} {e : TypeId} {v : Value} {n : Nat} {xs : List Value} {g : Nat → ClosedD} (h : w.ownsRow base e 3 v n xs) (hn : n ≤ 9223372036854775807) (hg : RecCells 3 n xs fun i => (g i).cells) : ClosedRow w v n g := RecRow.of_owns h hn hg fun _ _ => Nat.le_refl _
theorem Tryd.infoClosed : (Tryd.prog.info? 66).map (fun i => (i.zero, i.size, i.bytes)) = some (some (.agg #[.int .i64 0, .int .i64 0, .int .i64 0]), 3, 24) := by kernel_rfl
theorem x_sz_ClosedS (v : Value) (n : Nat) (g : Nat → ClosedD) (left : Int) (w : World) (hl0 : 0 ≤ left) (hl : left ≤ 1048576) (h : ClosedRow w v n g) :
    Calls Tryd.prog 42 #[v, .int .i64 left] w (SzPost n left w) := by
  obtain ⟨a, cap, rfl, hn, _⟩ := h.form
  clear h
  by_cases hbig : left < n
  · have g0 : decide (left - (n : Int) < 0) = true := decide_eq_true (by omega)
    go_enter Tryd.func42, Tryd.ntmps42
    go_wp2
    go_ret
    exact ⟨⟨_, rfl, .inl (by decide)⟩, Below.refl _ _⟩
  · have g0 : decide (left - (n : Int) < 0) = false := decide_eq_false (by omega)
    go_enter Tryd.func42, Tryd.ntmps42
    go_wp2
    go_ret
    exact ⟨⟨_, rfl, .inr ⟨by omega, by omega⟩⟩, Below.refl _ _⟩
theorem x_to_Closed (team : Int) (since : Int) (till : Int) (w : World) : Calls Tryd.prog 72 #[.agg #[.int .i64 team, .int .i64 since, .int .i64 till]] w fun e w' => e = .returned (.agg #[.int .i64 team, .int .i64 since, .int .i64 till]) ∧ Below w.heap.size w w' := by
  go_enter Tryd.func72, Tryd.ntmps72
  go_wp2
  exact bodyPost_ret (v := .agg #[.int .i64 team, .int .i64 since, .int .i64 till]) (by simp [results, Tryd.results72, go_sem]) rfl ⟨rfl, (((Below.refl _ _).alloc (Nat.le_refl _) _).alloc (by simp) _).alloc (by simp; omega) _⟩
theorem x_eq_Closed (team : Int) (since : Int) (till : Int) (w : World) : Calls Tryd.prog 74 #[.agg #[.int .i64 team, .int .i64 since, .int .i64 till], .agg #[.int .i64 team, .int .i64 since, .int .i64 till]] w fun e w' => e = .returned (.bool true) ∧ Below w.heap.size w w' := by
  go_enter Tryd.func74, Tryd.ntmps74
  go_wp2
  go_ret
  exact ⟨rfl, ((Below.refl _ _).alloc (Nat.le_refl _) _).alloc (by simp) _⟩
set_option maxHeartbeats 1000000 in
theorem x_to_ClosedS (v : Value) (n : Nat) (g : Nat → ClosedD) (w : World) (h : ClosedRow w v n g) (hn : n ≤ 1048576) :
    Calls Tryd.prog 47 #[v] w (RecMade 3 66 w n fun i => (g i).cells) := by
  obtain ⟨i0, hi, hz0, hz1, hz2⟩ := info_parts Tryd.infoClosed
  obtain ⟨a, cap, rfl, _, hv⟩ := h.form
  have HV := Lib.hid hv
  clear hv h
  go_enter Tryd.func47, Tryd.ntmps47
  go_wp2_with (at_make; refine wpList_make_full _ rfl _ _ 25 rfl w.heap.size 66 i0 (.agg #[.int .i64 0, .int .i64 0, .int .i64 0]) 3 Tryd.underlying25 hi hz0 hz1 .i64 .i64 n n n rfl rfl rfl rfl (by rw [hz2]; omega) (by unfold maxLen; omega) (Nat.le_refl _) ?_; intro w1 hown hg1)
  have hb1 : Below w.heap.size w w1 := (Below.refl _ _).grown hg1 (Nat.le_refl _) (fun k hk => by cases hk)
  clear hg1
  go_loopw [4] (fun i wr => ∃ (j : Nat) (ys : List Value), j ≤ n ∧ i = .int .i64 j ∧ wr.ownsRow w.heap.size 66 3 (.slice (some ⟨w.heap.size, 0, none⟩) n n) n ys ∧
      Hid (RecCells 3 j ys fun i => (g i).cells) ∧ Below w.heap.size w wr)
    (fun i _ => n - (RowKit.intOf i).toNat)
  case atStart => exact ⟨0, _, Nat.zero_le _, rfl, hown, RecCells.nil, hb1⟩
  case round =>
    obtain ⟨j, ys, hj, rfl, hown', hys, hb⟩ := hrel
    clear hown hb1
    by_cases hlt : j < n
    · obtain ⟨b, off, rfl, _, hc⟩ := HV.out (by omega)
      have hq := (hc j hlt).belowB hb (hc j hlt).1
      generalize hx : g j = x at *
      have c0 : wr.cell? ⟨b, off + j * 3, none⟩ = some (.int .i64 x.team) := hq.2 0 _ rfl
      have c1 : wr.cell? ⟨b, off + j * 3 + 1, none⟩ = some (.int .i64 x.since) := hq.2 1 _ rfl
      have c2 : wr.cell? ⟨b, off + j * 3 + 2, none⟩ = some (.int .i64 x.till) := hq.2 2 _ rfl
      have Hx := Lib.hid hx
      have hlen := hown'.1
      have HL := Lib.hid hlen
      have hsz := hb.size
      clear hc HV hx hlen hq
      go_wp2_with (go_at_call 72; refine (x_to_Closed x.team x.since x.till _).mono ?_; rintro e w2 ⟨rfl, b2⟩; have hown2 := owns_below hown' b2 (Nat.le_refl _); obtain ⟨u0, e0⟩ := owns_cellR hown2 (j * 3) (by omega); have f0 := hown2.frozenAt (j * 3); obtain ⟨u1, e1⟩ := owns_cellR hown2 (j * 3 + 1) (by omega); have f1 := hown2.frozenAt (j * 3 + 1); obtain ⟨u2, e2⟩ := owns_cellR hown2 (j * 3 + 2) (by omega); have f2 := hown2.frozenAt (j * 3 + 2))
      go_roundw
      case rel =>
        have hb2 := (hb.trans (b2.mono hsz))
        exact ⟨j + 1, _, by omega, by go_num, (((hown2.stored (j * 3) _).1.stored (j * 3 + 1) _).1.stored (j * 3 + 2) _).1, hys.out.sets (cs := x.cells) HL.out hlt (by show (g j).cells = _; rw [Hx.out]) rfl (fun _ _ => Nat.le_refl _), (((hb2.setCell (Nat.le_refl _) _).setCell (Nat.le_refl _) _).setCell (Nat.le_refl _) _)⟩
      case measure => simp [RowKit.intOf]; omega
    · obtain rfl : j = n := by omega
      go_wp2
      go_ret
      exact ⟨_, rfl, RecRow.of_owns hown' (by omega) hys.out (fun _ _ => Nat.le_refl _), ⟨_, hown'⟩, hb⟩
set_option maxHeartbeats 1000000 in
theorem x_eq_ClosedS (v : Value) (n : Nat) (g : Nat → ClosedD) (v' : Value) (w : World) (h : ClosedRow w v n g) (h' : ClosedRow w v' n g) :
    Calls Tryd.prog 49 #[v, v'] w fun e w' => e = .returned (.bool true) ∧ Below w.heap.size w w' := by
  obtain ⟨a, cap, rfl, hn, hv⟩ := h.form
  obtain ⟨a', cap', rfl, _, hv'⟩ := h'.form
  have HV := Lib.hid hv
  have HV' := Lib.hid hv'
  clear hv hv' h h'
  go_enter Tryd.func49, Tryd.ntmps49
  go_wp2
  go_loopw [5] (fun i wr => ∃ j : Nat, j ≤ n ∧ i = .int .i64 j ∧ Below w.heap.size w wr) (fun i _ => n - (RowKit.intOf i).toNat)
  case atStart => exact ⟨0, Nat.zero_le _, rfl, Below.refl _ _⟩
  case round =>
    obtain ⟨j, hj, rfl, hb⟩ := hrel
    by_cases hlt : j < n
    · obtain ⟨b, off, rfl, hcap, hc⟩ := HV.out (by omega)
      obtain ⟨b', off', rfl, hcap', hc'⟩ := HV'.out (by omega)
      have qa := (hc j hlt).belowB hb (hc j hlt).1
      have qb := (hc' j hlt).belowB hb (hc' j hlt).1
      clear hc hc' HV HV'
      generalize g j = x at *
      have hj0 : (0 : Int) ≤ (j : Int) := by omega
      have hj1 : (j : Int) < (n : Int) := by omega
      go_wp2
      obtain ⟨S, HSd⟩ : ∃ S : World → Prop, S = fun w' => CellsAt w' b (off + j * 3) x.cells ∧ CellsAt w' b' (off' + j * 3) x.cells ∧ Below w.heap.size w w' := ⟨_, rfl⟩
      have KS : Hid (∀ wa wb, S wa → Below wa.heap.size wa wb → S wb) := by subst HSd; exact fun wa wb ⟨qa, qb, hb⟩ b0 => ⟨qa.below b0, qb.below b0, hb.trans (b0.mono hb.size)⟩
      have OS : Hid (∀ wa, S wa → CellsAt wa b (off + j * 3) x.cells ∧ CellsAt wa b' (off' + j * 3) x.cells ∧ Below w.heap.size w wa) := by subst HSd; exact fun wa h => h
      have KS0 : Hid (S wr.drew) := by subst HSd; exact (fun (b0 : Below wr.heap.size wr wr.drew) => ⟨qa.below b0, qb.below b0, hb.trans (b0.mono hb.size)⟩) (Below.refl _ _).drew
      clear HSd
      go_wp2_with fail
      refine wp_region_held_drew (S := S) (by kernel_rfl) ?_ (fun hHeld => ?_)
      · exact KS0.out
      clear KS0 qa qb hb
      refine wpAnyH_take (i := 0) (v := ?_) rfl (by kernel_rfl) (by kernel_rfl) (by kernel_rfl) (fun _ _ _ h => h) (Or.inl ⟨by rfl, ?_⟩) (by assumption) ?_
      rotate_left
      · (intro wa hSw; obtain ⟨qa, qb, hb⟩ := OS.out _ hSw; have c0 : wa.cell? ⟨b, off + j * 3, none⟩ = some (.int .i64 x.team) := qa.2 0 _ rfl; have c1 : wa.cell? ⟨b, off + j * 3 + 1, none⟩ = some (.int .i64 x.since) := qa.2 1 _ rfl; have c2 : wa.cell? ⟨b, off + j * 3 + 2, none⟩ = some (.int .i64 x.till) := qa.2 2 _ rfl; have d0 : wa.cell? ⟨b', off' + j * 3, none⟩ = some (.int .i64 x.team) := qb.2 0 _ rfl; have d1 : wa.cell? ⟨b', off' + j * 3 + 1, none⟩ = some (.int .i64 x.since) := qb.2 1 _ rfl; have d2 : wa.cell? ⟨b', off' + j * 3 + 2, none⟩ = some (.int .i64 x.till) := qb.2 2 _ rfl; go_simp; try with_reducible rfl)
      simp only [Act.put, List.getElem_toArray, List.getElem_cons_zero, List.setIfInBounds_toArray, List.set_cons_zero, List.set_cons_succ]
      refine wpAnyH_take (i := 1) (v := ?_) rfl (by kernel_rfl) (by kernel_rfl) (by kernel_rfl) (fun _ _ _ h => h) (Or.inl ⟨by rfl, ?_⟩) (by assumption) ?_
      rotate_left
      · (intro wa hSw; obtain ⟨qa, qb, hb⟩ := OS.out _ hSw; have c0 : wa.cell? ⟨b, off + j * 3, none⟩ = some (.int .i64 x.team) := qa.2 0 _ rfl; have c1 : wa.cell? ⟨b, off + j * 3 + 1, none⟩ = some (.int .i64 x.since) := qa.2 1 _ rfl; have c2 : wa.cell? ⟨b, off + j * 3 + 2, none⟩ = some (.int .i64 x.till) := qa.2 2 _ rfl; have d0 : wa.cell? ⟨b', off' + j * 3, none⟩ = some (.int .i64 x.team) := qb.2 0 _ rfl; have d1 : wa.cell? ⟨b', off' + j * 3 + 1, none⟩ = some (.int .i64 x.since) := qb.2 1 _ rfl; have d2 : wa.cell? ⟨b', off' + j * 3 + 2, none⟩ = some (.int .i64 x.till) := qb.2 2 _ rfl; go_simp; try with_reducible rfl)
      simp only [Act.put, List.getElem_toArray, List.getElem_cons_zero, List.getElem_cons_succ, List.setIfInBounds_toArray, List.set_cons_zero, List.set_cons_succ]
      refine wpAnyH_take (i := 2) (v := ?_) rfl (by kernel_rfl) (by kernel_rfl) (by kernel_rfl) (fun _ _ _ h => h) (Or.inl ⟨by rfl, ?_⟩) (by assumption) ?_
      rotate_left
      · (intro wa hSw; obtain ⟨qa, qb, hb⟩ := OS.out _ hSw; have c0 : wa.cell? ⟨b, off + j * 3, none⟩ = some (.int .i64 x.team) := qa.2 0 _ rfl; have c1 : wa.cell? ⟨b, off + j * 3 + 1, none⟩ = some (.int .i64 x.since) := qa.2 1 _ rfl; have c2 : wa.cell? ⟨b, off + j * 3 + 2, none⟩ = some (.int .i64 x.till) := qa.2 2 _ rfl; have d0 : wa.cell? ⟨b', off' + j * 3, none⟩ = some (.int .i64 x.team) := qb.2 0 _ rfl; have d1 : wa.cell? ⟨b', off' + j * 3 + 1, none⟩ = some (.int .i64 x.since) := qb.2 1 _ rfl; have d2 : wa.cell? ⟨b', off' + j * 3 + 2, none⟩ = some (.int .i64 x.till) := qb.2 2 _ rfl; go_simp; try with_reducible rfl)
      simp only [Act.put, List.getElem_toArray, List.getElem_cons_zero, List.getElem_cons_succ, List.setIfInBounds_toArray, List.set_cons_zero, List.set_cons_succ]
      refine wpAnyH_take (i := 3) (v := ?_) rfl (by kernel_rfl) (by kernel_rfl) (by kernel_rfl) (fun _ _ _ h => h) (Or.inl ⟨by rfl, ?_⟩) (by assumption) ?_
      rotate_left
      · (intro wa hSw; obtain ⟨qa, qb, hb⟩ := OS.out _ hSw; have c0 : wa.cell? ⟨b, off + j * 3, none⟩ = some (.int .i64 x.team) := qa.2 0 _ rfl; have c1 : wa.cell? ⟨b, off + j * 3 + 1, none⟩ = some (.int .i64 x.since) := qa.2 1 _ rfl; have c2 : wa.cell? ⟨b, off + j * 3 + 2, none⟩ = some (.int .i64 x.till) := qa.2 2 _ rfl; have d0 : wa.cell? ⟨b', off' + j * 3, none⟩ = some (.int .i64 x.team) := qb.2 0 _ rfl; have d1 : wa.cell? ⟨b', off' + j * 3 + 1, none⟩ = some (.int .i64 x.since) := qb.2 1 _ rfl; have d2 : wa.cell? ⟨b', off' + j * 3 + 2, none⟩ = some (.int .i64 x.till) := qb.2 2 _ rfl; go_simp; try with_reducible rfl)
      simp only [Act.put, List.getElem_toArray, List.getElem_cons_zero, List.getElem_cons_succ, List.setIfInBounds_toArray, List.set_cons_zero, List.set_cons_succ]
      refine wpAnyH_take (i := 4) (v := ?_) rfl (by kernel_rfl) (by kernel_rfl) (by kernel_rfl) (fun _ _ _ h => h) (Or.inl ⟨by rfl, ?_⟩) (by assumption) ?_
      rotate_left
      · (intro wa hSw; obtain ⟨qa, qb, hb⟩ := OS.out _ hSw; have c0 : wa.cell? ⟨b, off + j * 3, none⟩ = some (.int .i64 x.team) := qa.2 0 _ rfl; have c1 : wa.cell? ⟨b, off + j * 3 + 1, none⟩ = some (.int .i64 x.since) := qa.2 1 _ rfl; have c2 : wa.cell? ⟨b, off + j * 3 + 2, none⟩ = some (.int .i64 x.till) := qa.2 2 _ rfl; have d0 : wa.cell? ⟨b', off' + j * 3, none⟩ = some (.int .i64 x.team) := qb.2 0 _ rfl; have d1 : wa.cell? ⟨b', off' + j * 3 + 1, none⟩ = some (.int .i64 x.since) := qb.2 1 _ rfl; have d2 : wa.cell? ⟨b', off' + j * 3 + 2, none⟩ = some (.int .i64 x.till) := qb.2 2 _ rfl; go_simp; try with_reducible rfl)
      simp only [Act.put, List.getElem_toArray, List.getElem_cons_zero, List.getElem_cons_succ, List.setIfInBounds_toArray, List.set_cons_zero, List.set_cons_succ]
      refine wpAnyH_take (i := 5) (v := ?_) rfl (by kernel_rfl) (by kernel_rfl) (by kernel_rfl) (fun _ _ _ h => h) (Or.inl ⟨by rfl, ?_⟩) (by assumption) ?_
      rotate_left
      · (intro wa hSw; obtain ⟨qa, qb, hb⟩ := OS.out _ hSw; have c0 : wa.cell? ⟨b, off + j * 3, none⟩ = some (.int .i64 x.team) := qa.2 0 _ rfl; have c1 : wa.cell? ⟨b, off + j * 3 + 1, none⟩ = some (.int .i64 x.since) := qa.2 1 _ rfl; have c2 : wa.cell? ⟨b, off + j * 3 + 2, none⟩ = some (.int .i64 x.till) := qa.2 2 _ rfl; have d0 : wa.cell? ⟨b', off' + j * 3, none⟩ = some (.int .i64 x.team) := qb.2 0 _ rfl; have d1 : wa.cell? ⟨b', off' + j * 3 + 1, none⟩ = some (.int .i64 x.since) := qb.2 1 _ rfl; have d2 : wa.cell? ⟨b', off' + j * 3 + 2, none⟩ = some (.int .i64 x.till) := qb.2 2 _ rfl; go_simp; try with_reducible rfl)
      simp only [Act.put, List.getElem_toArray, List.getElem_cons_zero, List.getElem_cons_succ, List.setIfInBounds_toArray, List.set_cons_zero, List.set_cons_succ]
      refine wpAnyH_take (i := 6) (v := ?_) rfl (by kernel_rfl) (by kernel_rfl) (by kernel_rfl) (fun _ _ _ h => h) (Or.inl ⟨by rfl, ?_⟩) (by assumption) ?_
      rotate_left
      · (intro wa hSw; obtain ⟨qa, qb, hb⟩ := OS.out _ hSw; have c0 : wa.cell? ⟨b, off + j * 3, none⟩ = some (.int .i64 x.team) := qa.2 0 _ rfl; have c1 : wa.cell? ⟨b, off + j * 3 + 1, none⟩ = some (.int .i64 x.since) := qa.2 1 _ rfl; have c2 : wa.cell? ⟨b, off + j * 3 + 2, none⟩ = some (.int .i64 x.till) := qa.2 2 _ rfl; have d0 : wa.cell? ⟨b', off' + j * 3, none⟩ = some (.int .i64 x.team) := qb.2 0 _ rfl; have d1 : wa.cell? ⟨b', off' + j * 3 + 1, none⟩ = some (.int .i64 x.since) := qb.2 1 _ rfl; have d2 : wa.cell? ⟨b', off' + j * 3 + 2, none⟩ = some (.int .i64 x.till) := qb.2 2 _ rfl; go_simp; try with_reducible rfl)
      simp only [Act.put, List.getElem_toArray, List.getElem_cons_zero, List.getElem_cons_succ, List.setIfInBounds_toArray, List.set_cons_zero, List.set_cons_succ]
      refine wpAnyH_take (i := 7) (v := ?_) rfl (by kernel_rfl) (by kernel_rfl) (by kernel_rfl) (fun _ _ _ h => h) (Or.inl ⟨by rfl, ?_⟩) (by assumption) ?_
      rotate_left
      · (intro wa hSw; obtain ⟨qa, qb, hb⟩ := OS.out _ hSw; have c0 : wa.cell? ⟨b, off + j * 3, none⟩ = some (.int .i64 x.team) := qa.2 0 _ rfl; have c1 : wa.cell? ⟨b, off + j * 3 + 1, none⟩ = some (.int .i64 x.since) := qa.2 1 _ rfl; have c2 : wa.cell? ⟨b, off + j * 3 + 2, none⟩ = some (.int .i64 x.till) := qa.2 2 _ rfl; have d0 : wa.cell? ⟨b', off' + j * 3, none⟩ = some (.int .i64 x.team) := qb.2 0 _ rfl; have d1 : wa.cell? ⟨b', off' + j * 3 + 1, none⟩ = some (.int .i64 x.since) := qb.2 1 _ rfl; have d2 : wa.cell? ⟨b', off' + j * 3 + 2, none⟩ = some (.int .i64 x.till) := qb.2 2 _ rfl; go_simp; try with_reducible rfl)
      simp only [Act.put, List.getElem_toArray, List.getElem_cons_zero, List.getElem_cons_succ, List.setIfInBounds_toArray, List.set_cons_zero, List.set_cons_succ]
      refine wpAnyH_ready (rs := [8]) (by kernel_rfl) (by simp) ?_
      refine AllReadyH.cons (o := _) rfl (fun K hK => ?_) AllReadyH.nil
      go_simp
      obtain ⟨qa, qb, hb⟩ := OS.out _ hHeld
      refine (x_eq_Closed x.team x.since x.till _).mono ?_
      rintro e w101 ⟨rfl, b101⟩
      clear qa qb hb
      (try go_wp2_with fail)
      refine hK.out _ _ ?_ (fun hHeld101 => ?_)
      · exact KS.out _ _ hHeld b101
      clear hK K
      refine wpAnyH_take (i := 9) (v := ?_) rfl (by kernel_rfl) (by kernel_rfl) (by kernel_rfl) (fun _ _ _ h => h) (Or.inl ⟨by rfl, ?_⟩) (by assumption) ?_
      rotate_left
      · (intro wa hSw; obtain ⟨qa, qb, hb⟩ := OS.out _ hSw; have c0 : wa.cell? ⟨b, off + j * 3, none⟩ = some (.int .i64 x.team) := qa.2 0 _ rfl; have c1 : wa.cell? ⟨b, off + j * 3 + 1, none⟩ = some (.int .i64 x.since) := qa.2 1 _ rfl; have c2 : wa.cell? ⟨b, off + j * 3 + 2, none⟩ = some (.int .i64 x.till) := qa.2 2 _ rfl; have d0 : wa.cell? ⟨b', off' + j * 3, none⟩ = some (.int .i64 x.team) := qb.2 0 _ rfl; have d1 : wa.cell? ⟨b', off' + j * 3 + 1, none⟩ = some (.int .i64 x.since) := qb.2 1 _ rfl; have d2 : wa.cell? ⟨b', off' + j * 3 + 2, none⟩ = some (.int .i64 x.till) := qb.2 2 _ rfl; go_simp; try with_reducible rfl)
      simp only [Act.put, List.getElem_toArray, List.getElem_cons_zero, List.getElem_cons_succ, List.setIfInBounds_toArray, List.set_cons_zero, List.set_cons_succ]
      refine wpAnyH_done (by kernel_rfl) ?_ _
      obtain ⟨qa, qb, hb⟩ := OS.out _ hHeld101
      clear KS OS hHeld hHeld101
      go_wp2
      go_roundw
      case rel => exact ⟨j + 1, by omega, by go_num, hb⟩
      case measure => simp [RowKit.intOf]; omega
    · go_wp2
      go_ret
      exact ⟨rfl, hb⟩
def closedMk (k : Int) (i : Nat) : ClosedD := ⟨k + 3 * (i : Int), k + 3 * (i : Int) + 1, k + 3 * (i : Int) + 1 + 1⟩
theorem tgrownClosed {a b c : World} {row : Option Nat} (h : a.grownBy b row) (k : b.grownBy c row) : a.grownBy c row :=
  ⟨k.os.trans h.os, k.tape.trans h.tape, k.output.trans h.output, Nat.le_trans h.size k.size, fun i hi hne => (k.block i (Nat.lt_of_lt_of_le hi h.size) hne).trans (h.block i hi hne)⟩
set_option maxHeartbeats 1000000 in
theorem x_mk_ClosedS (v : Value) (n : Nat) (k : Int) (lo hi base : Nat) (xs : List Value) (w : World) (hown : w.ownsRow base 66 3 v n xs) (hin : InW lo hi v) (h0 : 0 < k) (hk : k + 3 * n ≤ 1000000000000) :
    Calls Tryd.prog 51 #[v, .int .i64 k] w fun e w' => e = .returned (.int .i64 (k + 3 * (n : Int))) ∧ ClosedRow w' v n (closedMk k) ∧ Touch lo hi w w' := by
  obtain ⟨a, cap, rfl, hv⟩ : ∃ a cap, v = .slice a n cap ∧ (0 < n → ∃ g, a = some ⟨g, 0, none⟩ ∧ base ≤ g) := by
    rcases hown.2 with ⟨rfl, rfl⟩ | ⟨g, cap, cur, rfl, hg, _⟩
    · exact ⟨_, _, rfl, fun h => absurd h (by omega)⟩
    · exact ⟨_, _, rfl, fun _ => ⟨g, rfl, hg⟩⟩
  have HV := Lib.hid hv
  have HI := Lib.hid hin
  clear hv hin
  go_enter Tryd.func51, Tryd.ntmps51
  go_wp2
  go_loopw [1, 5] (fun kv i wr => ∃ (j : Nat) (ys : List Value), j ≤ n ∧ i = .int .i64 j ∧ kv = .int .i64 (k + 3 * (j : Int)) ∧ wr.ownsRow base 66 3 (.slice a n cap) n ys ∧ Hid (RecCells 3 j ys fun i => (closedMk k i).cells) ∧ w.grownBy wr (Value.slice a n cap).ownBlock)
    (fun _ i _ => n - (RowKit.intOf i).toNat)
  case atStart => exact ⟨0, xs, Nat.zero_le _, rfl, by go_num, hown, RecCells.nil, ⟨rfl, rfl, rfl, Nat.le_refl _, fun _ _ _ => rfl⟩⟩
  case round =>
    obtain ⟨j, ys, hj, rfl, rfl, hown', hys, hgr⟩ := hrel
    clear hown
    by_cases hlt : j < n
    · obtain ⟨g, rfl, hg⟩ := HV.out (by omega)
      obtain ⟨u0, e0⟩ := owns_cellR hown' (j * 3) (by omega)
      have f0 := hown'.frozenAt (j * 3)
      obtain ⟨u1, e1⟩ := owns_cellR hown' (j * 3 + 1) (by omega)
      have f1 := hown'.frozenAt (j * 3 + 1)
      obtain ⟨u2, e2⟩ := owns_cellR hown' (j * 3 + 2) (by omega)
      have f2 := hown'.frozenAt (j * 3 + 2)
      have HL := Lib.hid hown'.1
      clear HV
      go_wp2
      go_roundw
      case rel => exact ⟨j + 1, _, by omega, by go_num, by go_num, (((hown'.stored (j * 3) _).1.stored (j * 3 + 1) _).1.stored (j * 3 + 2) _).1, hys.out.sets (cs := [.int .i64 (k + 3 * (j : Int)), .int .i64 (k + 3 * (j : Int) + 1), .int .i64 (k + 3 * (j : Int) + 1 + 1)]) HL.out hlt (by simp [closedMk, ClosedD.cells]) rfl (fun _ _ => Nat.le_refl _), tgrownClosed (tgrownClosed (tgrownClosed hgr (hown'.stored (j * 3) _).2) ((hown'.stored (j * 3) _).1.stored (j * 3 + 1) _).2) (((hown'.stored (j * 3) _).1.stored (j * 3 + 1) _).1.stored (j * 3 + 2) _).2⟩
      case measure => simp [RowKit.intOf]; omega
    · obtain rfl : j = n := by omega
      go_wp2
      go_ret
      exact ⟨rfl, RecRow.of_owns hown' (by omega) hys.out (fun _ _ => Nat.le_refl _), Touch.grown hgr HI.out⟩
section
open Go.ChangeShapes Go.WideShapes
variable {H : Type} {enc : TypeId × Value → H} {P : Program} {w : World} {base : Nat} {spare : Nat → Bool} {held : Bool}
theorem open_closeds {t e : TypeId} {f0 f1 f2 : Field} {v : Value} (ht : P.underlying t = some (.slice e)) (he : P.underlying e = some (.struct #[f0, f1, f2]))
    (ce : P.cellsOf e = 3) (o0 : f0.offset = 0) (c0 : P.cellsOf f0.type = 1) (u0 : P.underlying f0.type = some (.int .i64)) (o1 : f1.offset = 1) (c1 : P.cellsOf f1.type = 1) (u1 : P.underlying f1.type = some (.int .i64)) (o2 : f2.offset = 2) (c2 : P.cellsOf f2.type = 1) (u2 : P.underlying f2.type = some (.int .i64))
    (h : ∃ (fuel : Nat) (x : DataW H × List MemPlace), DataW.trod enc P w base spare held fuel t [v] = some x) : ∃ (n : Nat) (g : Nat → ClosedD), ClosedRow w v n g ∧ (∀ i, (g i).fit) ∧ n ≤ 9223372036854775807 := by
  obtain ⟨fuel, x, h⟩ := h
  have hz : (default : ClosedD).fit := by simp [ClosedD.fit, IntFit, default]
  rcases Go.Deep.open_slice ht h with ⟨h0, _⟩ | ⟨a, len, cap, m, q, D, Pl, h0, hb, hl, hm, hmm, rfl, hx⟩
  · simp only [List.cons.injEq, and_true] at h0
    subst h0
    exact ⟨0, fun _ => default, .inl ⟨_, _, rfl, rfl⟩, fun _ => hz, by omega⟩
  simp only [List.cons.injEq, and_true] at h0
  subst h0
  have hlm : len ≤ m := by rw [hmm]; split <;> omega
  have each : ∀ i, i < len → ∃ q : ClosedD, (∀ j u, q.cells[j]? = some u → w.cell? ((a.add (i * 3)).add j) = some u) ∧ q.fit := by
    intro i hi
    obtain ⟨cs', h1, h2⟩ := hx i (by omega)
    rw [ce] at h1
    obtain ⟨_, hlen, hcell⟩ := World.cells?_some h1
    obtain ⟨xs, kk, hk, hxy, _, hxl, hf⟩ := DataW.trod_struct he h2
    match xs, hxl, cs', hlen with
    | [y0, y1, y2], _, [v0, v1, v2], _ =>
      have g0 := hf 0 f0 rfl
      simp [o0, c0] at g0
      obtain ⟨z0, e0, _, k0⟩ := DataW.trod_int u0 g0
      simp only [List.cons.injEq, and_true] at e0
      subst e0
      have g1 := hf 1 f1 rfl
      simp [o1, c1] at g1
      obtain ⟨z1, e1, _, k1⟩ := DataW.trod_int u1 g1
      simp only [List.cons.injEq, and_true] at e1
      subst e1
      have g2 := hf 2 f2 rfl
      simp [o2, c2] at g2
      obtain ⟨z2, e2, _, k2⟩ := DataW.trod_int u2 g2
      simp only [List.cons.injEq, and_true] at e2
      subst e2
      refine ⟨⟨z0, z1, z2⟩, fun j u hu => ?_, ⟨intFit_of k0, intFit_of k1, intFit_of k2⟩⟩
      have hj : j < 3 := (List.getElem?_eq_some_iff.1 hu).1
      rw [hcell j hj]
      exact hu
  obtain ⟨g, hg⟩ := Go.Deep.choose_lt each
  have hfit : ∀ i, (if i < len then g i else default : ClosedD).fit := fun i => by
    by_cases hi : i < len
    · simpa [hi] using (hg i hi).2
    · simpa [hi] using hz
  unfold maxLen at hm
  refine ⟨len, fun i => if i < len then g i else default, ?_, hfit, by omega⟩
  by_cases h0 : len = 0
  · subst h0; exact .inl ⟨_, _, rfl, rfl⟩
  · have hc0 := (hg 0 (by omega)).1 0 _ rfl
    obtain ⟨b, off, spot⟩ := a
    have hspot : spot = none := by simpa [Addr.add] using World.cell?_spot hc0
    subst hspot
    have hadd : ∀ j, (⟨b, off, none⟩ : Addr).add j = ⟨b, off + j, none⟩ := fun j => by unfold Addr.add; split <;> simp_all
    have hadd2 : ∀ o j, (⟨b, o, none⟩ : Addr).add j = ⟨b, o + j, none⟩ := fun o j => by unfold Addr.add; split <;> simp_all
    simp only [hadd, hadd2] at hc0
    refine .inr ⟨b, off, cap, rfl, by omega, by omega, fun i hi => ⟨World.block_lt_of_cell? w _ hc0, fun j u hu => ?_⟩, hl⟩
    have := (hg i hi).1
    simp only [hadd, hadd2] at this
    simp only [hi, if_true] at hu
    exact this j u hu
end
section
open Go.ChangeShapes Go.WideShapes
variable {H : Type} {enc : TypeId × Value → H} {P : Program} {w : World} {base : Nat} {spare : Nat → Bool} {held : Bool}
theorem open_closed {r : Reach} {b0 : Nat} {e : TypeId} {f0 f1 f2 : Field} {v : Value} {d : DataW H} {pl : List MemPlace} (he : P.underlying e = some (.struct #[f0, f1, f2]))
    (ce : P.cellsOf e = 3) (o0 : f0.offset = 0) (c0 : P.cellsOf f0.type = 1) (u0 : P.underlying f0.type = some (.int .i64)) (o1 : f1.offset = 1) (c1 : P.cellsOf f1.type = 1) (u1 : P.underlying f1.type = some (.int .i64)) (o2 : f2.offset = 2) (c2 : P.cellsOf f2.type = 1) (u2 : P.underlying f2.type = some (.int .i64))
    (hv : Value.okWide P w r b0 e v) (h : DataW.Trod enc P w base spare held e v d pl) : ∃ q : ClosedD, v = q.val ∧ q.fit := by
  obtain ⟨cs, rfl, hsz⟩ := okWide_struct he hv
  obtain ⟨l⟩ := cs
  obtain ⟨fuel, h⟩ := h
  obtain ⟨xs, kk, hk, hxy, _, hxl, hf⟩ := DataW.trod_struct he h
  match xs, hxl, l, hsz.trans ce with
  | [y0, y1, y2], _, [v0, v1, v2], _ =>
      have g0 := hf 0 f0 rfl
      simp [Value.cells, o0, c0] at g0
      obtain ⟨z0, e0, _, k0⟩ := DataW.trod_int u0 g0
      simp only [List.cons.injEq, and_true] at e0
      subst e0
      have g1 := hf 1 f1 rfl
      simp [Value.cells, o1, c1] at g1
      obtain ⟨z1, e1, _, k1⟩ := DataW.trod_int u1 g1
      simp only [List.cons.injEq, and_true] at e1
      subst e1
      have g2 := hf 2 f2 rfl
      simp [Value.cells, o2, c2] at g2
      obtain ⟨z2, e2, _, k2⟩ := DataW.trod_int u2 g2
      simp only [List.cons.injEq, and_true] at e2
      subst e2
      exact ⟨⟨z0, z1, z2⟩, rfl, ⟨intFit_of k0, intFit_of k1, intFit_of k2⟩⟩
end
end Go.Proofs.YtcbpgbiannpfpaaDoor
set_option linter.unusedVariables false
namespace Go.Proofs.YtcbpgbiannpfpaaDoor
open Go.RowKit

def tClosed : Ty := tTwo tInt (tTwo tInt tInt)
def tClosedS : Ty := tSl 66 tClosed
theorem opens_Closed : Opens Tryd.prog 110 tClosed := opens_struct Tryd.underlying110 (by kernel_rfl) ⟨rfl, _, _, rfl, (opens_int Tryd.underlying3 (by kernel_rfl)), ⟨rfl, _, _, rfl, (opens_int Tryd.underlying3 (by kernel_rfl)), ⟨rfl, (opens_int Tryd.underlying3 (by kernel_rfl))⟩⟩⟩
theorem opens_ClosedS : Opens Tryd.prog 40 tClosedS := opens_sl Tryd.underlying40 (by kernel_rfl) opens_Closed
def ofClosed (x : tClosed.D) : ClosedD := ⟨x.1, x.2.1, x.2.2⟩
def atClosed (d : List tClosed.D) (i : Nat) : ClosedD := ((d[i]?).map ofClosed).getD default
theorem flat_Closed : FlatT tClosed fun x => (ofClosed x).cells := (flat_two flat_int (flat_two flat_int flat_int))
theorem cells_Closed {d : List tClosed.D} {i : Nat} (hi : i < d.length) : cellsAt (fun x => (ofClosed x).cells) d i = (atClosed d i).cells := by
  refine (cellsAt_lt (List.getElem?_eq_getElem hi)).trans ?_
  unfold atClosed; rw [List.getElem?_eq_getElem hi]; rfl
theorem rd_ClosedS {w : World} {v : Value} {d : List tClosed.D} : RdA tClosedS w [v] d ↔ ClosedRow w v d.length (atClosed d) := by
  have e := fun i (hi : i < d.length) => cells_Closed hi
  exact flat_Closed.rdA.trans ⟨fun h => RecRow.congr h e, fun h => RecRow.congr h fun i hi => (e i hi).symm⟩
theorem rdN_ClosedS {w : World} {lo hi : Nat} {v : Value} {d : List tClosed.D} (h : ClosedRow w v d.length (atClosed d)) (hi2 : InW lo hi v) : RdN tClosedS w lo hi [v] d :=
  flat_Closed.reads (flat_Closed.row (rd_ClosedS.2 h)) fun _ q hq => hi2 q hq
theorem wt_ClosedS (d : List tClosed.D) : tClosedS.wt d = d.length := by
  show d.length + (d.map tClosed.wt).sum = d.length
  have := sum_zero (f := tClosed.wt) (fun _ => rfl) d
  omega
theorem mks_ClosedS (d : List tClosed.D) : tClosedS.mks d = 3 * d.length := sum_const (f := tClosed.mks) (fun _ => rfl) d
theorem mkl_ClosedS (d : List tClosed.D) (k : Int) : List.length (α := tClosed.D) (tClosedS.mkd k d) = d.length := mkList_len _ _ _ _
theorem mk_ClosedS (d : List tClosed.D) (k : Int) (i : Nat) (hi : i < d.length) : atClosed (tClosedS.mkd k d) i = closedMk k i := by
  have h := mkList_get (mks := tClosed.mks) (mkd := tClosed.mkd) (m := 3) (fun _ => rfl) d k i
  have h2 : (mkList tClosed.mks tClosed.mkd k d)[i]? = some (tClosed.mkd (k + ((3 : Nat) : Int) * i) d[i]) := by
    rw [h, List.getElem?_eq_getElem hi]; rfl
  unfold atClosed
  refine (congrArg (fun o => (Option.map ofClosed o).getD default) h2).trans ?_
  rfl
theorem own_ClosedS {w : World} {lo hi : Nat} {v : Value} {d : List tClosed.D} {xs : List Value} (h : w.ownsRow lo 66 3 v d.length xs) (hr : ClosedRow w v d.length (atClosed d)) (h1 : ∀ q, v.ownBlock = some q → q < hi) (hh : hi ≤ w.heap.size) : OwN tClosedS w lo hi [v] d :=
  flat_Closed.made h (rd_ClosedS.2 hr) h1 hh
theorem y_sz_ClosedS (v : Value) (d : List tClosed.D) (left : Int) (w : World) (hl0 : 0 ≤ left) (hl : left ≤ 1048576) (h : RdA tClosedS w [v] d) : Calls Tryd.prog 42 #[v, .int .i64 left] w (SzT tClosedS d left w) :=
  (x_sz_ClosedS v d.length (atClosed d) left w hl0 hl (rd_ClosedS.1 h)).mono fun e w' ⟨⟨r, he, hr⟩, hb⟩ => ⟨⟨r, he, by rw [wt_ClosedS]; exact hr⟩, hb⟩
theorem y_to_ClosedS (v : Value) (d : List tClosed.D) (w : World) (h : RdA tClosedS w [v] d) (hw : tClosedS.wt d ≤ 1048576) : Calls Tryd.prog 47 #[v] w (MadeT tClosedS d w) :=
  (x_to_ClosedS v d.length (atClosed d) w (rd_ClosedS.1 h) (by rw [wt_ClosedS] at hw; exact hw)).mono fun e w' ⟨v', he, hr, ⟨xs, ho⟩, hb⟩ => ⟨v', he, flat_Closed.made ho (rd_ClosedS.2 hr) (fun q hq => (ho.lt q hq).2) (Nat.le_refl _), hb⟩
theorem y_eq_ClosedS (v v' : Value) (d : List tClosed.D) (w : World) (h : RdA tClosedS w [v] d) (h' : RdA tClosedS w [v'] d) : Calls Tryd.prog 49 #[v, v'] w fun e w' => e = .returned (.bool true) ∧ Below w.heap.size w w' :=
  x_eq_ClosedS v d.length (atClosed d) v' w (rd_ClosedS.1 h) (rd_ClosedS.1 h')
theorem y_mk_ClosedS (v : Value) (d : List tClosed.D) (k : Int) (lo hi : Nat) (w : World) (h : OwN tClosedS w lo hi [v] d) (h0 : 0 < k) (hk : k + tClosedS.mks d ≤ 1000000000000) : Calls Tryd.prog 51 #[v, .int .i64 k] w (MarkT tClosedS [v] d k lo hi w) := by
  obtain ⟨⟨xs, ho, _⟩, hin⟩ := flat_Closed.owned h
  have hm := mks_ClosedS d
  have hm2 : k + 3 * (d.length : Int) ≤ 1000000000000 := by omega
  refine (x_mk_ClosedS v d.length k lo hi lo xs w ho hin h0 hm2).mono fun e w' ⟨he, hr, ht⟩ => ⟨by rw [he, hm]; congr 2 <;> omega, ?_, ht⟩
  refine rdN_ClosedS ?_ hin
  have h1 : RecRow 3 w' v d.length (fun i => (atClosed (tClosedS.mkd k d) i).cells) := RecRow.congr hr (fun i hi => by rw [mk_ClosedS d k i hi])
  rw [← mkl_ClosedS d k] at h1
  exact h1
theorem yb_mk_ClosedS (v : Value) (d : List tClosed.D) (k : Int) (lo : Nat) (bs : List Nat) (w : World) (h : tClosedS.Ow w lo [v] d bs) (hnd : bs.Nodup) (h0 : 0 < k) (hk : k + tClosedS.mks d ≤ 1000000000000) : Calls Tryd.prog 51 #[v, .int .i64 k] w (MarkC tClosedS [v] (tClosedS.mkd k d) (tClosedS.mks d) k bs w) :=
  flat_mark flat_Closed h fun lo hi ho => y_mk_ClosedS v d k lo hi w ho h0 hk
end Go.Proofs.YtcbpgbiannpfpaaDoor
set_option linter.unusedVariables false
namespace Go.Proofs.YtcbpgbiannpfpaaDoor
open Go.RowKit

def tIntS : Ty := tSl 3 tInt
theorem opens_IntS : Opens Tryd.prog 24 tIntS := opens_sl Tryd.underlying24 (by kernel_rfl) (opens_int Tryd.underlying3 (by kernel_rfl))
theorem cells_int {d : List Int} {i : Nat} (hi : i < d.length) : cellsAt (fun z : Int => [Value.int .i64 z]) d i = [.int .i64 (getI d i)] := by
  refine (cellsAt_lt (List.getElem?_eq_getElem hi)).trans ?_
  unfold getI; simp [hi]
theorem rd_IntS {w : World} {v : Value} {d : List Int} : RdA tIntS w [v] d ↔ IntRow w v d.length (getI d) := by
  have e := fun i (hi : i < d.length) => cells_int hi
  exact flat_int.rdA.trans ⟨fun h => RecRow.ints (RecRow.congr h e), fun h => RecRow.congr h.rec fun i hi => (e i hi).symm⟩
theorem rdN_IntS {w : World} {lo hi : Nat} {v : Value} {d : List Int} (h : IntRow w v d.length (getI d)) (hi2 : InW lo hi v) : RdN tIntS w lo hi [v] d :=
  flat_int.reads (flat_int.row (rd_IntS.2 h)) fun _ q hq => hi2 q hq
theorem own_ints {w : World} {lo hi : Nat} {v : Value} {d : List Int} (h : w.ownsRow lo 3 1 v d.length (d.map (Value.int .i64))) (h1 : ∀ q, v.ownBlock = some q → q < hi) (hh : hi ≤ w.heap.size) : OwN tIntS w lo hi [v] d :=
  flat_int.made h (rd_IntS.2 (IntRow.of_list h (owns_max h))) h1 hh
theorem IntsL.owN {w w' : World} {L : List Int} {e : Ending} (h : IntsL w L e w') : MadeT tIntS L w e w' := by
  obtain ⟨v, he, ho, hb⟩ := h
  exact ⟨v, he, own_ints ho (fun q hq => (ho.lt q hq).2) (Nat.le_refl _), hb⟩
theorem wt_IntS (d : List Int) : tIntS.wt d = d.length := by
  show d.length + (d.map fun _ => 0).sum = d.length
  have := sum_zero (f := fun _ : Int => 0) (fun _ => rfl) d
  omega
theorem mks_IntS (d : List Int) : tIntS.mks d = d.length := (sum_const (f := fun _ : Int => 1) (fun _ => rfl) d).trans (Nat.one_mul _)
theorem mkl_IntS (d : List Int) (k : Int) : List.length (α := Int) (tIntS.mkd k d) = d.length := mkList_len _ _ _ _
theorem mk_IntS (d : List Int) (k : Int) (i : Nat) (hi : i < d.length) : getI (tIntS.mkd k d) i = k + (i : Int) := by
  have h := mkList_get (mks := tInt.mks) (mkd := tInt.mkd) (m := 1) (fun _ => rfl) d k i
  have h2 : (mkList tInt.mks tInt.mkd k d)[i]? = some (k + ((1 : Nat) : Int) * i) := by
    rw [h]
    have : d[i]? = some d[i] := List.getElem?_eq_getElem hi
    exact congrArg (Option.map (tInt.mkd (k + ((1 : Nat) : Int) * i))) this
  unfold getI
  show List.getD (α := Int) (mkList tInt.mks tInt.mkd k d) i 0 = _
  refine (List.getD_eq_getElem?_getD (α := Int)).trans ?_
  refine (congrArg (fun o => Option.getD (α := Int) o 0) h2).trans ?_
  show k + ((1 : Nat) : Int) * i = _
  omega
theorem y_sz_IntS (v : Value) (d : List Int) (left : Int) (w : World) (hl0 : 0 ≤ left) (hl : left ≤ 1048576) (h : RdA tIntS w [v] d) : Calls Tryd.prog 41 #[v, .int .i64 left] w (SzT tIntS d left w) :=
  (x_sz_IntS v d.length (getI d) left w hl0 hl (rd_IntS.1 h)).mono fun e w' ⟨⟨r, he, hr⟩, hb⟩ => ⟨⟨r, he, by rw [wt_IntS]; exact hr⟩, hb⟩
theorem y_to_IntS (v : Value) (d : List Int) (w : World) (h : RdA tIntS w [v] d) (hw : tIntS.wt d ≤ 1048576) : Calls Tryd.prog 46 #[v] w (MadeT tIntS d w) :=
  (x_to_IntS v d.length (getI d) w (rd_IntS.1 h) (by rw [wt_IntS] at hw; exact hw)).mono fun e w' ⟨v', he, hr, ⟨xs, ho⟩, hb⟩ => ⟨v', he, flat_int.made ho (rd_IntS.2 hr) (fun q hq => (ho.lt q hq).2) (Nat.le_refl _), hb⟩
theorem y_eq_IntS (v v' : Value) (d : List Int) (w : World) (h : RdA tIntS w [v] d) (h' : RdA tIntS w [v'] d) : Calls Tryd.prog 17 #[v, v'] w fun e w' => e = .returned (.bool true) ∧ Below w.heap.size w w' :=
  x_eq_IntS v d.length (getI d) v' w (rd_IntS.1 h) (rd_IntS.1 h')
theorem y_mk_IntS (v : Value) (d : List Int) (k : Int) (lo hi : Nat) (w : World) (h : OwN tIntS w lo hi [v] d) (h0 : 0 < k) (hk : k + tIntS.mks d ≤ 1000000000000) : Calls Tryd.prog 20 #[v, .int .i64 k] w (MarkT tIntS [v] d k lo hi w) := by
  obtain ⟨⟨xs, ho, _⟩, hin⟩ := flat_int.owned h
  have hm := mks_IntS d
  have hm2 : k + (d.length : Int) ≤ 1000000000000 := by omega
  refine (x_mk_IntS v d.length k lo hi lo xs w ho hin h0 hm2).mono fun e w' ⟨he, hr, ht⟩ => ⟨by rw [he, hm], ?_, ht⟩
  refine rdN_IntS ?_ hin
  have h1 := (IntRow.rec hr).congr (g' := fun i => [Value.int .i64 (getI (tIntS.mkd k d) i)]) (fun i hi => by rw [mk_IntS d k i hi])
  have h2 := h1.ints
  rw [← mkl_IntS d k] at h2
  exact h2
theorem y_hd_IntS (v : Value) (d : List Int) (k : Int) (w : World) (h : RdA tIntS w [v] (tIntS.mkd k d)) (h0 : 0 < k) (hk : k + tIntS.mks d ≤ 1000000000000) : Calls Tryd.prog 21 #[v, .int .i64 k] w (HeldT tIntS d k w) := by
  have hm := mks_IntS d
  have hm2 : k + (d.length : Int) ≤ 1000000000000 := by omega
  have hr : IntRow w v (List.length (α := Int) (tIntS.mkd k d)) (getI (tIntS.mkd k d)) := rd_IntS.1 h
  rw [mkl_IntS d k] at hr
  exact (x_hd_IntS v d.length k w (hr.rec.congr (fun i hi => by rw [mk_IntS d k i hi])).ints h0 hm2).mono fun e w' ⟨he, hb⟩ => ⟨by rw [he, hm], hb⟩
theorem yb_mk_IntS (v : Value) (d : List Int) (k : Int) (lo : Nat) (bs : List Nat) (w : World) (h : tIntS.Ow w lo [v] d bs) (hnd : bs.Nodup) (h0 : 0 < k) (hk : k + tIntS.mks d ≤ 1000000000000) : Calls Tryd.prog 20 #[v, .int .i64 k] w (MarkC tIntS [v] (tIntS.mkd k d) (tIntS.mks d) k bs w) :=
  flat_mark flat_int h fun lo hi ho => y_mk_IntS v d k lo hi w ho h0 hk
end Go.Proofs.YtcbpgbiannpfpaaDoor
set_option linter.unusedVariables false
namespace Go.Proofs.YtcbpgbiannpfpaaDoor
open Go.RowKit

abbrev ClosL := List tClosed.D
def clT (c : tClosed.D) : Int := c.1
def clF (c : tClosed.D) : Int := c.2.1
def clU (c : tClosed.D) : Int := c.2.2
theorem clos_form {w : World} {v : Value} {C : ClosL} (h : RdA tClosedS w [v] C) : ∃ a c, v = .slice a (List.length (α := tClosed.D) C) c ∧ List.length (α := tClosed.D) C ≤ 9223372036854775807 := rd_row_form h
theorem clos_cells {w : World} {a : Option Addr} {c : Nat} {C : ClosL} (h : RdA tClosedS w [.slice a (List.length (α := tClosed.D) C) c] C) {i : Nat} {x : tClosed.D} (hx : C[i]? = some x) :
    ∃ b off, a = some ⟨b, off, none⟩ ∧ C.length ≤ c ∧ w.cell? ⟨b, off + i * 3, none⟩ = some (.int .i64 (clT x)) ∧ w.cell? ⟨b, off + i * 3 + 1, none⟩ = some (.int .i64 (clF x)) ∧ w.cell? ⟨b, off + i * 3 + 2, none⟩ = some (.int .i64 (clU x)) := by
  have h1 := rd_ClosedS.1 h
  obtain ⟨a', cap, he, hn, hc⟩ := h1.form
  have hi : i < List.length (α := tClosed.D) C := (List.getElem?_eq_some_iff.1 hx).1
  obtain ⟨b, off, rfl, hcap, hcc⟩ := hc (by omega)
  simp only [Value.slice.injEq] at he
  obtain ⟨rfl, _, rfl⟩ := he
  have hh := hcc i hi
  have e : atClosed C i = ⟨clT x, clF x, clU x⟩ := by unfold atClosed; rw [hx]; rfl
  rw [e] at hh
  exact ⟨b, off, rfl, hcap, hh.2 0 _ rfl, hh.2 1 _ rfl, hh.2 2 _ rfl⟩
def okC (n : Int) (c : tClosed.D) : Prop := (0 ≤ clT c ∧ clT c < n) ∧ (0 ≤ clF c ∧ clF c ≤ 60) ∧ (clF c ≤ clU c ∧ clU c ≤ 60)
def closedP (n : Int) (C : ClosL) : Prop := List.length (α := tClosed.D) C ≤ 8 ∧ ∀ c ∈ (C : List tClosed.D), okC n c
set_option maxRecDepth 100000 in
set_option maxHeartbeats 4000000 in
theorem closedOk_spec (n : Int) (v : Value) (C : ClosL) (R : Bool) (w : World) (hR : R = true ↔ closedP n C) (h : RdA tClosedS w [v] C) :
    Calls Tryd.prog 53 #[.int .i64 n, v] w fun e w' => e = .returned (.bool R) ∧ Below w.heap.size w w' := by
  obtain ⟨a, c, rfl, hn⟩ := clos_form h
  have HR := Lib.hid h
  clear h
  obtain ⟨m, hd⟩ : ∃ m, List.length (α := tClosed.D) C = m := ⟨_, rfl⟩
  have HD := Lib.hid hd
  rw [hd] at hn ⊢
  clear hd
  have HNo : Hid (∀ x ∈ (C : List tClosed.D), ¬ okC n x → R = false) := fun x hx h => boolF hR fun hp => h (hp.2 x hx)
  have HEnd : Hid ((∀ x ∈ (C : List tClosed.D), okC n x) → (R = true ↔ m ≤ 8)) := fun h => hR.trans ⟨fun h => by have := h.1; rw [HD.out] at this; exact this, fun h8 => ⟨by rw [HD.out]; exact h8, h⟩⟩
  clear hR
  go_enter Tryd.func53, Tryd.ntmps53
  go_wp2
  go_loopw [9] (fun iv wr => ∃ k : Nat, k ≤ m ∧ iv = .int .i64 k ∧ Hid (∀ x ∈ (C.take k : List tClosed.D), okC n x) ∧ Hid (Below w.heap.size w wr)) (fun iv _ => m - (RowKit.intOf iv).toNat)
  case atStart => exact ⟨0, Nat.zero_le _, rfl, fun x hx => (by simp at hx), Below.refl _ _⟩
  case round =>
    obtain ⟨k, hk9, rfl, HV, HB⟩ := hrel
    by_cases hlt : k < m
    · obtain ⟨x, hx⟩ : ∃ x : tClosed.D, C[k]? = some x := ⟨_, List.getElem?_eq_getElem (by rw [HD.out]; exact hlt)⟩
      obtain ⟨b, off, rfl, hcap, q0, q1, q2⟩ := clos_cells (HR.out.below HB.out) hx
      rw [HD.out] at hcap
      have hj1 : (k : Int) < (m : Int) := by omega
      have HX : Hid (x ∈ (C : List tClosed.D)) := List.mem_of_getElem? hx
      have HTK : Hid (okC n x → ∀ y ∈ (C.take (k + 1) : List tClosed.D), okC n y) := fun h y hy => by
        rw [List.take_add_one, hx] at hy
        rcases List.mem_append.1 hy with hy | hy
        · exact HV.out y hy
        · rw [List.mem_singleton.1 hy]; exact h
      have HBA : Hid (Below w.heap.size w (wr.alloc (.cells #[.int .i64 (clT x), .int .i64 (clF x), .int .i64 (clU x)] 66))) := HB.out.alloc HB.out.size _
      have HF := Lib.hid (HNo.out x HX.out)
      have HOK : Hid (okC n x ↔ (0 ≤ clT x ∧ clT x < n) ∧ (0 ≤ clF x ∧ clF x ≤ 60) ∧ (clF x ≤ clU x ∧ clU x ≤ 60)) := Iff.rfl
      clear hx HV
      generalize okC n x = ok at *
      generalize clT x = t at *
      generalize clF x = f at *
      generalize clU x = u at *
      by_cases h1 : t < 0
      · obtain rfl := HF.out (fun h => by have := (HOK.out.1 h).1.1; omega)
        have g1 : decide (t < 0) = true := decide_eq_true h1
        clear HF HTK HOK
        go_wp2
        go_ret
        exact ⟨rfl, HBA.out⟩
      have g1 : decide (t < 0) = false := decide_eq_false h1
      by_cases h2 : n ≤ t
      · obtain rfl := HF.out (fun h => by have := (HOK.out.1 h).1.2; omega)
        have g2 : decide (n ≤ t) = true := decide_eq_true h2
        clear HF HTK HOK
        go_wp2
        go_ret
        exact ⟨rfl, HBA.out⟩
      have g2 : decide (n ≤ t) = false := decide_eq_false h2
      by_cases h3 : 0 ≤ f ∧ f ≤ 60
      case neg =>
        obtain rfl := HF.out (fun h => h3 (HOK.out.1 h).2.1)
        clear HF HTK HOK
        go_wp2_with fail
        refine (l01In_no _ _ _ _ h3).mono ?_
        rintro e wx ⟨rfl, rfl⟩
        go_wp2
        go_ret
        exact ⟨rfl, HBA.out⟩
      by_cases h4 : f ≤ u ∧ u ≤ 60
      case neg =>
        obtain rfl := HF.out (fun h => h4 (HOK.out.1 h).2.2)
        clear HF HTK HOK
        go_wp2_with fail
        refine (l01In_yes _ _ _ _ h3).mono ?_
        rintro e wx ⟨rfl, rfl⟩
        go_wp2_with fail
        refine (l01In_no _ _ _ _ h4).mono ?_
        rintro e wx ⟨rfl, rfl⟩
        go_wp2
        go_ret
        exact ⟨rfl, HBA.out⟩
      have HV2 := Lib.hid (HTK.out (HOK.out.2 ⟨⟨by omega, by omega⟩, h3, h4⟩))
      clear HF HTK HOK
      go_wp2_with fail
      refine (l01In_yes _ _ _ _ h3).mono ?_
      rintro e wx ⟨rfl, rfl⟩
      go_wp2_with fail
      refine (l01In_yes _ _ _ _ h4).mono ?_
      rintro e wx ⟨rfl, rfl⟩
      go_wp2
      go_roundw
      case rel => exact ⟨k + 1, by omega, by go_num, HV2, HBA⟩
      case measure => simp [RowKit.intOf]; omega
    obtain rfl : k = m := by omega
    have HE := Lib.hid (HEnd.out (fun x hx => HV.out x (by rw [List.take_of_length_le (by have := HD.out; omega)]; exact hx)))
    by_cases h8 : k ≤ 8
    · obtain rfl := HE.out.2 h8
      have g1 : decide ((k : Int) ≤ 8) = true := decide_eq_true (by omega)
      have g1' : decide (k ≤ 8) = true := decide_eq_true h8
      go_wp2
      go_ret
      exact ⟨rfl, HB.out⟩
    · have HF : R = false := by cases hr : R with | false => rfl | true => exact absurd (HE.out.1 hr) h8
      subst HF
      have g1 : decide ((k : Int) ≤ 8) = false := decide_eq_false (by omega)
      have g1' : decide (k ≤ 8) = false := decide_eq_false h8
      go_wp2
      go_ret
      exact ⟨rfl, HB.out⟩
def shutB (t day : Int) (C : ClosL) : Bool := C.any fun c => clT c == t && (decide (clF c ≤ day) && decide (day ≤ clU c))
def playB (r : PairL) (day : Int) (C : ClosL) : Bool := r.all fun p => !shutB (hm p) day C
theorem shutB_cons (t day : Int) (c : tClosed.D) (C : ClosL) : shutB t day (c :: C) = ((clT c == t && (decide (clF c ≤ day) && decide (day ≤ clU c))) || shutB t day C) := rfl
theorem playB_cons (p : tPair.D) (r : PairL) (day : Int) (C : ClosL) : playB (p :: r) day C = (!shutB (hm p) day C && playB r day C) := rfl
set_option maxRecDepth 100000 in
set_option maxHeartbeats 4000000 in
theorem canPlayOn_spec (vr : Value) (r : PairL) (day : Int) (vc : Value) (C : ClosL) (w : World) (h : RdA tPairS w [vr] r) (hc : RdA tClosedS w [vc] C) :
    Calls Tryd.prog 44 #[vr, .int .i64 day, vc] w fun e w' => e = .returned (.bool (playB r day C)) ∧ Below w.heap.size w w' := by
  obtain ⟨a, c, rfl, hn⟩ := pairs_form h
  obtain ⟨ca, cc, rfl, hcn⟩ := clos_form hc
  have HR := Lib.hid h
  have HC := Lib.hid hc
  clear h hc
  obtain ⟨n, hd⟩ : ∃ n, List.length (α := tPair.D) r = n := ⟨_, rfl⟩
  obtain ⟨m, hm'⟩ : ∃ m, List.length (α := tClosed.D) C = m := ⟨_, rfl⟩
  have HD := Lib.hid hd
  have HM := Lib.hid hm'
  rw [hd] at hn ⊢
  rw [hm'] at hcn ⊢
  clear hd hm'
  obtain ⟨R, hRR⟩ : ∃ R, playB r day C = R := ⟨_, rfl⟩
  have HV0 : Hid (playB (r.drop 0) day C = R) := hRR
  rw [hRR]
  clear hRR
  go_enter Tryd.func44, Tryd.ntmps44
  go_wp2
  go_loopw [13] (fun iv wr => ∃ k : Nat, k ≤ n ∧ iv = .int .i64 k ∧ Hid (playB (r.drop k) day C = R) ∧ Hid (Below w.heap.size w wr)) (fun iv _ => n - (RowKit.intOf iv).toNat)
  case atStart => exact ⟨0, Nat.zero_le _, rfl, HV0, Below.refl _ _⟩
  case round =>
    clear HV0
    obtain ⟨k, hk9, rfl, HV, HB⟩ := hrel
    by_cases hlt : k < n
    · obtain ⟨p, hp⟩ : ∃ p : tPair.D, r[k]? = some p := ⟨_, List.getElem?_eq_getElem (by rw [HD.out]; exact hlt)⟩
      have HV2 := HV.out
      rw [drop_at hp, playB_cons] at HV2
      obtain ⟨b, off, rfl, hcap, q0, q1⟩ := pair_cells (HR.out.below HB.out) hp
      rw [HD.out] at hcap
      have hj1 : (k : Int) < (n : Int) := by omega
      have HNX : Hid (∀ j, shutB (hm p) day (C.drop j) = false → (∀ i, i < j → ∀ x, C[i]? = some x → (clT x == hm p && (decide (clF x ≤ day) && decide (day ≤ clU x))) = false) → shutB (hm p) day C = false) := fun j h1 h2 => by
        unfold shutB at h1 ⊢
        rw [List.any_eq_false] at h1 ⊢
        intro x hx
        obtain ⟨i, hi⟩ := List.mem_iff_getElem?.1 hx
        by_cases hij : i < j
        · rw [h2 i hij x hi]; simp
        · exact h1 x (List.mem_iff_getElem?.2 ⟨i - j, by rw [List.getElem?_drop, show j + (i - j) = i by omega]; exact hi⟩)
      have HYX : Hid (∀ (i : Nat) (x : tClosed.D), C[i]? = some x → (clT x == hm p && (decide (clF x ≤ day) && decide (day ≤ clU x))) = true → shutB (hm p) day C = true) := fun i x hx h => by
        unfold shutB
        exact List.any_eq_true.2 ⟨x, List.mem_of_getElem? hx, h⟩
      have HV3 := Lib.hid HV2
      clear HV HV2 hp
      generalize shutB (hm p) day C = sh at *
      generalize hm p = ph at *
      generalize aw p = pa at *
      obtain ⟨U, hU⟩ : ∃ U, wr.alloc (.cells #[.int .i64 ph, .int .i64 pa] 98) = U := ⟨_, rfl⟩
      have bU : Below wr.heap.size wr U := by rw [← hU]; exact (Below.refl _ _).alloc (Nat.le_refl _) _
      have HXU : Hid (BoxN U wr.heap.size [.int .i64 ph, .int .i64 pa]) := by rw [← hU]; exact BoxN.made (Below.refl _ _) rfl
      have HBU := Lib.hid (HB.out.trans (bU.mono HB.out.size))
      clear bU HB
      go_wp2
      clear hU
      go_loopw [19] (fun jv wi => ∃ j : Nat, j ≤ m ∧ jv = .int .i64 j ∧ Hid (∀ i, i < j → ∀ x, C[i]? = some x → (clT x == ph && (decide (clF x ≤ day) && decide (day ≤ clU x))) = false) ∧ Hid (Below U.heap.size U wi)) (fun jv _ => m - (RowKit.intOf jv).toNat)
      case atStart => exact ⟨0, Nat.zero_le _, rfl, fun i hi => absurd hi (Nat.not_lt_zero _), Below.refl _ _⟩
      case round =>
        obtain ⟨j, hj9, rfl, HW, HI⟩ := hrel
        have HBW : Hid (Below w.heap.size w wr) := HBU.out.trans (HI.out.mono HBU.out.size)
        by_cases hlt2 : j < m
        · obtain ⟨x, hx⟩ : ∃ x : tClosed.D, C[j]? = some x := ⟨_, List.getElem?_eq_getElem (by rw [HM.out]; exact hlt2)⟩
          obtain ⟨b2, o2, rfl, hcap2, y0, y1, y2⟩ := clos_cells (HC.out.below HBW.out) hx
          rw [HM.out] at hcap2
          have hj2 : (j : Int) < (m : Int) := by omega
          have HYes := Lib.hid (HYX.out j x hx)
          have HNo : Hid ((clT x == ph && (decide (clF x ≤ day) && decide (day ≤ clU x))) = false → ∀ i, i < j + 1 → ∀ y, C[i]? = some y → (clT y == ph && (decide (clF y ≤ day) && decide (day ≤ clU y))) = false) := fun h i hi y hy => by
            by_cases e : i = j
            · subst e
              obtain rfl : x = y := Option.some.inj (hx.symm.trans hy)
              exact h
            · exact HW.out i (by omega) y hy
          have HXI := HXU.out.below HI.out
          have x0 := HXI.2 0 _ rfl
          have x1 := HXI.2 1 _ rfl
          have hxl := HXI.1
          have HBA : Hid (∀ o, Below U.heap.size U (wr.alloc o)) := fun o => HI.out.alloc HI.out.size o
          have HBA2 : Hid (∀ o, Below w.heap.size w (wr.alloc o)) := fun o => HBW.out.alloc HBW.out.size o
          clear hx HXI HW
          generalize clT x = t at *
          generalize clF x = f at *
          generalize clU x = u at *
          by_cases h1 : t = ph
          case neg =>
            have g1 : (t == ph) = false := beq_eq_false_iff_ne.2 h1
            have HWN := Lib.hid (HNo.out (by rw [g1]; rfl))
            clear HYes HNo h1
            go_wp2
            go_roundw
            case rel => exact ⟨j + 1, by omega, by go_num, HWN, HBA.out _⟩
            case measure => simp [RowKit.intOf]; omega
          have g1 : (t == ph) = true := beq_iff_eq.2 h1
          by_cases h2 : f ≤ day ∧ day ≤ u
          case neg =>
            have HWN := Lib.hid (HNo.out (by rw [g1, Bool.true_and, ← Bool.decide_and]; exact decide_eq_false h2))
            clear HYes HNo h1
            go_wp2_with fail
            refine (l01In_no _ _ _ _ h2).mono ?_
            rintro e wx ⟨rfl, rfl⟩
            go_wp2
            go_roundw
            case rel => exact ⟨j + 1, by omega, by go_num, HWN, HBA.out _⟩
            case measure => simp [RowKit.intOf]; omega
          have HS := HYes.out (by rw [g1, Bool.true_and, ← Bool.decide_and]; exact decide_eq_true h2)
          have HRF : R = false := by rw [← HV3.out, HS]; rfl
          subst HRF
          clear HYes HNo h1 HS HV3
          go_wp2_with fail
          refine (l01In_yes _ _ _ _ h2).mono ?_
          rintro e wx ⟨rfl, rfl⟩
          go_wp2
          go_ret
          exact ⟨rfl, HBA2.out _⟩
        obtain rfl : j = m := by omega
        have HVN : Hid (playB (r.drop (k + 1)) day C = R) := by
          have h9 := HNX.out j (by rw [List.drop_of_length_le (by have := HM.out; omega)]; rfl) HW.out
          show _ = _
          rw [← HV3.out, h9]
          rfl
        clear HV3 HW
        go_wp2
        go_roundw
        case rel => exact ⟨k + 1, by omega, by go_num, HVN, HBW⟩
        case measure => simp [RowKit.intOf]; omega
    obtain rfl : k = n := by omega
    have HRT : R = true := by rw [← HV.out, List.drop_of_length_le (by have := HD.out; omega)]; rfl
    subst HRT
    clear HV
    go_wp2
    go_ret
    exact ⟨rfl, HB.out⟩
def lastD (L : List Int) : Int := if L.length = 0 then -1 else getI L (L.length - 1)
end Go.Proofs.YtcbpgbiannpfpaaDoor
