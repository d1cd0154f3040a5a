/-
  The law FnRecords holds for every argument: the program answers as the model does.
-/
import Derived.Test.YtojkonhhaamodaaRows
import Derived.WalkKit
import Derived.ProofKit
import Derived.OpenShut
import Derived.ShutString
import Derived.ChangeOld
import Derived.Below
import Derived.Lib.Hide
import Derived.Test.YtojkonhhaamodaaQ6
import Derived.Test.YtojkonhhaamodaaQ15
import Derived.Test.YtojkonhhaamodaaQ17
import Derived.Test.YtojkonhhaamodaaQ18
namespace Go.Proofs.Ytojkonhhaamodaa.fnRecords
open Go.ChangeShapes Go.WideShapes Go.ChangeAt Go.RowKit
open Go.ChangeMaps (open_string shut_string)
set_option linter.unusedVariables false

theorem own : ownKnob Try.prog.godebug = none := by kernel_rfl
theorem laidOut : laidOutB Try.prog = true := by kernel_rfl
theorem note_fit {n : Int} {m : Nat} {g : Nat → GameD} {LN : List NoteD} (h : notesP n m g LN.length (getN' LN)) : ∀ i, (getN' LN i).fit := fun i => by
  by_cases hi : i < LN.length
  · have hm := h.1.1
    obtain ⟨⟨h1, h2⟩, ⟨h3, h4⟩, ⟨⟨h5, h6⟩, ⟨h7, h7'⟩, ⟨h8, h8'⟩, _, ⟨h9, h9'⟩, h10⟩, _⟩ := (h.2.2 i hi).1
    generalize getN' LN i = y at *
    refine ⟨⟨by omega, by omega⟩, ⟨by omega, by omega⟩, ⟨by omega, by omega⟩, ⟨by omega, by omega⟩, ?_, ?_, ⟨by omega, by omega⟩⟩
    · rcases h10 with ⟨_, h11, _⟩ | ⟨_, h11, _⟩
      · exact ⟨by omega, by omega⟩
      · rw [h11]; exact ⟨by omega, by omega⟩
    · rcases h10 with ⟨_, _, h11⟩ | ⟨_, _, h11⟩
      · exact ⟨by omega, by omega⟩
      · rw [h11]; exact ⟨by omega, by omega⟩
  · have : getN' LN i = ⟨0, 0, ⟨0, 0, 0, 0, 0⟩⟩ := by simp [getN', List.getD_eq_getElem?_getD, List.getElem?_eq_none (Nat.le_of_not_lt hi)]; rfl
    rw [this]
    refine ⟨?_, ?_, ?_, ?_, ?_, ?_, ?_⟩ <;> exact ⟨by decide, by decide⟩

theorem getN_fit {n : Int} {m : Nat} {g : Nat → GameD} {LN : List NoteD} (h : notesP n m g LN.length (getN' LN)) : ∀ y ∈ LN, y.fit := fun y hy => by
  obtain ⟨i, _, rfl⟩ := mem_getN.2 hy
  exact note_fit h i
/-- the notes in an order, and the first once more -/
def otherL (LN : List NoteD) (P : List Int) : List NoteD := P.map fun i => getN' LN i.toNat
theorem other_mem {LN : List NoteD} {P : List Int} (h : permL LN.length P) (y : NoteD) : y ∈ otherL LN P ↔ y ∈ LN := by
  unfold otherL
  constructor
  · intro hy
    obtain ⟨i, hi, rfl⟩ := List.mem_map.1 hy
    have := h.2.1 i hi
    exact mem_getN.1 ⟨i.toNat, by omega, rfl⟩
  · intro hy
    obtain ⟨i, hi, rfl⟩ := mem_getN.2 hy
    exact List.mem_map.2 ⟨i, h.2.2.1 i hi, by simp⟩
theorem same_mem {A B : List NoteD} (h : ∀ y, y ∈ A ↔ y ∈ B) (y : NoteD) : (∃ i, i < A.length ∧ getN' A i = y) ↔ ∃ i, i < B.length ∧ getN' B i = y := by
  rw [mem_getN, mem_getN]; exact h y
theorem game_form {w : World} {a : Option Addr} {n c i : Nat} {g : Nat → GameD} (h : GameRow w (.slice a n c) n g) (hi : i < n) : ∃ b o, a = some ⟨b, o, none⟩ ∧ n ≤ c := by
  obtain ⟨aa, cap, he, _, hc⟩ := RecRow.form h
  simp only [Value.slice.injEq, true_and] at he
  obtain ⟨b, o, h1, h2, h3⟩ := hc (by omega)
  obtain ⟨rfl, rfl⟩ := he
  exact ⟨b, o, h1, h2⟩
theorem game_at {w : World} {b o n c i : Nat} {g : Nat → GameD} (h : GameRow w (.slice (some ⟨b, o, none⟩) n c) n g) (hi : i < n) : CellsAt w b (o + i * 5) (g i).cells := by
  obtain ⟨aa, cap, he, _, hc⟩ := RecRow.form h
  simp only [Value.slice.injEq, true_and] at he
  obtain ⟨b', o', h1, h2, h3⟩ := hc (by omega)
  obtain ⟨rfl, rfl⟩ := he
  simp only [Option.some.injEq, Addr.mk.injEq, and_true] at h1
  obtain ⟨rfl, rfl⟩ := h1
  exact h3 i hi

set_option maxRecDepth 100000 in
set_option maxHeartbeats 4000000 in
theorem walk (a : Option Addr) (len cap : Nat) (zs : List Int) (w : World) (hr : IsRow .u8 w a len cap zs) :
    Calls Try.prog 3 #[.slice a len cap] w fun e w' => e = .returned (.bool true) ∧ Below w.heap.size w w' := by
  obtain ⟨i0, hi, hz0, hz1, hz2⟩ := info_parts Try.infoNote
  obtain ⟨hrow, hsm, hfit⟩ := hr.bytes
  clear hr
  generalize getN zs = g at *
  by_cases hl : 1048576 < len
  · have g0 : decide ((1048576 : Int) < (len : Int)) = true := decide_eq_true (by omega)
    clear hrow hsm
    go_enter Try.func3, Try.ntmps3
    go_wp2
    go_ret
    exact ⟨rfl, Below.refl _ _⟩
  have g0 : decide ((1048576 : Int) < (len : Int)) = false := decide_eq_false (by omega)
  have hle : len ≤ 1048576 := by omega
  have CM := Lib.hid (makeNotes_any a len cap g w hrow hsm hle)
  have CO : Hid (∀ (m : Nat) wa, ByteRow wa a len g → 1 ≤ m → m ≤ 90 → Calls Try.prog 7 #[.slice a len cap, .int .i64 (m : Int)] wa (OrderMade m wa)) := fun m wa h h1 h2 => makeOrder_any a len cap g m wa h hsm hle h1 h2
  have HROW := Lib.hid hrow
  clear hrow hsm
  go_enter Try.func3, Try.ntmps3
  go_wp2_with fail
  refine CM.out.mono ?_
  rintro e w1 ⟨n, b, LG, m, LN, s, vf, vl, vg, vfa, vta, nv, lv, ⟨hn2, hn4⟩, rfl, hgood, hL, hLl, hG, hLN, hBK, hvg, hnv, b1⟩
  obtain ⟨a1, c1, e1⟩ : ∃ a c, vf = .slice a n c := by obtain ⟨⟨xf, k1, _⟩, _⟩ := hBK; exact owns_form k1
  obtain ⟨a2, c2, e2⟩ := owns_form hBK.2.1
  obtain ⟨a3, c3, e3⟩ := owns_form hvg
  obtain ⟨a4, c4, e4⟩ := owns_form hBK.2.2.1
  obtain ⟨a5, c5, e5⟩ := owns_form hBK.2.2.2
  obtain ⟨a6, c6, e6⟩ := owns_form hnv
  subst e1 e2 e3 e4 e5 e6
  have SS := sea_season hL hn2 (by omega) (by omega)
  have NP : notesP n LG.length (getG LG) LN.length (getN' LN) := ⟨SS, by omega, fun i hi => ⟨(hG.1 _ (mem_getN.1 ⟨i, hi, rfl⟩)).1, fun j hj e => hG.2 _ (mem_getN.1 ⟨j, by omega, rfl⟩) _ (mem_getN.1 ⟨i, hi, rfl⟩) e⟩⟩
  have HNP := Lib.hid NP
  have HFIT := Lib.hid (note_fit NP)
  have HL32 : LG.length ≤ 32 := by omega
  have bx := BoxN.made (u := w1) (cs := #[.slice a1 n c1, .int .i64 b.win, .int .i64 1, .int .i64 0, .slice a2 b.lad.length c2, .bool b.ag, .slice a3 LG.length c3, .slice a4 b.fair.length c4, .slice a5 b.taken.length c5]) (t := 29) (w2 := w1.alloc (.cells #[.slice a1 n c1, .int .i64 b.win, .int .i64 1, .int .i64 0, .slice a2 b.lad.length c2, .bool b.ag, .slice a3 LG.length c3, .slice a4 b.fair.length c4, .slice a5 b.taken.length c5] 29)) (Below.refl _ _) (B := w1.heap.size) rfl
  have g1 : Below w1.heap.size w1 (w1.alloc (.cells #[.slice a1 n c1, .int .i64 b.win, .int .i64 1, .int .i64 0, .slice a2 b.lad.length c2, .bool b.ag, .slice a3 LG.length c3, .slice a4 b.fair.length c4, .slice a5 b.taken.length c5] 29)) := (Below.refl _ _).alloc (Nat.le_refl _) _
  have BX := Lib.hid bx
  have GR := Lib.hid ((GameRow.of_list hvg (by omega)).below g1 (Nat.le_refl _))
  have NR := Lib.hid ((NoteRow.of_owns hnv (by omega) (notes_cells LN)).below g1 (Nat.le_refl _))
  have HB := Lib.hid (b1.trans (g1.mono b1.size))
  have CK := Lib.hid (fun wa h1 h2 => notesOk_impl n (.slice a3 LG.length c3) LG.length (getG LG) (.slice a6 LN.length c6) LN.length (getN' LN) true wa HFIT.out ⟨fun _ => HNP.out, fun _ => rfl⟩ h1 h2)
  clear hgood hL hLl hG hBK hvg hnv b1 SS NP bx g1 CM
  have d0 := BX.out.2 0 _ rfl
  have d6 := BX.out.2 6 _ rfl
  go_wp2_with fail
  refine (CK.out _ GR.out NR.out).mono ?_
  rintro e w2 ⟨rfl, b2⟩
  have BX2 := Lib.hid (BX.out.below b2)
  have GR2 := Lib.hid (GR.out.below b2 (Nat.le_refl _))
  have NR2 := Lib.hid (NR.out.below b2 (Nat.le_refl _))
  have HB2 := Lib.hid (HB.out.trans (b2.mono HB.out.size))
  clear d0 d6 BX GR NR HB b2 CK
  generalize hD : w1.heap.size = D at *
  clear hD
  have HN12 := Lib.hid hLN
  have al2 : Below w2.heap.size w2 (w2.alloc (.cells #[] 39)) := (Below.refl _ _).alloc (Nat.le_refl _) _
  have BX3 := Lib.hid (BX2.out.below al2)
  have GR3 := Lib.hid (GR2.out.below al2 (Nat.le_refl _))
  have NR3 := Lib.hid (NR2.out.below al2 (Nat.le_refl _))
  have HB3 := Lib.hid (HB2.out.trans (al2.mono HB2.out.size))
  have HO3 := Lib.hid (World.ownsRow_lit (e := 39) (size := 7) w2 #[] 0 (Nat.le_refl _) (by decide) rfl)
  have hsz2 : w.heap.size ≤ w2.heap.size := HB2.out.size
  have HA2 := Lib.hid al2
  clear al2
  obtain ⟨q, hq⟩ : ∃ q, decide (0 < LN.length) = q := ⟨_, rfl⟩
  have hq2 : decide ((0 : Int) < (LN.length : Int)) = q := by rw [← hq]; exact decide_eq_decide.2 (by omega)
  have HQ := Lib.hid hq
  go_upto_if 38 with fail
  clear hq hq2
  go_cut [7] (fun s7 wx => ∃ (O : List NoteD) (oa : Option Addr) (oc : Nat), s7 = .slice oa O.length oc ∧ O.length ≤ 13 ∧ Hid (∀ y, y ∈ O ↔ y ∈ LN) ∧ Hid (NoteRow wx (.slice oa O.length oc) O.length (getN' O)) ∧ Hid (BoxN wx D [.slice a1 n c1, .int .i64 b.win, .int .i64 1, .int .i64 0, .slice a2 b.lad.length c2, .bool b.ag, .slice a3 LG.length c3, .slice a4 b.fair.length c4, .slice a5 b.taken.length c5]) ∧ Hid (GameRow wx (.slice a3 LG.length c3) LG.length (getG LG)) ∧ Hid (NoteRow wx (.slice a6 LN.length c6) LN.length (getN' LN)) ∧ Hid (Below w.heap.size w wx))
  case first =>
    cases q with
    | false =>
      have h0 : ¬ 0 < LN.length := of_decide_eq_false HQ.out
      have hnil : LN = [] := by cases LN with | nil => rfl | cons x l => simp at h0
      have HNIL : Hid (∀ y, y ∈ ([] : List NoteD) ↔ y ∈ LN) := by rw [hnil]; exact fun y => Iff.rfl
      clear hnil h0
      go_wp2_with fail
      go_meet
      case rel => exact ⟨[], _, _, rfl, by simp, HNIL, .inl ⟨_, _, rfl, rfl⟩, BX3, GR3, NR3, HB3⟩
    | true =>
    have h0 : 0 < LN.length := of_decide_eq_true HQ.out
    go_wp2_with fail
    refine (CO.out LN.length _ (HROW.out.below HB3.out (Nat.le_refl _)) (by omega) (by omega)).mono ?_
    rintro e w3 ⟨pv, P, rfl, hp, hpo, b3⟩
    obtain ⟨pa, pc, hpf⟩ := owns_form hpo
    subst hpf
    have HP := Lib.hid hp
    have hPl := hp.1
    have PR := Lib.hid (IntRow.of_list (L := P) (by rw [hPl]; exact hpo) (by omega))
    rw [hPl] at PR
    have PO3 := Lib.hid (owns_mono (base' := w2.heap.size + 1) hpo (by simp))
    have HA3 := Lib.hid (HA2.out.trans (b3.mono (by simp)))
    have HO4 := Lib.hid (owns_below HO3.out b3 (Nat.le_refl _))
    have HPL := Lib.hid hPl
    have hAP : ApartV (.slice (some ⟨w2.heap.size, 0, none⟩) 0 0) (.slice pa LN.length pc) := fun k e1 e2 => by
      have h1 : w2.heap.size = k := by simpa [Value.ownBlock] using e1
      have h2 := (PO3.out.lt k e2).1
      omega
    have HAP := Lib.hid hAP
    clear hp hpo b3 hPl BX3 GR3 NR3 HB3 HO3 PR hAP CO
    go_wp2
    go_loopw [7, 44] (fun ov iv wr => ∃ k : Nat, k ≤ LN.length ∧ iv = .int .i64 k ∧ Hid (wr.ownsRow w2.heap.size 39 7 ov k ((otherL LN (P.take k)).flatMap NoteD.cells)) ∧ Hid (ApartV ov (.slice pa LN.length pc)) ∧ Hid (wr.ownsRow (w2.heap.size + 1) 3 1 (.slice pa LN.length pc) LN.length (P.map (Value.int .i64))) ∧ Hid (Below w2.heap.size w2 wr)) (fun _ iv _ => LN.length - (intOf iv).toNat)
    case atStart => exact ⟨0, Nat.zero_le _, rfl, Lib.hid (by simpa [otherL] using HO4.out), HAP, PO3, HA3⟩
    case round =>
      clear HO4 HAP PO3 HA3
      obtain ⟨k, hk, rfl, HO, HAP, PO, HA⟩ := hrel
      obtain ⟨va, vc, hvf⟩ := owns_form HO.out
      subst hvf
      have hszr : w2.heap.size ≤ wr.heap.size := HA.out.size
      by_cases hlt : k < LN.length
      · obtain ⟨p, hp⟩ : ∃ p, P[k]? = some p := ⟨_, List.getElem?_eq_getElem (by have := HPL.out; omega)⟩
        obtain ⟨pb, pcap, he, hpc, _, cp⟩ := ints_at PO.out hp
        simp only [Value.slice.injEq, true_and] at he
        obtain ⟨rfl, rfl⟩ := he
        have hpr := HP.out.2.1 p (List.mem_of_getElem? hp)
        obtain ⟨q, rfl⟩ : ∃ q : Nat, p = q := ⟨p.toNat, by omega⟩
        have hqn : q < LN.length := by omega
        have hqi : (q : Int) < LN.length := by omega
        have hki : (k : Int) < LN.length := by omega
        have HSU : Hid (otherL LN (P.take (k + 1)) = otherL LN (P.take k) ++ [getN' LN q]) := by
          obtain ⟨hkp, e⟩ := List.getElem?_eq_some_iff.1 hp
          show _ = _
          rw [← List.take_append_getElem hkp, e]
          unfold otherL
          rw [List.map_append]
          rfl
        obtain ⟨aa, cap', he, _, hcr⟩ := (NR2.out.below HA.out (Nat.le_refl _)).form
        obtain ⟨nb, no, rfl, hcap', hcc⟩ := hcr (by omega)
        simp only [Value.slice.injEq, true_and] at he
        obtain ⟨rfl, rfl⟩ := he
        obtain ⟨r0, r1, r2, r3, r4, r5, r6⟩ := note_cells (hcc q hqn)
        clear hcr hcc hp hpr
        generalize getN' LN q = y at *
        go_wp2_with (at_builtin; refine wpList_pushL rfl (.tmp 48) (.tmp 53) 30 rfl w2.heap.size 39 Try.underlying30 hi hz0 hz1 hz2 rfl (by decide) (NoteD.cells y) rfl (by intro u hu; simp [NoteD.cells] at hu; rcases hu with rfl | rfl | rfl | rfl | rfl | rfl | rfl <;> rfl) rfl (by first | rfl | (show Value.slice (some ⟨_, 0, none⟩) 1 1 = _; simp)) HO.out (by unfold maxLen; omega) (by omega) hszr ?_; intro g5 c5' w5 o5 gr5 at5 lt5; have O5 := Lib.hid o5; have PO5 := Lib.hid (kept_apart PO.out HAP.out gr5); have AP5 : Hid (ApartV (.slice (some ⟨g5, 0, none⟩) (k + 1) c5') (.slice (some ⟨pb, 0, none⟩) LN.length pc)) := Lib.hid (fun x e1 e2 => fresh_ne PO.out HAP.out (g := g5) at5 (by rw [e2]; exact e1.symm)); have HA5 := Lib.hid (HA.out.grown gr5 hszr (fun q hq => (HO.out.lt q hq).1)); clear o5 gr5 at5 lt5)
        go_roundw
        case rel => exact ⟨k + 1, by omega, by go_num, by show World.ownsRow _ _ _ _ _ _ _; rw [HSU.out, List.flatMap_append]; simpa using O5.out, AP5, PO5, HA5⟩
        case measure => simp [intOf]; omega
      · obtain rfl : k = LN.length := by omega
        obtain ⟨aa, cap', he, _, hcr⟩ := (NR2.out.below HA.out (Nat.le_refl _)).form
        obtain ⟨nb, no, rfl, hcap', hcc⟩ := hcr (by omega)
        simp only [Value.slice.injEq, true_and] at he
        obtain ⟨rfl, rfl⟩ := he
        have hc0 := hcc 0 h0
        rw [Nat.zero_mul, Nat.add_zero] at hc0
        obtain ⟨r0, r1, r2, r3, r4, r5, r6⟩ := note_cells hc0
        have HM0 : Hid (getN' LN 0 ∈ LN) := mem_getN.1 ⟨0, h0, rfl⟩
        have hOO : otherL LN (P.take LN.length) = otherL LN P := by rw [List.take_of_length_le (by have := HPL.out; omega)]
        rw [hOO] at HO
        have HOL : Hid ((otherL LN P).length = LN.length) := by show (List.map _ P).length = _; rw [List.length_map]; exact HPL.out
        have hLN13 : LN.length ≤ 12 := HN12.out
        clear hcr hcc hc0 hOO
        generalize getN' LN 0 = y at *
        go_wp2_with (at_builtin; refine wpList_pushL rfl (.tmp 56) (.tmp 60) 30 rfl w2.heap.size 39 Try.underlying30 hi hz0 hz1 hz2 rfl (by decide) (NoteD.cells y) rfl (by intro u hu; simp [NoteD.cells] at hu; rcases hu with rfl | rfl | rfl | rfl | rfl | rfl | rfl <;> rfl) rfl (by first | rfl | (show Value.slice (some ⟨_, 0, none⟩) 1 1 = _; simp)) HO.out (by unfold maxLen; omega) (by omega) hszr ?_; intro g5 c5' w5 o5 gr5 at5 lt5; have O5 := Lib.hid o5; have HA5 := Lib.hid (HA.out.grown gr5 hszr (fun q hq => (HO.out.lt q hq).1)); clear o5 gr5 at5 lt5 HO)
        have HOB : Hid (NoteRow w5 (.slice (some ⟨g5, 0, none⟩) (LN.length + 1) c5') (LN.length + 1) (getN' (otherL LN P ++ [y]))) := by
          have h1 := O5.out
          have h2 : (otherL LN P ++ [y]).length = LN.length + 1 := by rw [List.length_append, HOL.out]; rfl
          have h3 := notes_cells (otherL LN P ++ [y])
          rw [h2, List.flatMap_append] at h3
          exact NoteRow.of_owns h1 (by omega) (by simpa using h3)
        have HOE : Hid ((otherL LN P ++ [y]).length = LN.length + 1) := by show _ = _; rw [List.length_append, HOL.out]; rfl
        have HMM : Hid (∀ z, z ∈ otherL LN P ++ [y] ↔ z ∈ LN) := fun z => by
          rw [List.mem_append, other_mem HP.out, List.mem_singleton]
          exact ⟨fun h => by rcases h with h | rfl; exact h; exact HM0.out, fun h => .inl h⟩
        go_meet
        case rel => exact ⟨otherL LN P ++ [y], _, _, by rw [HOE.out], by rw [HOE.out]; omega, HMM, by rw [HOE.out]; exact HOB, BX2.out.below HA5.out, GR2.out.below HA5.out (Nat.le_refl _), NR2.out.below HA5.out (Nat.le_refl _), HB2.out.trans (HA5.out.mono hsz2)⟩
  case rest =>
  obtain ⟨O, oa, oc, rfl, hO13, HM, OR, BX, GR, NR, HB⟩ := hcut
  clear BX3 GR3 NR3 HB3 HO3 HA2 BX2 GR2 NR2 HB2 CO
  have HOP : Hid (notesP n LG.length (getG LG) O.length (getN' O)) := HNP.out.of (by omega) fun i hi => (same_mem HM.out (getN' O i)).1 ⟨i, hi, rfl⟩
  have HOF := Lib.hid (note_fit HOP.out)
  obtain ⟨C, hC⟩ : ∃ C, canonL (getN' LN) LN.length = C := ⟨_, rfl⟩
  have HC1 := Lib.hid hC
  have HC2 : Hid (canonL (getN' O) O.length = C) := by show _ = _; rw [← hC]; exact canon_same HOP.out.lone HNP.out.lone (same_mem HM.out)
  have HC3 : Hid (canonL (getN' C) C.length = C) := by show _ = _; rw [← hC]; exact canon_canon HNP.out.lone
  have HCL : Hid (C.length ≤ LN.length) := by show _ ≤ _; rw [← hC]; exact canon_len _ _
  have HCP : Hid (notesP n LG.length (getG LG) C.length (getN' C)) := HNP.out.of (by have := HCL.out; have := HN12.out; omega) fun i hi => by
    have h1 : getN' C i ∈ canonL (getN' LN) LN.length := by rw [hC]; exact mem_getN.1 ⟨i, hi, rfl⟩
    exact (canon_all HNP.out.lone _).1 h1
  have HCF := Lib.hid (note_fit HCP.out)
  have hCn : C.length ≤ 1048576 := by have := HCL.out; have := HN12.out; omega
  obtain ⟨XG, hXG⟩ : ∃ XG, applyN (getG LG) C C.length = XG := ⟨_, rfl⟩
  have HZ0 : Hid (∀ i : Nat, serialN (getN' LN) i LN.length = 0 → XG i = getG LG i) := fun i h => by rw [← hXG, ← hC]; exact apply_none HNP.out i h
  have CA1 : Hid (∀ wa, GameRow wa (.slice a3 LG.length c3) LG.length (getG LG) → NoteRow wa (.slice a6 LN.length c6) LN.length (getN' LN) → Calls Try.prog 8 #[.int .i64 n, .slice a3 LG.length c3, .slice a6 LN.length c6] wa fun e w' => ∃ vv xs, e = .returned (.tuple #[vv, .bool true]) ∧ w'.ownsRow wa.heap.size 37 5 vv LG.length xs ∧ RecCells 5 LG.length xs (fun i => (XG i).cells) ∧ Below wa.heap.size wa w') := fun wa h1 h2 =>
    (applyNotes_impl n _ LG.length (getG LG) _ LN.length (getN' LN) true wa HFIT.out ⟨fun _ => HNP.out, fun _ => rfl⟩ h1 h2).mono fun e w' h => by
      rcases h with ⟨h, _⟩ | ⟨_, h⟩
      · cases h
      · rw [hC, hXG] at h; exact h
  have CA2 : Hid (∀ wa, GameRow wa (.slice a3 LG.length c3) LG.length (getG LG) → NoteRow wa (.slice oa O.length oc) O.length (getN' O) → Calls Try.prog 8 #[.int .i64 n, .slice a3 LG.length c3, .slice oa O.length oc] wa fun e w' => ∃ vv xs, e = .returned (.tuple #[vv, .bool true]) ∧ w'.ownsRow wa.heap.size 37 5 vv LG.length xs ∧ RecCells 5 LG.length xs (fun i => (XG i).cells) ∧ Below wa.heap.size wa w') := fun wa h1 h2 =>
    (applyNotes_impl n _ LG.length (getG LG) _ O.length (getN' O) true wa HOF.out ⟨fun _ => HOP.out, fun _ => rfl⟩ h1 h2).mono fun e w' h => by
      rcases h with ⟨h, _⟩ | ⟨_, h⟩
      · cases h
      · rw [HC2.out, hXG] at h; exact h
  have CA3 : Hid (∀ cv wa, GameRow wa (.slice a3 LG.length c3) LG.length (getG LG) → NoteRow wa cv C.length (getN' C) → Calls Try.prog 8 #[.int .i64 n, .slice a3 LG.length c3, cv] wa fun e w' => ∃ vv xs, e = .returned (.tuple #[vv, .bool true]) ∧ w'.ownsRow wa.heap.size 37 5 vv LG.length xs ∧ RecCells 5 LG.length xs (fun i => (XG i).cells) ∧ Below wa.heap.size wa w') := fun cv wa h1 h2 =>
    (applyNotes_impl n _ LG.length (getG LG) _ C.length (getN' C) true wa HCF.out ⟨fun _ => HCP.out, fun _ => rfl⟩ h1 h2).mono fun e w' h => by
      rcases h with ⟨h, _⟩ | ⟨_, h⟩
      · cases h
      · rw [HC3.out, hXG] at h; exact h
  have CN1 : Hid (∀ wa, NoteRow wa (.slice a6 LN.length c6) LN.length (getN' LN) → Calls Try.prog 9 #[.slice a6 LN.length c6] wa (NotesL wa C)) := fun wa h => by rw [← hC]; exact canonNotes_impl _ LN.length (getN' LN) wa HFIT.out h (by have := HN12.out; omega)
  have CN2 : Hid (∀ wa, NoteRow wa (.slice oa O.length oc) O.length (getN' O) → Calls Try.prog 9 #[.slice oa O.length oc] wa (NotesL wa C)) := fun wa h => by rw [← HC2.out]; exact canonNotes_impl _ O.length (getN' O) wa HOF.out h (by omega)
  have CSN := Lib.hid (fun v v' wa h h' => sameNotes_impl v v' C.length C.length (getN' C) (getN' C) true wa ⟨fun _ => ⟨rfl, fun _ _ => rfl⟩, fun _ => rfl⟩ h h')
  have CS := Lib.hid (fun (i : Int) wa h => serialOf_impl (.slice a6 LN.length c6) LN.length (getN' LN) i wa h)
  clear hC hXG
  have hG64 : LG.length ≤ 9223372036854775807 := by omega
  have d6 := BX.out.2 6 _ rfl
  go_wp2_with fail
  refine (CA1.out _ GR.out NR.out).mono ?_
  rintro e w4 ⟨xv, xs, rfl, hox, hcx, b4⟩
  obtain ⟨x1, y1, e8⟩ := owns_form hox
  subst e8
  have XR4 := Lib.hid (show GameRow w4 (.slice x1 LG.length y1) LG.length XG from RecRow.of_owns hox hG64 hcx (fun _ _ => Nat.le_refl _))
  have BX4 := Lib.hid (BX.out.below b4)
  have GR4 := Lib.hid (GR.out.below b4 (Nat.le_refl _))
  have NR4 := Lib.hid (NR.out.below b4 (Nat.le_refl _))
  have OR4 := Lib.hid (OR.out.below b4 (Nat.le_refl _))
  have HB4 := Lib.hid (HB.out.trans (b4.mono HB.out.size))
  clear hox hcx d6 BX GR NR OR HB b4 CA1
  have d6 := BX4.out.2 6 _ rfl
  go_wp2_with fail
  refine (CA2.out _ GR4.out OR4.out).mono ?_
  rintro e w5 ⟨yv, ys, rfl, hoy, hcy, b5⟩
  obtain ⟨x2, y2, e8⟩ := owns_form hoy
  subst e8
  have YR5 := Lib.hid (show GameRow w5 (.slice x2 LG.length y2) LG.length XG from RecRow.of_owns hoy hG64 hcy (fun _ _ => Nat.le_refl _))
  have BX5 := Lib.hid (BX4.out.below b5)
  have GR5 := Lib.hid (GR4.out.below b5 (Nat.le_refl _))
  have NR5 := Lib.hid (NR4.out.below b5 (Nat.le_refl _))
  have OR5 := Lib.hid (OR4.out.below b5 (Nat.le_refl _))
  have XR5 := Lib.hid (XR4.out.below b5 (Nat.le_refl _))
  have HB5 := Lib.hid (HB4.out.trans (b5.mono HB4.out.size))
  clear hoy hcy d6 BX4 GR4 NR4 OR4 XR4 HB4 b5 CA2
  obtain ⟨S, HSd⟩ : ∃ S : World → Prop, S = fun w' => BoxN w' D [.slice a1 n c1, .int .i64 b.win, .int .i64 1, .int .i64 0, .slice a2 b.lad.length c2, .bool b.ag, .slice a3 LG.length c3, .slice a4 b.fair.length c4, .slice a5 b.taken.length c5] ∧ GameRow w' (.slice a3 LG.length c3) LG.length (getG LG) ∧ NoteRow w' (.slice a6 LN.length c6) LN.length (getN' LN) ∧ NoteRow w' (.slice oa O.length oc) O.length (getN' O) ∧ GameRow w' (.slice x1 LG.length y1) LG.length XG ∧ GameRow w' (.slice x2 LG.length y2) LG.length XG ∧ Below w.heap.size w w' := ⟨_, rfl⟩
  have KS : Hid (∀ wa wb, S wa → Below wa.heap.size wa wb → S wb) := by subst HSd; exact fun wa wb ⟨bx, gr, nr, orr, xr, yr, hb⟩ b0 => ⟨bx.below b0, gr.below b0 (Nat.le_refl _), nr.below b0 (Nat.le_refl _), orr.below b0 (Nat.le_refl _), xr.below b0 (Nat.le_refl _), yr.below b0 (Nat.le_refl _), hb.trans (b0.mono hb.size)⟩
  have OS : Hid (∀ wa, S wa → BoxN wa D [.slice a1 n c1, .int .i64 b.win, .int .i64 1, .int .i64 0, .slice a2 b.lad.length c2, .bool b.ag, .slice a3 LG.length c3, .slice a4 b.fair.length c4, .slice a5 b.taken.length c5] ∧ GameRow wa (.slice a3 LG.length c3) LG.length (getG LG) ∧ NoteRow wa (.slice a6 LN.length c6) LN.length (getN' LN) ∧ NoteRow wa (.slice oa O.length oc) O.length (getN' O) ∧ GameRow wa (.slice x1 LG.length y1) LG.length XG ∧ GameRow wa (.slice x2 LG.length y2) LG.length XG ∧ Below w.heap.size w wa) := by subst HSd; exact fun wa h => h
  have KS0 : Hid (S w5.drew) := by subst HSd; exact ⟨BX5.out.below (Below.refl _ _).drew, GR5.out.below (Below.refl _ _).drew (Nat.le_refl _), NR5.out.below (Below.refl _ _).drew (Nat.le_refl _), OR5.out.below (Below.refl _ _).drew (Nat.le_refl _), XR5.out.below (Below.refl _ _).drew (Nat.le_refl _), YR5.out.below (Below.refl _ _).drew (Nat.le_refl _), HB5.out.drew⟩
  clear HSd
  go_wp2_with fail
  refine wp_region_held_drew (S := S) (by kernel_rfl) ?_ (fun hHeld => ?_)
  · exact KS0.out
  clear KS0 
  refine wpAnyH_take (i := 0) (v := ?_) rfl (by kernel_rfl) (by kernel_rfl) (by kernel_rfl) (fun _ _ _ h => h) (Or.inl ⟨by rfl, ?_⟩) hHeld ?_
  rotate_left
  · (intro wa hSw; obtain ⟨bx, gr, nr, orr, xr, yr, hb⟩ := OS.out _ hSw; skip; go_simp; try with_reducible rfl)
  simp only [Act.put, List.getElem_toArray, List.getElem_cons_zero, List.setIfInBounds_toArray, List.set_cons_zero, List.set_cons_succ]
  refine wpAnyH_take (i := 1) (v := ?_) rfl (by kernel_rfl) (by kernel_rfl) (by kernel_rfl) (fun _ _ _ h => h) (Or.inl ⟨by rfl, ?_⟩) hHeld ?_
  rotate_left
  · (intro wa hSw; obtain ⟨bx, gr, nr, orr, xr, yr, hb⟩ := OS.out _ hSw; skip; go_simp; try with_reducible rfl)
  simp only [Act.put, List.getElem_toArray, List.getElem_cons_zero, List.getElem_cons_succ, List.setIfInBounds_toArray, List.set_cons_zero, List.set_cons_succ]
  refine wpAnyH_take (i := 2) (v := ?_) rfl (by kernel_rfl) (by kernel_rfl) (by kernel_rfl) (fun _ _ _ h => h) (Or.inl ⟨by rfl, ?_⟩) hHeld ?_
  rotate_left
  · (intro wa hSw; obtain ⟨bx, gr, nr, orr, xr, yr, hb⟩ := OS.out _ hSw; have d6 := bx.2 6 _ rfl; go_simp; try with_reducible rfl)
  simp only [Act.put, List.getElem_toArray, List.getElem_cons_zero, List.getElem_cons_succ, List.setIfInBounds_toArray, List.set_cons_zero, List.set_cons_succ]
  refine wpAnyH_take (i := 3) (v := ?_) rfl (by kernel_rfl) (by kernel_rfl) (by kernel_rfl) (fun _ _ _ h => h) (Or.inl ⟨by rfl, ?_⟩) hHeld ?_
  rotate_left
  · (intro wa hSw; obtain ⟨bx, gr, nr, orr, xr, yr, hb⟩ := OS.out _ hSw; skip; go_simp; try with_reducible rfl)
  simp only [Act.put, List.getElem_toArray, List.getElem_cons_zero, List.getElem_cons_succ, List.setIfInBounds_toArray, List.set_cons_zero, List.set_cons_succ]
  refine wpAnyH_ready (rs := [4]) (by kernel_rfl) (by simp) ?_
  refine AllReadyH.cons (o := _) rfl (fun K hK => ?_) AllReadyH.nil
  go_simp
  obtain ⟨bx, gr, nr, orr, xr, yr, hb⟩ := OS.out _ hHeld
  refine (CN1.out _ nr).mono ?_
  rintro e w101 ⟨cv, rfl, hoc, b101⟩
  clear bx gr nr orr xr yr hb
  have HOC := Lib.hid hoc
  clear hoc
  (try go_wp2_with fail)
  refine hK.out _ _ ?_ (fun hHeld101 => ?_)
  · exact KS.out _ _ hHeld b101
  clear hK K
  refine wpAnyH_ready (rs := [5]) (by kernel_rfl) (by simp) ?_
  refine AllReadyH.cons (o := _) rfl (fun K hK => ?_) AllReadyH.nil
  go_simp
  obtain ⟨bx, gr, nr, orr, xr, yr, hb⟩ := OS.out _ hHeld101
  refine (CA3.out _ _ gr (NoteRow.of_owns HOC.out (by omega) (notes_cells C))).mono ?_
  rintro e w102 ⟨zv, zs', rfl, hoz, hcz, b102⟩
  clear bx gr nr orr xr yr hb
  have HOZ := Lib.hid hoz
  have HCZ := Lib.hid hcz
  clear hoz hcz
  (try go_wp2_with fail)
  refine hK.out _ _ ?_ (fun hHeld102 => ?_)
  · exact KS.out _ _ hHeld101 b102
  clear hK K
  clear hHeld101
  refine wpAnyH_take (i := 6) (v := ?_) rfl (by kernel_rfl) (by kernel_rfl) (by kernel_rfl) (fun _ _ _ h => h) (Or.inl ⟨by rfl, ?_⟩) hHeld102 ?_
  rotate_left
  · (intro wa hSw; obtain ⟨bx, gr, nr, orr, xr, yr, hb⟩ := OS.out _ hSw; skip; go_simp; try with_reducible rfl)
  simp only [Act.put, List.getElem_toArray, List.getElem_cons_zero, List.getElem_cons_succ, List.setIfInBounds_toArray, List.set_cons_zero, List.set_cons_succ]
  refine wpAnyH_take (i := 7) (v := ?_) rfl (by kernel_rfl) (by kernel_rfl) (by kernel_rfl) (fun _ _ _ h => h) (Or.inl ⟨by rfl, ?_⟩) hHeld102 ?_
  rotate_left
  · (intro wa hSw; obtain ⟨bx, gr, nr, orr, xr, yr, hb⟩ := OS.out _ hSw; skip; go_simp; try with_reducible rfl)
  simp only [Act.put, List.getElem_toArray, List.getElem_cons_zero, List.getElem_cons_succ, List.setIfInBounds_toArray, List.set_cons_zero, List.set_cons_succ]
  refine wpAnyH_take (i := 8) (v := ?_) rfl (by kernel_rfl) (by kernel_rfl) (by kernel_rfl) (fun _ _ _ h => h) (Or.inl ⟨by rfl, ?_⟩) hHeld102 ?_
  rotate_left
  · (intro wa hSw; obtain ⟨bx, gr, nr, orr, xr, yr, hb⟩ := OS.out _ hSw; skip; go_simp; try with_reducible rfl)
  simp only [Act.put, List.getElem_toArray, List.getElem_cons_zero, List.getElem_cons_succ, List.setIfInBounds_toArray, List.set_cons_zero, List.set_cons_succ]
  refine wpAnyH_take (i := 9) (v := ?_) rfl (by kernel_rfl) (by kernel_rfl) (by kernel_rfl) (fun _ _ _ h => h) (Or.inl ⟨by rfl, ?_⟩) hHeld102 ?_
  rotate_left
  · (intro wa hSw; obtain ⟨bx, gr, nr, orr, xr, yr, hb⟩ := OS.out _ hSw; skip; go_simp; try with_reducible rfl)
  simp only [Act.put, List.getElem_toArray, List.getElem_cons_zero, List.getElem_cons_succ, List.setIfInBounds_toArray, List.set_cons_zero, List.set_cons_succ]
  refine wpAnyH_take (i := 10) (v := ?_) rfl (by kernel_rfl) (by kernel_rfl) (by kernel_rfl) (fun _ _ _ h => h) (Or.inl ⟨by rfl, ?_⟩) hHeld102 ?_
  rotate_left
  · (intro wa hSw; obtain ⟨bx, gr, nr, orr, xr, yr, hb⟩ := OS.out _ hSw; skip; go_simp; try with_reducible rfl)
  simp only [Act.put, List.getElem_toArray, List.getElem_cons_zero, List.getElem_cons_succ, List.setIfInBounds_toArray, List.set_cons_zero, List.set_cons_succ]
  refine wpAnyH_done (by kernel_rfl) ?_ _
  obtain ⟨bx, gr, nr, orr, xr, yr, hb⟩ := OS.out _ hHeld102
  clear KS OS hHeld hHeld102
  obtain ⟨x3, y3, e8⟩ := owns_form HOZ.out
  subst e8
  have ZR6 := Lib.hid (show GameRow w102 (.slice x3 LG.length y3) LG.length XG from RecRow.of_owns HOZ.out hG64 HCZ.out (fun _ _ => Nat.le_refl _))
  have BX6 := Lib.hid bx
  have GR6 := Lib.hid gr
  have NR6 := Lib.hid nr
  have OR6 := Lib.hid orr
  have XR6 := Lib.hid xr
  have YR6 := Lib.hid yr
  have HB6 := Lib.hid hb
  have d6 := BX6.out.2 6 _ rfl
  clear bx gr nr orr xr yr hb HOZ HCZ HOC CA3 b101 b102
  go_wp2_with fail
  refine (CN1.out _ NR6.out).mono ?_
  rintro e w7 ⟨v7, rfl, ho7, b7⟩
  have CR7 := Lib.hid (NoteRow.of_owns ho7 (by omega) (notes_cells C))
  have BX7 := Lib.hid (BX6.out.below b7)
  have GR7 := Lib.hid (GR6.out.below b7 (Nat.le_refl _))
  have NR7 := Lib.hid (NR6.out.below b7 (Nat.le_refl _))
  have OR7 := Lib.hid (OR6.out.below b7 (Nat.le_refl _))
  have XR7 := Lib.hid (XR6.out.below b7 (Nat.le_refl _))
  have YR7 := Lib.hid (YR6.out.below b7 (Nat.le_refl _))
  have ZR7 := Lib.hid (ZR6.out.below b7 (Nat.le_refl _))
  have HB7 := Lib.hid (HB6.out.trans (b7.mono HB6.out.size))
  clear ho7 d6 BX6 GR6 NR6 OR6 XR6 YR6 ZR6 HB6 b7 CN1
  go_wp2_with fail
  refine (CN2.out _ OR7.out).mono ?_
  rintro e w8 ⟨v8, rfl, ho8, b8⟩
  have CO8 := Lib.hid (NoteRow.of_owns ho8 (by omega) (notes_cells C))
  have CR8 := Lib.hid (CR7.out.below b8 (Nat.le_refl _))
  have BX8 := Lib.hid (BX7.out.below b8)
  have GR8 := Lib.hid (GR7.out.below b8 (Nat.le_refl _))
  have NR8 := Lib.hid (NR7.out.below b8 (Nat.le_refl _))
  have XR8 := Lib.hid (XR7.out.below b8 (Nat.le_refl _))
  have YR8 := Lib.hid (YR7.out.below b8 (Nat.le_refl _))
  have ZR8 := Lib.hid (ZR7.out.below b8 (Nat.le_refl _))
  have HB8 := Lib.hid (HB7.out.trans (b8.mono HB7.out.size))
  clear ho8 BX7 GR7 NR7 OR7 XR7 YR7 ZR7 HB7 CR7 b8 CN2
  go_wp2_with fail
  refine (CSN.out _ _ _ CR8.out CO8.out).mono ?_
  rintro e w9 ⟨rfl, b9⟩
  have BX9 := Lib.hid (BX8.out.below b9)
  have GR9 := Lib.hid (GR8.out.below b9 (Nat.le_refl _))
  have NR9 := Lib.hid (NR8.out.below b9 (Nat.le_refl _))
  have XR9 := Lib.hid (XR8.out.below b9 (Nat.le_refl _))
  have YR9 := Lib.hid (YR8.out.below b9 (Nat.le_refl _))
  have ZR9 := Lib.hid (ZR8.out.below b9 (Nat.le_refl _))
  have HB9 := Lib.hid (HB8.out.trans (b9.mono HB8.out.size))
  clear BX8 GR8 NR8 XR8 YR8 ZR8 HB8 CR8 CO8 b9 CSN
  have hG64i : (LG.length : Int) ≤ 9223372036854775807 := by omega
  go_wp2
  go_loopw [129] (fun iv wr => ∃ i : Nat, i ≤ LG.length ∧ iv = .int .i64 i ∧ Hid (BoxN wr D [.slice a1 n c1, .int .i64 b.win, .int .i64 1, .int .i64 0, .slice a2 b.lad.length c2, .bool b.ag, .slice a3 LG.length c3, .slice a4 b.fair.length c4, .slice a5 b.taken.length c5]) ∧ Hid (GameRow wr (.slice a3 LG.length c3) LG.length (getG LG)) ∧ Hid (NoteRow wr (.slice a6 LN.length c6) LN.length (getN' LN)) ∧ Hid (GameRow wr (.slice x1 LG.length y1) LG.length XG) ∧ Hid (GameRow wr (.slice x2 LG.length y2) LG.length XG) ∧ Hid (GameRow wr (.slice x3 LG.length y3) LG.length XG) ∧ Hid (Below w.heap.size w wr)) (fun iv _ => LG.length - (intOf iv).toNat)
  case atStart => exact ⟨0, Nat.zero_le _, rfl, BX9, GR9, NR9, XR9, YR9, ZR9, HB9⟩
  case round =>
    clear BX9 GR9 NR9 XR9 YR9 ZR9 HB9
    obtain ⟨i, hi, rfl, BX, GR, NR, XR, YR, ZR, HB⟩ := hrel
    by_cases hlt : i < LG.length
    · have hlt' : (i : Int) < LG.length := by omega
      obtain ⟨gb, go', rfl, hgc⟩ := game_form GR.out hlt
      obtain ⟨xb1, xo1, rfl, hxc1⟩ := game_form XR.out hlt
      obtain ⟨xb2, xo2, rfl, hxc2⟩ := game_form YR.out hlt
      obtain ⟨xb3, xo3, rfl, hxc3⟩ := game_form ZR.out hlt
      have HZi := Lib.hid (HZ0.out i)
      have CSi := Lib.hid (CS.out (i : Int))
      generalize serialN (getN' LN) (i : Int) LN.length = sv at *
      by_cases hz : sv = 0
      · have HE := Lib.hid (HZi.out hz)
        have q1 : (sv == 0) = true := beq_iff_eq.2 hz
        clear hz HZi
        obtain ⟨S, HSd⟩ : ∃ S : World → Prop, S = fun w' => BoxN w' D [.slice a1 n c1, .int .i64 b.win, .int .i64 1, .int .i64 0, .slice a2 b.lad.length c2, .bool b.ag, .slice (some ⟨gb, go', none⟩) LG.length c3, .slice a4 b.fair.length c4, .slice a5 b.taken.length c5] ∧ GameRow w' (.slice (some ⟨gb, go', none⟩) LG.length c3) LG.length (getG LG) ∧ NoteRow w' (.slice a6 LN.length c6) LN.length (getN' LN) ∧ GameRow w' (.slice (some ⟨xb1, xo1, none⟩) LG.length y1) LG.length XG ∧ GameRow w' (.slice (some ⟨xb2, xo2, none⟩) LG.length y2) LG.length XG ∧ GameRow w' (.slice (some ⟨xb3, xo3, none⟩) LG.length y3) LG.length XG ∧ Below w.heap.size w w' := ⟨_, rfl⟩
        have KS : Hid (∀ wa wb, S wa → Below wa.heap.size wa wb → S wb) := by subst HSd; exact fun wa wb ⟨bx, gr, nr, xr, yr, zr, hb⟩ b0 => ⟨bx.below b0, gr.below b0 (Nat.le_refl _), nr.below b0 (Nat.le_refl _), xr.below b0 (Nat.le_refl _), yr.below b0 (Nat.le_refl _), zr.below b0 (Nat.le_refl _), hb.trans (b0.mono hb.size)⟩
        have OS : Hid (∀ wa, S wa → BoxN wa D [.slice a1 n c1, .int .i64 b.win, .int .i64 1, .int .i64 0, .slice a2 b.lad.length c2, .bool b.ag, .slice (some ⟨gb, go', none⟩) LG.length c3, .slice a4 b.fair.length c4, .slice a5 b.taken.length c5] ∧ GameRow wa (.slice (some ⟨gb, go', none⟩) LG.length c3) LG.length (getG LG) ∧ NoteRow wa (.slice a6 LN.length c6) LN.length (getN' LN) ∧ GameRow wa (.slice (some ⟨xb1, xo1, none⟩) LG.length y1) LG.length XG ∧ GameRow wa (.slice (some ⟨xb2, xo2, none⟩) LG.length y2) LG.length XG ∧ GameRow wa (.slice (some ⟨xb3, xo3, none⟩) LG.length y3) LG.length XG ∧ Below w.heap.size w wa) := by subst HSd; exact fun wa h => h
        have KS0 : Hid (S wr.drew) := by subst HSd; exact ⟨BX.out.below (Below.refl _ _).drew, GR.out.below (Below.refl _ _).drew (Nat.le_refl _), NR.out.below (Below.refl _ _).drew (Nat.le_refl _), XR.out.below (Below.refl _ _).drew (Nat.le_refl _), YR.out.below (Below.refl _ _).drew (Nat.le_refl _), ZR.out.below (Below.refl _ _).drew (Nat.le_refl _), HB.out.drew⟩
        clear HSd
        go_wp2_with fail
        refine wp_region_held_drew (S := S) (by kernel_rfl) ?_ (fun hHeld => ?_)
        · exact KS0.out
        clear KS0 
        refine wpAnyH_take (i := 0) (v := ?_) rfl (by kernel_rfl) (by kernel_rfl) (by kernel_rfl) (fun _ _ _ h => h) (Or.inl ⟨by rfl, ?_⟩) hHeld ?_
        rotate_left
        · (intro wa hSw; obtain ⟨bx, gr, nr, xr, yr, zr, hb⟩ := OS.out _ hSw; skip; go_simp; try with_reducible rfl)
        simp only [Act.put, List.getElem_toArray, List.getElem_cons_zero, List.setIfInBounds_toArray, List.set_cons_zero, List.set_cons_succ]
        refine wpAnyH_take (i := 1) (v := ?_) rfl (by kernel_rfl) (by kernel_rfl) (by kernel_rfl) (fun _ _ _ h => h) (Or.inl ⟨by rfl, ?_⟩) hHeld ?_
        rotate_left
        · (intro wa hSw; obtain ⟨bx, gr, nr, xr, yr, zr, hb⟩ := OS.out _ hSw; skip; go_simp; try with_reducible rfl)
        simp only [Act.put, List.getElem_toArray, List.getElem_cons_zero, List.getElem_cons_succ, List.setIfInBounds_toArray, List.set_cons_zero, List.set_cons_succ]
        refine wpAnyH_take (i := 2) (v := ?_) rfl (by kernel_rfl) (by kernel_rfl) (by kernel_rfl) (fun _ _ _ h => h) (Or.inl ⟨by rfl, ?_⟩) hHeld ?_
        rotate_left
        · (intro wa hSw; obtain ⟨bx, gr, nr, xr, yr, zr, hb⟩ := OS.out _ hSw; skip; go_simp; try with_reducible rfl)
        simp only [Act.put, List.getElem_toArray, List.getElem_cons_zero, List.getElem_cons_succ, List.setIfInBounds_toArray, List.set_cons_zero, List.set_cons_succ]
        refine wpAnyH_take (i := 3) (v := ?_) rfl (by kernel_rfl) (by kernel_rfl) (by kernel_rfl) (fun _ _ _ h => h) (Or.inl ⟨by rfl, ?_⟩) hHeld ?_
        rotate_left
        · (intro wa hSw; obtain ⟨bx, gr, nr, xr, yr, zr, hb⟩ := OS.out _ hSw; obtain ⟨k0, k1, k2, k3, k4⟩ := game_cells (game_at xr hlt); obtain ⟨l0, l1, l2, l3, l4⟩ := game_cells (game_at yr hlt); obtain ⟨m0, m1, m2, m3, m4⟩ := game_cells (game_at zr hlt); have gg := game_at gr hlt; rw [← HE.out] at gg; obtain ⟨n0, n1, n2, n3, n4⟩ := game_cells gg; go_simp; try with_reducible rfl)
        simp only [Act.put, List.getElem_toArray, List.getElem_cons_zero, List.getElem_cons_succ, List.setIfInBounds_toArray, List.set_cons_zero, List.set_cons_succ]
        refine wpAnyH_take (i := 4) (v := ?_) rfl (by kernel_rfl) (by kernel_rfl) (by kernel_rfl) (fun _ _ _ h => h) (Or.inl ⟨by rfl, ?_⟩) hHeld ?_
        rotate_left
        · (intro wa hSw; obtain ⟨bx, gr, nr, xr, yr, zr, hb⟩ := OS.out _ hSw; skip; go_simp; try with_reducible rfl)
        simp only [Act.put, List.getElem_toArray, List.getElem_cons_zero, List.getElem_cons_succ, List.setIfInBounds_toArray, List.set_cons_zero, List.set_cons_succ]
        refine wpAnyH_take (i := 5) (v := ?_) rfl (by kernel_rfl) (by kernel_rfl) (by kernel_rfl) (fun _ _ _ h => h) (Or.inl ⟨by rfl, ?_⟩) hHeld ?_
        rotate_left
        · (intro wa hSw; obtain ⟨bx, gr, nr, xr, yr, zr, hb⟩ := OS.out _ hSw; skip; go_simp; try with_reducible rfl)
        simp only [Act.put, List.getElem_toArray, List.getElem_cons_zero, List.getElem_cons_succ, List.setIfInBounds_toArray, List.set_cons_zero, List.set_cons_succ]
        refine wpAnyH_take (i := 6) (v := ?_) rfl (by kernel_rfl) (by kernel_rfl) (by kernel_rfl) (fun _ _ _ h => h) (Or.inl ⟨by rfl, ?_⟩) hHeld ?_
        rotate_left
        · (intro wa hSw; obtain ⟨bx, gr, nr, xr, yr, zr, hb⟩ := OS.out _ hSw; skip; go_simp; try with_reducible rfl)
        simp only [Act.put, List.getElem_toArray, List.getElem_cons_zero, List.getElem_cons_succ, List.setIfInBounds_toArray, List.set_cons_zero, List.set_cons_succ]
        refine wpAnyH_take (i := 7) (v := ?_) rfl (by kernel_rfl) (by kernel_rfl) (by kernel_rfl) (fun _ _ _ h => h) (Or.inl ⟨by rfl, ?_⟩) hHeld ?_
        rotate_left
        · (intro wa hSw; obtain ⟨bx, gr, nr, xr, yr, zr, hb⟩ := OS.out _ hSw; obtain ⟨k0, k1, k2, k3, k4⟩ := game_cells (game_at xr hlt); obtain ⟨l0, l1, l2, l3, l4⟩ := game_cells (game_at yr hlt); obtain ⟨m0, m1, m2, m3, m4⟩ := game_cells (game_at zr hlt); have gg := game_at gr hlt; rw [← HE.out] at gg; obtain ⟨n0, n1, n2, n3, n4⟩ := game_cells gg; go_simp; try with_reducible rfl)
        simp only [Act.put, List.getElem_toArray, List.getElem_cons_zero, List.getElem_cons_succ, List.setIfInBounds_toArray, List.set_cons_zero, List.set_cons_succ]
        refine wpAnyH_take (i := 8) (v := ?_) rfl (by kernel_rfl) (by kernel_rfl) (by kernel_rfl) (fun _ _ _ h => h) (Or.inl ⟨by rfl, ?_⟩) hHeld ?_
        rotate_left
        · (intro wa hSw; obtain ⟨bx, gr, nr, xr, yr, zr, hb⟩ := OS.out _ hSw; skip; go_simp; try with_reducible rfl)
        simp only [Act.put, List.getElem_toArray, List.getElem_cons_zero, List.getElem_cons_succ, List.setIfInBounds_toArray, List.set_cons_zero, List.set_cons_succ]
        refine wpAnyH_take (i := 9) (v := ?_) rfl (by kernel_rfl) (by kernel_rfl) (by kernel_rfl) (fun _ _ _ h => h) (Or.inl ⟨by rfl, ?_⟩) hHeld ?_
        rotate_left
        · (intro wa hSw; obtain ⟨bx, gr, nr, xr, yr, zr, hb⟩ := OS.out _ hSw; skip; go_simp; try with_reducible rfl)
        simp only [Act.put, List.getElem_toArray, List.getElem_cons_zero, List.getElem_cons_succ, List.setIfInBounds_toArray, List.set_cons_zero, List.set_cons_succ]
        refine wpAnyH_take (i := 10) (v := ?_) rfl (by kernel_rfl) (by kernel_rfl) (by kernel_rfl) (fun _ _ _ h => h) (Or.inl ⟨by rfl, ?_⟩) hHeld ?_
        rotate_left
        · (intro wa hSw; obtain ⟨bx, gr, nr, xr, yr, zr, hb⟩ := OS.out _ hSw; skip; go_simp; try with_reducible rfl)
        simp only [Act.put, List.getElem_toArray, List.getElem_cons_zero, List.getElem_cons_succ, List.setIfInBounds_toArray, List.set_cons_zero, List.set_cons_succ]
        refine wpAnyH_take (i := 11) (v := ?_) rfl (by kernel_rfl) (by kernel_rfl) (by kernel_rfl) (fun _ _ _ h => h) (Or.inl ⟨by rfl, ?_⟩) hHeld ?_
        rotate_left
        · (intro wa hSw; obtain ⟨bx, gr, nr, xr, yr, zr, hb⟩ := OS.out _ hSw; skip; go_simp; try with_reducible rfl)
        simp only [Act.put, List.getElem_toArray, List.getElem_cons_zero, List.getElem_cons_succ, List.setIfInBounds_toArray, List.set_cons_zero, List.set_cons_succ]
        refine wpAnyH_take (i := 12) (v := ?_) rfl (by kernel_rfl) (by kernel_rfl) (by kernel_rfl) (fun _ _ _ h => h) (Or.inl ⟨by rfl, ?_⟩) hHeld ?_
        rotate_left
        · (intro wa hSw; obtain ⟨bx, gr, nr, xr, yr, zr, hb⟩ := OS.out _ hSw; skip; go_simp; try with_reducible rfl)
        simp only [Act.put, List.getElem_toArray, List.getElem_cons_zero, List.getElem_cons_succ, List.setIfInBounds_toArray, List.set_cons_zero, List.set_cons_succ]
        refine wpAnyH_take (i := 13) (v := ?_) rfl (by kernel_rfl) (by kernel_rfl) (by kernel_rfl) (fun _ _ _ h => h) (Or.inl ⟨by rfl, ?_⟩) hHeld ?_
        rotate_left
        · (intro wa hSw; obtain ⟨bx, gr, nr, xr, yr, zr, hb⟩ := OS.out _ hSw; obtain ⟨k0, k1, k2, k3, k4⟩ := game_cells (game_at xr hlt); obtain ⟨l0, l1, l2, l3, l4⟩ := game_cells (game_at yr hlt); obtain ⟨m0, m1, m2, m3, m4⟩ := game_cells (game_at zr hlt); have gg := game_at gr hlt; rw [← HE.out] at gg; obtain ⟨n0, n1, n2, n3, n4⟩ := game_cells gg; go_simp; try with_reducible rfl)
        simp only [Act.put, List.getElem_toArray, List.getElem_cons_zero, List.getElem_cons_succ, List.setIfInBounds_toArray, List.set_cons_zero, List.set_cons_succ]
        refine wpAnyH_take (i := 14) (v := ?_) rfl (by kernel_rfl) (by kernel_rfl) (by kernel_rfl) (fun _ _ _ h => h) (Or.inl ⟨by rfl, ?_⟩) hHeld ?_
        rotate_left
        · (intro wa hSw; obtain ⟨bx, gr, nr, xr, yr, zr, hb⟩ := OS.out _ hSw; skip; go_simp; try with_reducible rfl)
        simp only [Act.put, List.getElem_toArray, List.getElem_cons_zero, List.getElem_cons_succ, List.setIfInBounds_toArray, List.set_cons_zero, List.set_cons_succ]
        refine wpAnyH_take (i := 15) (v := ?_) rfl (by kernel_rfl) (by kernel_rfl) (by kernel_rfl) (fun _ _ _ h => h) (Or.inl ⟨by rfl, ?_⟩) hHeld ?_
        rotate_left
        · (intro wa hSw; obtain ⟨bx, gr, nr, xr, yr, zr, hb⟩ := OS.out _ hSw; skip; go_simp; try with_reducible rfl)
        simp only [Act.put, List.getElem_toArray, List.getElem_cons_zero, List.getElem_cons_succ, List.setIfInBounds_toArray, List.set_cons_zero, List.set_cons_succ]
        refine wpAnyH_take (i := 16) (v := ?_) rfl (by kernel_rfl) (by kernel_rfl) (by kernel_rfl) (fun _ _ _ h => h) (Or.inl ⟨by rfl, ?_⟩) hHeld ?_
        rotate_left
        · (intro wa hSw; obtain ⟨bx, gr, nr, xr, yr, zr, hb⟩ := OS.out _ hSw; skip; go_simp; try with_reducible rfl)
        simp only [Act.put, List.getElem_toArray, List.getElem_cons_zero, List.getElem_cons_succ, List.setIfInBounds_toArray, List.set_cons_zero, List.set_cons_succ]
        refine wpAnyH_take (i := 17) (v := ?_) rfl (by kernel_rfl) (by kernel_rfl) (by kernel_rfl) (fun _ _ _ h => h) (Or.inl ⟨by rfl, ?_⟩) hHeld ?_
        rotate_left
        · (intro wa hSw; obtain ⟨bx, gr, nr, xr, yr, zr, hb⟩ := OS.out _ hSw; obtain ⟨k0, k1, k2, k3, k4⟩ := game_cells (game_at xr hlt); obtain ⟨l0, l1, l2, l3, l4⟩ := game_cells (game_at yr hlt); obtain ⟨m0, m1, m2, m3, m4⟩ := game_cells (game_at zr hlt); have gg := game_at gr hlt; rw [← HE.out] at gg; obtain ⟨n0, n1, n2, n3, n4⟩ := game_cells gg; go_simp; try with_reducible rfl)
        simp only [Act.put, List.getElem_toArray, List.getElem_cons_zero, List.getElem_cons_succ, List.setIfInBounds_toArray, List.set_cons_zero, List.set_cons_succ]
        refine wpAnyH_take (i := 18) (v := ?_) rfl (by kernel_rfl) (by kernel_rfl) (by kernel_rfl) (fun _ _ _ h => h) (Or.inl ⟨by rfl, ?_⟩) hHeld ?_
        rotate_left
        · (intro wa hSw; obtain ⟨bx, gr, nr, xr, yr, zr, hb⟩ := OS.out _ hSw; skip; go_simp; try with_reducible rfl)
        simp only [Act.put, List.getElem_toArray, List.getElem_cons_zero, List.getElem_cons_succ, List.setIfInBounds_toArray, List.set_cons_zero, List.set_cons_succ]
        refine wpAnyH_take (i := 19) (v := ?_) rfl (by kernel_rfl) (by kernel_rfl) (by kernel_rfl) (fun _ _ _ h => h) (Or.inl ⟨by rfl, ?_⟩) hHeld ?_
        rotate_left
        · (intro wa hSw; obtain ⟨bx, gr, nr, xr, yr, zr, hb⟩ := OS.out _ hSw; skip; go_simp; try with_reducible rfl)
        simp only [Act.put, List.getElem_toArray, List.getElem_cons_zero, List.getElem_cons_succ, List.setIfInBounds_toArray, List.set_cons_zero, List.set_cons_succ]
        refine wpAnyH_take (i := 20) (v := ?_) rfl (by kernel_rfl) (by kernel_rfl) (by kernel_rfl) (fun _ _ _ h => h) (Or.inl ⟨by rfl, ?_⟩) hHeld ?_
        rotate_left
        · (intro wa hSw; obtain ⟨bx, gr, nr, xr, yr, zr, hb⟩ := OS.out _ hSw; skip; go_simp; try with_reducible rfl)
        simp only [Act.put, List.getElem_toArray, List.getElem_cons_zero, List.getElem_cons_succ, List.setIfInBounds_toArray, List.set_cons_zero, List.set_cons_succ]
        refine wpAnyH_take (i := 21) (v := ?_) rfl (by kernel_rfl) (by kernel_rfl) (by kernel_rfl) (fun _ _ _ h => h) (Or.inl ⟨by rfl, ?_⟩) hHeld ?_
        rotate_left
        · (intro wa hSw; obtain ⟨bx, gr, nr, xr, yr, zr, hb⟩ := OS.out _ hSw; skip; go_simp; try with_reducible rfl)
        simp only [Act.put, List.getElem_toArray, List.getElem_cons_zero, List.getElem_cons_succ, List.setIfInBounds_toArray, List.set_cons_zero, List.set_cons_succ]
        refine wpAnyH_take (i := 22) (v := ?_) rfl (by kernel_rfl) (by kernel_rfl) (by kernel_rfl) (fun _ _ _ h => h) (Or.inl ⟨by rfl, ?_⟩) hHeld ?_
        rotate_left
        · (intro wa hSw; obtain ⟨bx, gr, nr, xr, yr, zr, hb⟩ := OS.out _ hSw; skip; go_simp; try with_reducible rfl)
        simp only [Act.put, List.getElem_toArray, List.getElem_cons_zero, List.getElem_cons_succ, List.setIfInBounds_toArray, List.set_cons_zero, List.set_cons_succ]
        refine wpAnyH_ready (rs := [23]) (by kernel_rfl) (by simp) ?_
        refine AllReadyH.cons (o := _) rfl (fun K hK => ?_) AllReadyH.nil
        go_simp
        obtain ⟨bx, gr, nr, xr, yr, zr, hb⟩ := OS.out _ hHeld
        refine (CSi.out _ nr).mono ?_
        rintro e w101 ⟨rfl, b101⟩
        clear bx gr nr xr yr zr hb
        (try go_wp2_with fail)
        refine hK.out _ _ ?_ (fun hHeld101 => ?_)
        · exact KS.out _ _ hHeld b101
        clear hK K
        refine wpAnyH_take (i := 24) (v := ?_) rfl (by kernel_rfl) (by kernel_rfl) (by kernel_rfl) (fun _ _ _ h => h) (Or.inl ⟨by rfl, ?_⟩) hHeld101 ?_
        rotate_left
        · (intro wa hSw; obtain ⟨bx, gr, nr, xr, yr, zr, hb⟩ := OS.out _ hSw; skip; go_simp; try with_reducible rfl)
        simp only [Act.put, List.getElem_toArray, List.getElem_cons_zero, List.getElem_cons_succ, List.setIfInBounds_toArray, List.set_cons_zero, List.set_cons_succ]
        refine wpAnyH_take (i := 25) (v := ?_) rfl (by kernel_rfl) (by kernel_rfl) (by kernel_rfl) (fun _ _ _ h => h) (Or.inl ⟨by rfl, ?_⟩) hHeld101 ?_
        rotate_left
        · (intro wa hSw; obtain ⟨bx, gr, nr, xr, yr, zr, hb⟩ := OS.out _ hSw; skip; go_simp; try with_reducible rfl)
        simp only [Act.put, List.getElem_toArray, List.getElem_cons_zero, List.getElem_cons_succ, List.setIfInBounds_toArray, List.set_cons_zero, List.set_cons_succ]
        refine wpAnyH_take (i := 26) (v := ?_) rfl (by kernel_rfl) (by kernel_rfl) (by kernel_rfl) (fun _ _ _ h => h) (Or.inl ⟨by rfl, ?_⟩) hHeld101 ?_
        rotate_left
        · (intro wa hSw; obtain ⟨bx, gr, nr, xr, yr, zr, hb⟩ := OS.out _ hSw; skip; go_simp; try with_reducible rfl)
        simp only [Act.put, List.getElem_toArray, List.getElem_cons_zero, List.getElem_cons_succ, List.setIfInBounds_toArray, List.set_cons_zero, List.set_cons_succ]
        refine wpAnyH_take (i := 27) (v := ?_) rfl (by kernel_rfl) (by kernel_rfl) (by kernel_rfl) (fun _ _ _ h => h) (Or.inl ⟨by rfl, ?_⟩) hHeld101 ?_
        rotate_left
        · (intro wa hSw; obtain ⟨bx, gr, nr, xr, yr, zr, hb⟩ := OS.out _ hSw; skip; go_simp; try with_reducible rfl)
        simp only [Act.put, List.getElem_toArray, List.getElem_cons_zero, List.getElem_cons_succ, List.setIfInBounds_toArray, List.set_cons_zero, List.set_cons_succ]
        refine wpAnyH_take (i := 28) (v := ?_) rfl (by kernel_rfl) (by kernel_rfl) (by kernel_rfl) (fun _ _ _ h => h) (Or.inl ⟨by rfl, ?_⟩) hHeld101 ?_
        rotate_left
        · (intro wa hSw; obtain ⟨bx, gr, nr, xr, yr, zr, hb⟩ := OS.out _ hSw; skip; go_simp; try with_reducible rfl)
        simp only [Act.put, List.getElem_toArray, List.getElem_cons_zero, List.getElem_cons_succ, List.setIfInBounds_toArray, List.set_cons_zero, List.set_cons_succ]
        refine wpAnyH_take (i := 29) (v := ?_) rfl (by kernel_rfl) (by kernel_rfl) (by kernel_rfl) (fun _ _ _ h => h) (Or.inl ⟨by rfl, ?_⟩) hHeld101 ?_
        rotate_left
        · (intro wa hSw; obtain ⟨bx, gr, nr, xr, yr, zr, hb⟩ := OS.out _ hSw; obtain ⟨k0, k1, k2, k3, k4⟩ := game_cells (game_at xr hlt); obtain ⟨l0, l1, l2, l3, l4⟩ := game_cells (game_at yr hlt); obtain ⟨m0, m1, m2, m3, m4⟩ := game_cells (game_at zr hlt); have gg := game_at gr hlt; rw [← HE.out] at gg; obtain ⟨n0, n1, n2, n3, n4⟩ := game_cells gg; go_simp; try with_reducible rfl)
        simp only [Act.put, List.getElem_toArray, List.getElem_cons_zero, List.getElem_cons_succ, List.setIfInBounds_toArray, List.set_cons_zero, List.set_cons_succ]
        refine wpAnyH_take (i := 30) (v := ?_) rfl (by kernel_rfl) (by kernel_rfl) (by kernel_rfl) (fun _ _ _ h => h) (Or.inl ⟨by rfl, ?_⟩) hHeld101 ?_
        rotate_left
        · (intro wa hSw; obtain ⟨bx, gr, nr, xr, yr, zr, hb⟩ := OS.out _ hSw; skip; go_simp; try with_reducible rfl)
        simp only [Act.put, List.getElem_toArray, List.getElem_cons_zero, List.getElem_cons_succ, List.setIfInBounds_toArray, List.set_cons_zero, List.set_cons_succ]
        refine wpAnyH_take (i := 31) (v := ?_) rfl (by kernel_rfl) (by kernel_rfl) (by kernel_rfl) (fun _ _ _ h => h) (Or.inl ⟨by rfl, ?_⟩) hHeld101 ?_
        rotate_left
        · (intro wa hSw; obtain ⟨bx, gr, nr, xr, yr, zr, hb⟩ := OS.out _ hSw; have d6 := bx.2 6 _ rfl; go_simp; try with_reducible rfl)
        simp only [Act.put, List.getElem_toArray, List.getElem_cons_zero, List.getElem_cons_succ, List.setIfInBounds_toArray, List.set_cons_zero, List.set_cons_succ]
        refine wpAnyH_take (i := 32) (v := ?_) rfl (by kernel_rfl) (by kernel_rfl) (by kernel_rfl) (fun _ _ _ h => h) (Or.inl ⟨by rfl, ?_⟩) hHeld101 ?_
        rotate_left
        · (intro wa hSw; obtain ⟨bx, gr, nr, xr, yr, zr, hb⟩ := OS.out _ hSw; skip; go_simp; try with_reducible rfl)
        simp only [Act.put, List.getElem_toArray, List.getElem_cons_zero, List.getElem_cons_succ, List.setIfInBounds_toArray, List.set_cons_zero, List.set_cons_succ]
        refine wpAnyH_take (i := 33) (v := ?_) rfl (by kernel_rfl) (by kernel_rfl) (by kernel_rfl) (fun _ _ _ h => h) (Or.inl ⟨by rfl, ?_⟩) hHeld101 ?_
        rotate_left
        · (intro wa hSw; obtain ⟨bx, gr, nr, xr, yr, zr, hb⟩ := OS.out _ hSw; skip; go_simp; try with_reducible rfl)
        simp only [Act.put, List.getElem_toArray, List.getElem_cons_zero, List.getElem_cons_succ, List.setIfInBounds_toArray, List.set_cons_zero, List.set_cons_succ]
        refine wpAnyH_take (i := 34) (v := ?_) rfl (by kernel_rfl) (by kernel_rfl) (by kernel_rfl) (fun _ _ _ h => h) (Or.inl ⟨by rfl, ?_⟩) hHeld101 ?_
        rotate_left
        · (intro wa hSw; obtain ⟨bx, gr, nr, xr, yr, zr, hb⟩ := OS.out _ hSw; obtain ⟨k0, k1, k2, k3, k4⟩ := game_cells (game_at xr hlt); obtain ⟨l0, l1, l2, l3, l4⟩ := game_cells (game_at yr hlt); obtain ⟨m0, m1, m2, m3, m4⟩ := game_cells (game_at zr hlt); have gg := game_at gr hlt; rw [← HE.out] at gg; obtain ⟨n0, n1, n2, n3, n4⟩ := game_cells gg; go_simp; try with_reducible rfl)
        simp only [Act.put, List.getElem_toArray, List.getElem_cons_zero, List.getElem_cons_succ, List.setIfInBounds_toArray, List.set_cons_zero, List.set_cons_succ]
        refine wpAnyH_take (i := 35) (v := ?_) rfl (by kernel_rfl) (by kernel_rfl) (by kernel_rfl) (fun _ _ _ h => h) (Or.inl ⟨by rfl, ?_⟩) hHeld101 ?_
        rotate_left
        · (intro wa hSw; obtain ⟨bx, gr, nr, xr, yr, zr, hb⟩ := OS.out _ hSw; skip; go_simp; try with_reducible rfl)
        simp only [Act.put, List.getElem_toArray, List.getElem_cons_zero, List.getElem_cons_succ, List.setIfInBounds_toArray, List.set_cons_zero, List.set_cons_succ]
        refine wpAnyH_take (i := 36) (v := ?_) rfl (by kernel_rfl) (by kernel_rfl) (by kernel_rfl) (fun _ _ _ h => h) (Or.inl ⟨by rfl, ?_⟩) hHeld101 ?_
        rotate_left
        · (intro wa hSw; obtain ⟨bx, gr, nr, xr, yr, zr, hb⟩ := OS.out _ hSw; skip; go_simp; try with_reducible rfl)
        simp only [Act.put, List.getElem_toArray, List.getElem_cons_zero, List.getElem_cons_succ, List.setIfInBounds_toArray, List.set_cons_zero, List.set_cons_succ]
        refine wpAnyH_take (i := 37) (v := ?_) rfl (by kernel_rfl) (by kernel_rfl) (by kernel_rfl) (fun _ _ _ h => h) (Or.inl ⟨by rfl, ?_⟩) hHeld101 ?_
        rotate_left
        · (intro wa hSw; obtain ⟨bx, gr, nr, xr, yr, zr, hb⟩ := OS.out _ hSw; skip; go_simp; try with_reducible rfl)
        simp only [Act.put, List.getElem_toArray, List.getElem_cons_zero, List.getElem_cons_succ, List.setIfInBounds_toArray, List.set_cons_zero, List.set_cons_succ]
        refine wpAnyH_done (by kernel_rfl) ?_ _
        obtain ⟨bx, gr, nr, xr, yr, zr, hb⟩ := OS.out _ hHeld101
        clear KS OS hHeld hHeld101
        go_wp2
        go_roundw
        case rel => exact ⟨i + 1, by omega, by go_num, bx, gr, nr, xr, yr, zr, hb⟩
        case measure => simp [intOf]; omega
      · have q1 : (sv == 0) = false := beq_eq_false_iff_ne.2 hz
        clear hz HZi
        obtain ⟨S, HSd⟩ : ∃ S : World → Prop, S = fun w' => BoxN w' D [.slice a1 n c1, .int .i64 b.win, .int .i64 1, .int .i64 0, .slice a2 b.lad.length c2, .bool b.ag, .slice (some ⟨gb, go', none⟩) LG.length c3, .slice a4 b.fair.length c4, .slice a5 b.taken.length c5] ∧ GameRow w' (.slice (some ⟨gb, go', none⟩) LG.length c3) LG.length (getG LG) ∧ NoteRow w' (.slice a6 LN.length c6) LN.length (getN' LN) ∧ GameRow w' (.slice (some ⟨xb1, xo1, none⟩) LG.length y1) LG.length XG ∧ GameRow w' (.slice (some ⟨xb2, xo2, none⟩) LG.length y2) LG.length XG ∧ GameRow w' (.slice (some ⟨xb3, xo3, none⟩) LG.length y3) LG.length XG ∧ Below w.heap.size w w' := ⟨_, rfl⟩
        have KS : Hid (∀ wa wb, S wa → Below wa.heap.size wa wb → S wb) := by subst HSd; exact fun wa wb ⟨bx, gr, nr, xr, yr, zr, hb⟩ b0 => ⟨bx.below b0, gr.below b0 (Nat.le_refl _), nr.below b0 (Nat.le_refl _), xr.below b0 (Nat.le_refl _), yr.below b0 (Nat.le_refl _), zr.below b0 (Nat.le_refl _), hb.trans (b0.mono hb.size)⟩
        have OS : Hid (∀ wa, S wa → BoxN wa D [.slice a1 n c1, .int .i64 b.win, .int .i64 1, .int .i64 0, .slice a2 b.lad.length c2, .bool b.ag, .slice (some ⟨gb, go', none⟩) LG.length c3, .slice a4 b.fair.length c4, .slice a5 b.taken.length c5] ∧ GameRow wa (.slice (some ⟨gb, go', none⟩) LG.length c3) LG.length (getG LG) ∧ NoteRow wa (.slice a6 LN.length c6) LN.length (getN' LN) ∧ GameRow wa (.slice (some ⟨xb1, xo1, none⟩) LG.length y1) LG.length XG ∧ GameRow wa (.slice (some ⟨xb2, xo2, none⟩) LG.length y2) LG.length XG ∧ GameRow wa (.slice (some ⟨xb3, xo3, none⟩) LG.length y3) LG.length XG ∧ Below w.heap.size w wa) := by subst HSd; exact fun wa h => h
        have KS0 : Hid (S wr.drew) := by subst HSd; exact ⟨BX.out.below (Below.refl _ _).drew, GR.out.below (Below.refl _ _).drew (Nat.le_refl _), NR.out.below (Below.refl _ _).drew (Nat.le_refl _), XR.out.below (Below.refl _ _).drew (Nat.le_refl _), YR.out.below (Below.refl _ _).drew (Nat.le_refl _), ZR.out.below (Below.refl _ _).drew (Nat.le_refl _), HB.out.drew⟩
        clear HSd
        go_wp2_with fail
        refine wp_region_held_drew (S := S) (by kernel_rfl) ?_ (fun hHeld => ?_)
        · exact KS0.out
        clear KS0 
        refine wpAnyH_take (i := 0) (v := ?_) rfl (by kernel_rfl) (by kernel_rfl) (by kernel_rfl) (fun _ _ _ h => h) (Or.inl ⟨by rfl, ?_⟩) hHeld ?_
        rotate_left
        · (intro wa hSw; obtain ⟨bx, gr, nr, xr, yr, zr, hb⟩ := OS.out _ hSw; skip; go_simp; try with_reducible rfl)
        simp only [Act.put, List.getElem_toArray, List.getElem_cons_zero, List.setIfInBounds_toArray, List.set_cons_zero, List.set_cons_succ]
        refine wpAnyH_take (i := 1) (v := ?_) rfl (by kernel_rfl) (by kernel_rfl) (by kernel_rfl) (fun _ _ _ h => h) (Or.inl ⟨by rfl, ?_⟩) hHeld ?_
        rotate_left
        · (intro wa hSw; obtain ⟨bx, gr, nr, xr, yr, zr, hb⟩ := OS.out _ hSw; skip; go_simp; try with_reducible rfl)
        simp only [Act.put, List.getElem_toArray, List.getElem_cons_zero, List.getElem_cons_succ, List.setIfInBounds_toArray, List.set_cons_zero, List.set_cons_succ]
        refine wpAnyH_take (i := 2) (v := ?_) rfl (by kernel_rfl) (by kernel_rfl) (by kernel_rfl) (fun _ _ _ h => h) (Or.inl ⟨by rfl, ?_⟩) hHeld ?_
        rotate_left
        · (intro wa hSw; obtain ⟨bx, gr, nr, xr, yr, zr, hb⟩ := OS.out _ hSw; skip; go_simp; try with_reducible rfl)
        simp only [Act.put, List.getElem_toArray, List.getElem_cons_zero, List.getElem_cons_succ, List.setIfInBounds_toArray, List.set_cons_zero, List.set_cons_succ]
        refine wpAnyH_take (i := 3) (v := ?_) rfl (by kernel_rfl) (by kernel_rfl) (by kernel_rfl) (fun _ _ _ h => h) (Or.inl ⟨by rfl, ?_⟩) hHeld ?_
        rotate_left
        · (intro wa hSw; obtain ⟨bx, gr, nr, xr, yr, zr, hb⟩ := OS.out _ hSw; obtain ⟨k0, k1, k2, k3, k4⟩ := game_cells (game_at xr hlt); obtain ⟨l0, l1, l2, l3, l4⟩ := game_cells (game_at yr hlt); obtain ⟨m0, m1, m2, m3, m4⟩ := game_cells (game_at zr hlt); go_simp; try with_reducible rfl)
        simp only [Act.put, List.getElem_toArray, List.getElem_cons_zero, List.getElem_cons_succ, List.setIfInBounds_toArray, List.set_cons_zero, List.set_cons_succ]
        refine wpAnyH_take (i := 4) (v := ?_) rfl (by kernel_rfl) (by kernel_rfl) (by kernel_rfl) (fun _ _ _ h => h) (Or.inl ⟨by rfl, ?_⟩) hHeld ?_
        rotate_left
        · (intro wa hSw; obtain ⟨bx, gr, nr, xr, yr, zr, hb⟩ := OS.out _ hSw; skip; go_simp; try with_reducible rfl)
        simp only [Act.put, List.getElem_toArray, List.getElem_cons_zero, List.getElem_cons_succ, List.setIfInBounds_toArray, List.set_cons_zero, List.set_cons_succ]
        refine wpAnyH_take (i := 5) (v := ?_) rfl (by kernel_rfl) (by kernel_rfl) (by kernel_rfl) (fun _ _ _ h => h) (Or.inl ⟨by rfl, ?_⟩) hHeld ?_
        rotate_left
        · (intro wa hSw; obtain ⟨bx, gr, nr, xr, yr, zr, hb⟩ := OS.out _ hSw; skip; go_simp; try with_reducible rfl)
        simp only [Act.put, List.getElem_toArray, List.getElem_cons_zero, List.getElem_cons_succ, List.setIfInBounds_toArray, List.set_cons_zero, List.set_cons_succ]
        refine wpAnyH_take (i := 6) (v := ?_) rfl (by kernel_rfl) (by kernel_rfl) (by kernel_rfl) (fun _ _ _ h => h) (Or.inl ⟨by rfl, ?_⟩) hHeld ?_
        rotate_left
        · (intro wa hSw; obtain ⟨bx, gr, nr, xr, yr, zr, hb⟩ := OS.out _ hSw; skip; go_simp; try with_reducible rfl)
        simp only [Act.put, List.getElem_toArray, List.getElem_cons_zero, List.getElem_cons_succ, List.setIfInBounds_toArray, List.set_cons_zero, List.set_cons_succ]
        refine wpAnyH_take (i := 7) (v := ?_) rfl (by kernel_rfl) (by kernel_rfl) (by kernel_rfl) (fun _ _ _ h => h) (Or.inl ⟨by rfl, ?_⟩) hHeld ?_
        rotate_left
        · (intro wa hSw; obtain ⟨bx, gr, nr, xr, yr, zr, hb⟩ := OS.out _ hSw; obtain ⟨k0, k1, k2, k3, k4⟩ := game_cells (game_at xr hlt); obtain ⟨l0, l1, l2, l3, l4⟩ := game_cells (game_at yr hlt); obtain ⟨m0, m1, m2, m3, m4⟩ := game_cells (game_at zr hlt); go_simp; try with_reducible rfl)
        simp only [Act.put, List.getElem_toArray, List.getElem_cons_zero, List.getElem_cons_succ, List.setIfInBounds_toArray, List.set_cons_zero, List.set_cons_succ]
        refine wpAnyH_take (i := 8) (v := ?_) rfl (by kernel_rfl) (by kernel_rfl) (by kernel_rfl) (fun _ _ _ h => h) (Or.inl ⟨by rfl, ?_⟩) hHeld ?_
        rotate_left
        · (intro wa hSw; obtain ⟨bx, gr, nr, xr, yr, zr, hb⟩ := OS.out _ hSw; skip; go_simp; try with_reducible rfl)
        simp only [Act.put, List.getElem_toArray, List.getElem_cons_zero, List.getElem_cons_succ, List.setIfInBounds_toArray, List.set_cons_zero, List.set_cons_succ]
        refine wpAnyH_take (i := 9) (v := ?_) rfl (by kernel_rfl) (by kernel_rfl) (by kernel_rfl) (fun _ _ _ h => h) (Or.inl ⟨by rfl, ?_⟩) hHeld ?_
        rotate_left
        · (intro wa hSw; obtain ⟨bx, gr, nr, xr, yr, zr, hb⟩ := OS.out _ hSw; skip; go_simp; try with_reducible rfl)
        simp only [Act.put, List.getElem_toArray, List.getElem_cons_zero, List.getElem_cons_succ, List.setIfInBounds_toArray, List.set_cons_zero, List.set_cons_succ]
        refine wpAnyH_take (i := 10) (v := ?_) rfl (by kernel_rfl) (by kernel_rfl) (by kernel_rfl) (fun _ _ _ h => h) (Or.inl ⟨by rfl, ?_⟩) hHeld ?_
        rotate_left
        · (intro wa hSw; obtain ⟨bx, gr, nr, xr, yr, zr, hb⟩ := OS.out _ hSw; skip; go_simp; try with_reducible rfl)
        simp only [Act.put, List.getElem_toArray, List.getElem_cons_zero, List.getElem_cons_succ, List.setIfInBounds_toArray, List.set_cons_zero, List.set_cons_succ]
        refine wpAnyH_take (i := 11) (v := ?_) rfl (by kernel_rfl) (by kernel_rfl) (by kernel_rfl) (fun _ _ _ h => h) (Or.inl ⟨by rfl, ?_⟩) hHeld ?_
        rotate_left
        · (intro wa hSw; obtain ⟨bx, gr, nr, xr, yr, zr, hb⟩ := OS.out _ hSw; skip; go_simp; try with_reducible rfl)
        simp only [Act.put, List.getElem_toArray, List.getElem_cons_zero, List.getElem_cons_succ, List.setIfInBounds_toArray, List.set_cons_zero, List.set_cons_succ]
        refine wpAnyH_take (i := 12) (v := ?_) rfl (by kernel_rfl) (by kernel_rfl) (by kernel_rfl) (fun _ _ _ h => h) (Or.inl ⟨by rfl, ?_⟩) hHeld ?_
        rotate_left
        · (intro wa hSw; obtain ⟨bx, gr, nr, xr, yr, zr, hb⟩ := OS.out _ hSw; skip; go_simp; try with_reducible rfl)
        simp only [Act.put, List.getElem_toArray, List.getElem_cons_zero, List.getElem_cons_succ, List.setIfInBounds_toArray, List.set_cons_zero, List.set_cons_succ]
        refine wpAnyH_take (i := 13) (v := ?_) rfl (by kernel_rfl) (by kernel_rfl) (by kernel_rfl) (fun _ _ _ h => h) (Or.inl ⟨by rfl, ?_⟩) hHeld ?_
        rotate_left
        · (intro wa hSw; obtain ⟨bx, gr, nr, xr, yr, zr, hb⟩ := OS.out _ hSw; obtain ⟨k0, k1, k2, k3, k4⟩ := game_cells (game_at xr hlt); obtain ⟨l0, l1, l2, l3, l4⟩ := game_cells (game_at yr hlt); obtain ⟨m0, m1, m2, m3, m4⟩ := game_cells (game_at zr hlt); go_simp; try with_reducible rfl)
        simp only [Act.put, List.getElem_toArray, List.getElem_cons_zero, List.getElem_cons_succ, List.setIfInBounds_toArray, List.set_cons_zero, List.set_cons_succ]
        refine wpAnyH_take (i := 14) (v := ?_) rfl (by kernel_rfl) (by kernel_rfl) (by kernel_rfl) (fun _ _ _ h => h) (Or.inl ⟨by rfl, ?_⟩) hHeld ?_
        rotate_left
        · (intro wa hSw; obtain ⟨bx, gr, nr, xr, yr, zr, hb⟩ := OS.out _ hSw; skip; go_simp; try with_reducible rfl)
        simp only [Act.put, List.getElem_toArray, List.getElem_cons_zero, List.getElem_cons_succ, List.setIfInBounds_toArray, List.set_cons_zero, List.set_cons_succ]
        refine wpAnyH_take (i := 15) (v := ?_) rfl (by kernel_rfl) (by kernel_rfl) (by kernel_rfl) (fun _ _ _ h => h) (Or.inl ⟨by rfl, ?_⟩) hHeld ?_
        rotate_left
        · (intro wa hSw; obtain ⟨bx, gr, nr, xr, yr, zr, hb⟩ := OS.out _ hSw; skip; go_simp; try with_reducible rfl)
        simp only [Act.put, List.getElem_toArray, List.getElem_cons_zero, List.getElem_cons_succ, List.setIfInBounds_toArray, List.set_cons_zero, List.set_cons_succ]
        refine wpAnyH_take (i := 16) (v := ?_) rfl (by kernel_rfl) (by kernel_rfl) (by kernel_rfl) (fun _ _ _ h => h) (Or.inl ⟨by rfl, ?_⟩) hHeld ?_
        rotate_left
        · (intro wa hSw; obtain ⟨bx, gr, nr, xr, yr, zr, hb⟩ := OS.out _ hSw; skip; go_simp; try with_reducible rfl)
        simp only [Act.put, List.getElem_toArray, List.getElem_cons_zero, List.getElem_cons_succ, List.setIfInBounds_toArray, List.set_cons_zero, List.set_cons_succ]
        refine wpAnyH_take (i := 17) (v := ?_) rfl (by kernel_rfl) (by kernel_rfl) (by kernel_rfl) (fun _ _ _ h => h) (Or.inl ⟨by rfl, ?_⟩) hHeld ?_
        rotate_left
        · (intro wa hSw; obtain ⟨bx, gr, nr, xr, yr, zr, hb⟩ := OS.out _ hSw; obtain ⟨k0, k1, k2, k3, k4⟩ := game_cells (game_at xr hlt); obtain ⟨l0, l1, l2, l3, l4⟩ := game_cells (game_at yr hlt); obtain ⟨m0, m1, m2, m3, m4⟩ := game_cells (game_at zr hlt); go_simp; try with_reducible rfl)
        simp only [Act.put, List.getElem_toArray, List.getElem_cons_zero, List.getElem_cons_succ, List.setIfInBounds_toArray, List.set_cons_zero, List.set_cons_succ]
        refine wpAnyH_take (i := 18) (v := ?_) rfl (by kernel_rfl) (by kernel_rfl) (by kernel_rfl) (fun _ _ _ h => h) (Or.inl ⟨by rfl, ?_⟩) hHeld ?_
        rotate_left
        · (intro wa hSw; obtain ⟨bx, gr, nr, xr, yr, zr, hb⟩ := OS.out _ hSw; skip; go_simp; try with_reducible rfl)
        simp only [Act.put, List.getElem_toArray, List.getElem_cons_zero, List.getElem_cons_succ, List.setIfInBounds_toArray, List.set_cons_zero, List.set_cons_succ]
        refine wpAnyH_take (i := 19) (v := ?_) rfl (by kernel_rfl) (by kernel_rfl) (by kernel_rfl) (fun _ _ _ h => h) (Or.inl ⟨by rfl, ?_⟩) hHeld ?_
        rotate_left
        · (intro wa hSw; obtain ⟨bx, gr, nr, xr, yr, zr, hb⟩ := OS.out _ hSw; skip; go_simp; try with_reducible rfl)
        simp only [Act.put, List.getElem_toArray, List.getElem_cons_zero, List.getElem_cons_succ, List.setIfInBounds_toArray, List.set_cons_zero, List.set_cons_succ]
        refine wpAnyH_take (i := 20) (v := ?_) rfl (by kernel_rfl) (by kernel_rfl) (by kernel_rfl) (fun _ _ _ h => h) (Or.inl ⟨by rfl, ?_⟩) hHeld ?_
        rotate_left
        · (intro wa hSw; obtain ⟨bx, gr, nr, xr, yr, zr, hb⟩ := OS.out _ hSw; skip; go_simp; try with_reducible rfl)
        simp only [Act.put, List.getElem_toArray, List.getElem_cons_zero, List.getElem_cons_succ, List.setIfInBounds_toArray, List.set_cons_zero, List.set_cons_succ]
        refine wpAnyH_take (i := 21) (v := ?_) rfl (by kernel_rfl) (by kernel_rfl) (by kernel_rfl) (fun _ _ _ h => h) (Or.inl ⟨by rfl, ?_⟩) hHeld ?_
        rotate_left
        · (intro wa hSw; obtain ⟨bx, gr, nr, xr, yr, zr, hb⟩ := OS.out _ hSw; skip; go_simp; try with_reducible rfl)
        simp only [Act.put, List.getElem_toArray, List.getElem_cons_zero, List.getElem_cons_succ, List.setIfInBounds_toArray, List.set_cons_zero, List.set_cons_succ]
        refine wpAnyH_take (i := 22) (v := ?_) rfl (by kernel_rfl) (by kernel_rfl) (by kernel_rfl) (fun _ _ _ h => h) (Or.inl ⟨by rfl, ?_⟩) hHeld ?_
        rotate_left
        · (intro wa hSw; obtain ⟨bx, gr, nr, xr, yr, zr, hb⟩ := OS.out _ hSw; skip; go_simp; try with_reducible rfl)
        simp only [Act.put, List.getElem_toArray, List.getElem_cons_zero, List.getElem_cons_succ, List.setIfInBounds_toArray, List.set_cons_zero, List.set_cons_succ]
        refine wpAnyH_ready (rs := [23]) (by kernel_rfl) (by simp) ?_
        refine AllReadyH.cons (o := _) rfl (fun K hK => ?_) AllReadyH.nil
        go_simp
        obtain ⟨bx, gr, nr, xr, yr, zr, hb⟩ := OS.out _ hHeld
        refine (CSi.out _ nr).mono ?_
        rintro e w101 ⟨rfl, b101⟩
        clear bx gr nr xr yr zr hb
        (try go_wp2_with fail)
        refine hK.out _ _ ?_ (fun hHeld101 => ?_)
        · exact KS.out _ _ hHeld b101
        clear hK K
        refine wpAnyH_take (i := 24) (v := ?_) rfl (by kernel_rfl) (by kernel_rfl) (by kernel_rfl) (fun _ _ _ h => h) (Or.inl ⟨by rfl, ?_⟩) hHeld101 ?_
        rotate_left
        · (intro wa hSw; obtain ⟨bx, gr, nr, xr, yr, zr, hb⟩ := OS.out _ hSw; skip; go_simp; try with_reducible rfl)
        simp only [Act.put, List.getElem_toArray, List.getElem_cons_zero, List.getElem_cons_succ, List.setIfInBounds_toArray, List.set_cons_zero, List.set_cons_succ]
        refine wpAnyH_take (i := 25) (v := ?_) rfl (by kernel_rfl) (by kernel_rfl) (by kernel_rfl) (fun _ _ _ h => h) (Or.inl ⟨by rfl, ?_⟩) hHeld101 ?_
        rotate_left
        · (intro wa hSw; obtain ⟨bx, gr, nr, xr, yr, zr, hb⟩ := OS.out _ hSw; skip; go_simp; try with_reducible rfl)
        simp only [Act.put, List.getElem_toArray, List.getElem_cons_zero, List.getElem_cons_succ, List.setIfInBounds_toArray, List.set_cons_zero, List.set_cons_succ]
        refine wpAnyH_take (i := 26) (v := undef) rfl (by kernel_rfl) (by kernel_rfl) (by kernel_rfl) (fun _ _ _ h => h) (Or.inr ⟨by rfl, rfl⟩) hHeld101 ?_
        simp only [Act.put, List.getElem_toArray, List.getElem_cons_zero, List.getElem_cons_succ, List.setIfInBounds_toArray, List.set_cons_zero, List.set_cons_succ]
        refine wpAnyH_take (i := 27) (v := undef) rfl (by kernel_rfl) (by kernel_rfl) (by kernel_rfl) (fun _ _ _ h => h) (Or.inr ⟨by rfl, rfl⟩) hHeld101 ?_
        simp only [Act.put, List.getElem_toArray, List.getElem_cons_zero, List.getElem_cons_succ, List.setIfInBounds_toArray, List.set_cons_zero, List.set_cons_succ]
        refine wpAnyH_take (i := 28) (v := undef) rfl (by kernel_rfl) (by kernel_rfl) (by kernel_rfl) (fun _ _ _ h => h) (Or.inr ⟨by rfl, rfl⟩) hHeld101 ?_
        simp only [Act.put, List.getElem_toArray, List.getElem_cons_zero, List.getElem_cons_succ, List.setIfInBounds_toArray, List.set_cons_zero, List.set_cons_succ]
        refine wpAnyH_take (i := 29) (v := undef) rfl (by kernel_rfl) (by kernel_rfl) (by kernel_rfl) (fun _ _ _ h => h) (Or.inr ⟨by rfl, rfl⟩) hHeld101 ?_
        simp only [Act.put, List.getElem_toArray, List.getElem_cons_zero, List.getElem_cons_succ, List.setIfInBounds_toArray, List.set_cons_zero, List.set_cons_succ]
        refine wpAnyH_take (i := 30) (v := undef) rfl (by kernel_rfl) (by kernel_rfl) (by kernel_rfl) (fun _ _ _ h => h) (Or.inr ⟨by rfl, rfl⟩) hHeld101 ?_
        simp only [Act.put, List.getElem_toArray, List.getElem_cons_zero, List.getElem_cons_succ, List.setIfInBounds_toArray, List.set_cons_zero, List.set_cons_succ]
        refine wpAnyH_take (i := 31) (v := undef) rfl (by kernel_rfl) (by kernel_rfl) (by kernel_rfl) (fun _ _ _ h => h) (Or.inr ⟨by rfl, rfl⟩) hHeld101 ?_
        simp only [Act.put, List.getElem_toArray, List.getElem_cons_zero, List.getElem_cons_succ, List.setIfInBounds_toArray, List.set_cons_zero, List.set_cons_succ]
        refine wpAnyH_take (i := 32) (v := undef) rfl (by kernel_rfl) (by kernel_rfl) (by kernel_rfl) (fun _ _ _ h => h) (Or.inr ⟨by rfl, rfl⟩) hHeld101 ?_
        simp only [Act.put, List.getElem_toArray, List.getElem_cons_zero, List.getElem_cons_succ, List.setIfInBounds_toArray, List.set_cons_zero, List.set_cons_succ]
        refine wpAnyH_take (i := 33) (v := undef) rfl (by kernel_rfl) (by kernel_rfl) (by kernel_rfl) (fun _ _ _ h => h) (Or.inr ⟨by rfl, rfl⟩) hHeld101 ?_
        simp only [Act.put, List.getElem_toArray, List.getElem_cons_zero, List.getElem_cons_succ, List.setIfInBounds_toArray, List.set_cons_zero, List.set_cons_succ]
        refine wpAnyH_take (i := 34) (v := undef) rfl (by kernel_rfl) (by kernel_rfl) (by kernel_rfl) (fun _ _ _ h => h) (Or.inr ⟨by rfl, rfl⟩) hHeld101 ?_
        simp only [Act.put, List.getElem_toArray, List.getElem_cons_zero, List.getElem_cons_succ, List.setIfInBounds_toArray, List.set_cons_zero, List.set_cons_succ]
        refine wpAnyH_take (i := 35) (v := undef) rfl (by kernel_rfl) (by kernel_rfl) (by kernel_rfl) (fun _ _ _ h => h) (Or.inr ⟨by rfl, rfl⟩) hHeld101 ?_
        simp only [Act.put, List.getElem_toArray, List.getElem_cons_zero, List.getElem_cons_succ, List.setIfInBounds_toArray, List.set_cons_zero, List.set_cons_succ]
        refine wpAnyH_take (i := 36) (v := ?_) rfl (by kernel_rfl) (by kernel_rfl) (by kernel_rfl) (fun _ _ _ h => h) (Or.inl ⟨by rfl, ?_⟩) hHeld101 ?_
        rotate_left
        · (intro wa hSw; obtain ⟨bx, gr, nr, xr, yr, zr, hb⟩ := OS.out _ hSw; skip; go_simp; try with_reducible rfl)
        simp only [Act.put, List.getElem_toArray, List.getElem_cons_zero, List.getElem_cons_succ, List.setIfInBounds_toArray, List.set_cons_zero, List.set_cons_succ]
        refine wpAnyH_take (i := 37) (v := ?_) rfl (by kernel_rfl) (by kernel_rfl) (by kernel_rfl) (fun _ _ _ h => h) (Or.inl ⟨by rfl, ?_⟩) hHeld101 ?_
        rotate_left
        · (intro wa hSw; obtain ⟨bx, gr, nr, xr, yr, zr, hb⟩ := OS.out _ hSw; skip; go_simp; try with_reducible rfl)
        simp only [Act.put, List.getElem_toArray, List.getElem_cons_zero, List.getElem_cons_succ, List.setIfInBounds_toArray, List.set_cons_zero, List.set_cons_succ]
        refine wpAnyH_done (by kernel_rfl) ?_ _
        obtain ⟨bx, gr, nr, xr, yr, zr, hb⟩ := OS.out _ hHeld101
        clear KS OS hHeld hHeld101
        go_wp2
        go_roundw
        case rel => exact ⟨i + 1, by omega, by go_num, bx, gr, nr, xr, yr, zr, hb⟩
        case measure => simp [intOf]; omega
    · obtain rfl : i = LG.length := by omega
      go_wp2
      go_ret
      exact ⟨rfl, HB.out⟩

set_option maxRecDepth 100000 in
theorem lifted (os : Os) (started : os.Started) (H : Type) (enc : TypeId × Value → H) :
    ReturnsInHanded {} Try.checked os 3 .any (Rows.fnRecordsSpec.pre6 enc Try.prog Try.f3 Rows.fnRecordsRow.domain false) (Rows.fnRecordsSpec.post enc Try.prog Try.f3 false true false false) := by
  refine returnsInHanded_of_change (C := Try.checked) own started (by kernel_rfl) Try.func3
    (ChangeSpec.witness6 (enc := enc) (C := Try.checked) false ⟨#[], #[.slice none 0 0], []⟩ 8 (by kernel_rfl) (by kernel_rfl) (by kernel_rfl) (by kernel_rfl)) ?_
  intro W base args ds gs before hval0 hW hcnd _
  have hval : ∀ (j : Nat) t v, Try.f3.params[j]? = some t → args[j]? = some v → Value.okWide Try.prog W .any base t v := hval0
  have hW' := hW
  obtain ⟨p, q, hA0, hV, rfl, hfz, hnd⟩ := hW
  have hA : DataW.TrodAll enc Try.prog W 0 (fun _ => true) true Try.f3.params.toList args.toList ds p := hA0
  rw [Try.params3] at hA hval
  obtain ⟨v0, vs0, d0, ds0, p0, q0, hargs, rfl, rfl, h0, r0⟩ := trodAll_cons hA
  obtain ⟨rfl, rfl, rfl⟩ := trodAll_nil r0
  obtain rfl : args = #[v0] := by cases args; simp_all
  obtain ⟨rfl, rfl⟩ := trodVars_none hV
  have k0 := h0
  have lt0 : ∀ x ∈ p0, x.block < W.heap.size := by obtain ⟨m, hm⟩ := k0; exact DataW.trod_lt m _ _ _ hm
  obtain ⟨a0, len0, cap0, rfl⟩ := okWide_slice Try.underlying22 (hval 0 22 v0 rfl rfl)
  obtain ⟨z0, w0⟩ : ∃ zs, IsRow .u8 W a0 len0 cap0 zs := by
    obtain ⟨fuel, hf⟩ := h0
    rcases open_ints Try.underlying22 Try.underlying5 (by kernel_rfl) hf with ⟨hcs, _⟩ | ⟨x, l, c, zs, hcs, _, hl, hm, hz, _, hcell, hwz⟩
    · simp [Value.cells] at hcs
      obtain ⟨rfl, rfl, rfl⟩ := hcs
      exact ⟨[], .inl ⟨rfl, rfl, rfl, rfl⟩⟩
    · simp [Value.cells] at hcs
      obtain ⟨rfl, rfl, rfl⟩ := hcs
      exact ⟨zs, .inr ⟨_, rfl, hl, hm, by simpa using hz, hcell, hwz⟩⟩
  clear hA0 hval0
  simp only [List.append_nil] at hW'
  refine (walk a0 len0 cap0 z0 W w0).mono fun e W' ⟨he, bel⟩ => ?_
  subst he
  exact ⟨_, rfl, _, _, _, [], _, [], hW', trodAll_mk1 (shut_bool Try.underlying4 _), (trodAll_cons_mk (Below.trod laidOut (by kernel_rfl) (of_decide_eq_true (by kernel_rfl)) k0 bel lt0) trodAll_mk0), rfl, bel.frame _, fun h => by cases h⟩

theorem over : Rows.fnRecordsRow.holds Try.pinned (OpenSpec.ofChange Rows.fnRecordsSpec) :=
  OpenClaim.holds_of_wide 3 Try.f3 rfl rfl rfl rfl rfl rfl rfl ⟨rfl, rfl, rfl, rfl, rfl⟩ rfl rfl rfl rfl rfl (by kernel_rfl) Try.func3 (by kernel_rfl)
    (of_decide_eq_true (by kernel_rfl)) (by unfold Func.isWrapper; first | (rw [if_pos (by decide +kernel)]; kernel_rfl) | (rw [if_neg (by decide +kernel)]; exact ⟨rfl, rfl⟩))
    (fun os started H enc _ => lifted os started H enc)

theorem proved : Rows.FnRecordsSaid := over
end Go.Proofs.Ytojkonhhaamodaa.fnRecords
