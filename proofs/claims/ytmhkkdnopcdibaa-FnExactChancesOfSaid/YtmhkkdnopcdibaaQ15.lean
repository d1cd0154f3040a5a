/-
  Packed: DrwImplH, DrwImplI, SeatCmp, SeatPerm.
-/
import Derived.Deep.DeepCutAuto
import Derived.Test.YtmhkkdnopcdibaaLaysE
import Derived.Deep.RegionHeld3
import Derived.Test.YtmhkkdnopcdibaaQ13
import Derived.Test.YtmhkkdnopcdibaaQ14
set_option linter.unusedVariables false
namespace Go.Proofs.Ytmhkkdnopcdibaa
open Go.RowKit

def SmallS (S : Nat → Nat) (n : Nat) : Prop := ∀ j, S j ≤ n
theorem SmallS.next {d : DrwD} {S : Nat → Nat} {i g n : Nat} (h : SmallS S n) : SmallS (nxtSe d S i g) (n + 1) := fun j => by
  have h1 := h j
  unfold nxtSe aftS forgS moreS
  split
  · omega
  · split
    · omega
    · split
      · omega
      · split <;> omega
theorem fit_parts {d : DrwD} {S : Nat → Nat} {i g : Nat} : fitS d S i g = true ↔ S (g * 7) = 0 ∧ (S (g * 7 + 1 + d.cl i) : Int) < d.most := by
  unfold fitS
  rw [Bool.and_eq_true, decide_eq_true_eq, decide_eq_true_eq]
theorem after_fits (ta : Option Addr) (tn tc : Nat) (d : DrwD) (ok : DrwOk d) (i : Nat) (hi : i < d.N) (g : Nat) (cs : Array Value) (S : Nat → Nat) (w : World) (hS : SeatA cs S) (hs : SmallS S 100) (hg : g < d.G) (hf : fitS d S i g = true) :
    Calls Try.prog 91 #[.agg #[.slice ta tn tc, .int .i64 d.G, .int .i64 d.most], .agg cs, .agg #[.int .i64 (d.cl i), .bool (epB d i), .bool (ecB d i)], .int .i64 g] w fun e w' => (∃ cs', e = .returned (.tuple #[.agg cs', .bool true]) ∧ SeatA cs' (nxtSe d S i g)) ∧ Below w.heap.size w w' :=
  after_yes ta tn tc d.G d.most g cs S (d.cl i) (epB d i) (ecB d i) w hS (ok.cl i hi) (by have := ok.G; omega) (by omega) (fit_parts.1 hf).1 (fit_parts.1 hf).2 hs
theorem after_fails (ta : Option Addr) (tn tc : Nat) (d : DrwD) (ok : DrwOk d) (i : Nat) (hi : i < d.N) (x : Int) (cs : Array Value) (S : Nat → Nat) (w : World) (hS : SeatA cs S) (hs : SmallS S 100) (hf : ¬ ((0 ≤ x ∧ x ≤ (d.G : Int) - 1) ∧ fitS d S i x.toNat = true)) :
    Calls Try.prog 91 #[.agg #[.slice ta tn tc, .int .i64 d.G, .int .i64 d.most], .agg cs, .agg #[.int .i64 (d.cl i), .bool (epB d i), .bool (ecB d i)], .int .i64 x] w fun e w' => (∃ cs', e = .returned (.tuple #[.agg cs', .bool false]) ∧ SeatA cs' (fun _ => 0)) ∧ Below w.heap.size w w' :=
  after_no ta tn tc d.G d.most x cs S (d.cl i) (epB d i) (ecB d i) w hS (ok.cl i hi) (by have := ok.G; omega) (fun h => hf ⟨h.1, fit_parts.2 h.2⟩) hs
def AftM (d : DrwD) (S : Nat → Nat) (i : Nat) (x : Int) (w : World) (e : Ending) (w' : World) : Prop :=
  ∃ (cs' : Array Value) (S' : Nat → Nat) (b : Bool), e = .returned (.tuple #[.agg cs', .bool b]) ∧ SeatA cs' S' ∧ (b = true → ((0 ≤ x ∧ x ≤ (d.G : Int) - 1) ∧ fitS d S i x.toNat = true) ∧ S' = nxtSe d S i x.toNat) ∧ (b = false → ¬ ((0 ≤ x ∧ x ≤ (d.G : Int) - 1) ∧ fitS d S i x.toNat = true)) ∧ Below w.heap.size w w'
theorem after_any (ta : Option Addr) (tn tc : Nat) (d : DrwD) (ok : DrwOk d) (i : Nat) (hi : i < d.N) (x : Int) (cs : Array Value) (S : Nat → Nat) (w : World) (hS : SeatA cs S) (hs : SmallS S 100) :
    Calls Try.prog 91 #[.agg #[.slice ta tn tc, .int .i64 d.G, .int .i64 d.most], .agg cs, .agg #[.int .i64 (d.cl i), .bool (epB d i), .bool (ecB d i)], .int .i64 x] w (AftM d S i x w) := by
  by_cases hf : (0 ≤ x ∧ x ≤ (d.G : Int) - 1) ∧ fitS d S i x.toNat = true
  · obtain ⟨g, rfl⟩ : ∃ g : Nat, x = g := ⟨x.toNat, by omega⟩
    refine (after_fits ta tn tc d ok i hi g cs S w hS hs (by omega) hf.2).mono ?_
    rintro e w' ⟨⟨cs', rfl, h⟩, b⟩
    exact ⟨cs', _, true, rfl, h, fun _ => ⟨hf, rfl⟩, (fun h9 => by cases h9), b⟩
  · refine (after_fails ta tn tc d ok i hi x cs S w hS hs hf).mono ?_
    rintro e w' ⟨⟨cs', rfl, h⟩, b⟩
    exact ⟨cs', _, false, rfl, h, (fun h9 => by cases h9), fun _ => hf, b⟩
structure AaI (w : World) (B0 B1 B6 : Nat) (tv : Value) (d : DrwD) (cs : Array Value) (wr : World) : Prop where
  bx : BoxN wr B0 [tv, .int .i64 d.G, .int .i64 d.most]
  r : Whole wr B1 zeroSeat 114
  s : Whole wr B6 cs 114
  t : TurnsAt wr tv d
  b : Below w.heap.size w wr
theorem AaI.keep {w : World} {B0 B1 B6 : Nat} {tv : Value} {d : DrwD} {cs : Array Value} {wr w' : World} (h : AaI w B0 B1 B6 tv d cs wr) (b : Below wr.heap.size wr w') : AaI w B0 B1 B6 tv d cs w' :=
  ⟨h.bx.below b, h.r.below b, h.s.below b, RecRow.below h.t b (Nat.le_refl _), h.b.trans (b.mono h.b.size)⟩
theorem turn_cells {w : World} {ta : Option Addr} {tc : Nat} {d : DrwD} (h : TurnsAt w (.slice ta d.N tc) d) {i : Nat} (hi : i < d.N) :
    ∃ b off, ta = some ⟨b, off, none⟩ ∧ d.N ≤ tc ∧ w.cell? ⟨b, off + i * 3, none⟩ = some (.int .i64 (d.cl i)) ∧ w.cell? ⟨b, off + i * 3 + 1, none⟩ = some (.bool (epB d i)) ∧ w.cell? ⟨b, off + i * 3 + 2, none⟩ = some (.bool (ecB d i)) := by
  rcases h with ⟨_, _, _, h0⟩ | ⟨b, off, cap, h1, _, _, hc, hcap⟩
  · omega
  · simp only [Value.slice.injEq] at h1
    obtain ⟨rfl, _, rfl⟩ := h1
    exact ⟨b, off, rfl, hcap, (hc i hi).2 0 _ rfl, (hc i hi).2 1 _ rfl, (hc i hi).2 2 _ rfl⟩
theorem BoxN.sameD {w w' : World} {B : Nat} {cs : List Value} (h : BoxN w B cs) (hs : w.heap.size ≤ w'.heap.size) (hb : w'.heap[B]? = w.heap[B]?) : BoxN w' B cs :=
  ⟨Nat.lt_of_lt_of_le h.1 hs, fun j v hv => (World.cell?_of_block (w := w) (w' := w') (a := ⟨B, j, none⟩) hb).trans (h.2 j v hv)⟩
theorem AaI.put {w : World} {B6 : Nat} {tv : Value} {d : DrwD} {cs : Array Value} {wr : World} (h : AaI w w.heap.size (w.heap.size + 1) B6 tv d cs wr) (cs1 : Array Value) (hB : w.heap.size + 1 < B6) (hT : TurnsAt w tv d) : AaI w w.heap.size (w.heap.size + 1) B6 tv d cs1 (wr.setRow B6 cs1) := by
  have hb : Below w.heap.size w (wr.setRow B6 cs1) := below_setRow h.b (by omega)
  refine ⟨h.bx.sameD (by simp [World.setRow]) (setRow_other wr B6 _ cs1 (by omega)), (setRow_other wr B6 _ cs1 (by omega)).trans h.r, h.s.setRow, RecRow.below hT hb (Nat.le_refl _), hb⟩
theorem exec_load_whole {P : Program} {o : Oper} {ev : Operand → Value} {w : World} {ty : TypeId} {x : Operand} {g : Nat} {v : Value} (ho : o.op = .load ty x) (hx : ev x = .pointer (some ⟨g, 0, none⟩)) (hl : (loadVar ty ⟨g, 0, none⟩).run P w = .ok v w) :
    (execOp ev o).run P w = .ok (.value v) w := by
  unfold execOp
  simp only [ho, hx, Instr.loadAt, Instr.sureAddr, Sem.run_bind, Sem.run_pure, Result.andThen_ok, hl]
def foldP (d : DrwD) (L : List Int) : Option (Nat → Nat) := if L.length ≤ d.N then foldS d L 0 (fun _ => 0) else none
def AllM (w : World) (R : Option (Nat → Nat)) (e : Ending) (w' : World) : Prop :=
  ∃ (cs : Array Value) (S : Nat → Nat), e = .returned (.tuple #[.agg cs, .bool R.isSome]) ∧ SeatA cs S ∧ (∀ S', R = some S' → S = S') ∧ Below w.heap.size w w'
set_option maxRecDepth 100000 in
set_option maxHeartbeats 8000000 in
theorem afterAll_impl (ta : Option Addr) (tc : Nat) (d : DrwD) (ok : DrwOk d) (vp : Value) (L : List Int) (w : World) (hT : TurnsAt w (.slice ta d.N tc) d) (hv : IntRow w vp L.length (getI L)) :
    Calls Try.prog 77 #[.agg #[.slice ta d.N tc, .int .i64 d.G, .int .i64 d.most], vp] w (AllM w (foldP d L)) := by
  obtain ⟨va, vc, rfl, hl9, _⟩ := hv.form
  obtain ⟨W, hW⟩ : ∃ W, (w.alloc (.cells #[.slice ta d.N tc, .int .i64 d.G, .int .i64 d.most] 61)).alloc (.cells zeroSeat 114) = W := ⟨_, rfl⟩
  have b1 : Below w.heap.size w W := by rw [← hW]; exact ((Below.refl w.heap.size w).alloc (Nat.le_refl _) _).alloc (by simp) _
  have HX : Hid (BoxN W w.heap.size [.slice ta d.N tc, .int .i64 d.G, .int .i64 d.most]) := by rw [← hW]; exact (BoxN.made (Below.refl _ _) rfl).below ((Below.refl _ _).alloc (Nat.le_refl _) _)
  have HR : Hid (Whole W (w.heap.size + 1) zeroSeat 114) := by
    rw [← hW]
    have h9 := Whole.made (w.alloc (.cells #[.slice ta d.N tc, .int .i64 d.G, .int .i64 d.most] 61)) zeroSeat 114
    simp only [World.size_alloc] at h9
    exact h9
  have HB := Lib.hid b1
  have HT := Lib.hid hT
  have HV := Lib.hid hv
  simp only [zeroSeat] at hW
  have HW := Lib.hid hW
  obtain ⟨m, hm⟩ : ∃ m, L.length = m := ⟨_, rfl⟩
  have HM := Lib.hid hm
  have HRR : Hid (foldP d L = if m ≤ d.N then foldS d (L.drop 0) 0 (fun _ => 0) else none) := by show foldP d L = _; unfold foldP; rw [hm]; rfl
  rw [hm] at hl9 HV ⊢
  obtain ⟨RR, hRR⟩ : ∃ RR, foldP d L = RR := ⟨_, rfl⟩
  rw [hRR] at HRR ⊢
  have HOK := Lib.hid ok
  have hN8 := ok.N
  clear hW hT hv b1 hm hRR ok
  have c0 := HX.out.2 0 _ rfl
  have z1 := HR.out.lt
  have z0 := HX.out.1
  go_enter Try.func77, Try.ntmps77
  go_upto_region 1 with fail
  rw [HW.out]
  clear HW
  by_cases hmN : m ≤ d.N
  case neg =>
    have HRN : Hid (RR = none) := HRR.out.trans (if_neg hmN)
    have g1 : decide ((d.N : Int) < (m : Int)) = true := decide_eq_true (by omega)
    have g1' : decide (d.N < m) = true := decide_eq_true (by omega)
    have HBE : Hid (Below w.heap.size w (W.setRow (w.heap.size + 1) zeroSeat)) := below_setRow HB.out (by omega)
    have HLD : Hid ((loadVar 114 ⟨w.heap.size + 1, 0, none⟩).run Try.prog (W.setRow (w.heap.size + 1) zeroSeat) = .ok (.agg zeroSeat) (W.setRow (w.heap.size + 1) zeroSeat)) := seat_load zero_seat HR.out.setRow
    go_wp2_with (refine wpList_store_row rfl 114 (.tmp 4) (.tmp 17) rfl (w.heap.size + 1) zeroSeat rfl rfl 114 zeroSeat HR.out (by kernel_rfl) rfl zero_seat.all ?_)
    refine bodyPost_ret (v := .tuple #[.agg zeroSeat, .bool false]) (results_cell2 Try.results77 rfl rfl HLD.out) rfl ⟨zeroSeat, fun _ => 0, by rw [HRN.out]; rfl, zero_seat, (fun S' h => by rw [HRN.out] at h; cases h), HBE.out⟩
  have HR0 : Hid (foldS d (L.drop 0) 0 (fun _ => 0) = RR) := (HRR.out.trans (if_pos hmN)).symm
  have g1 : decide ((d.N : Int) < (m : Int)) = false := decide_eq_false (by omega)
  have g1' : decide (d.N < m) = false := decide_eq_false (by omega)
  clear HRR
  obtain ⟨V, hV⟩ : ∃ V, W.alloc (.cells zeroSeat 114) = V := ⟨_, rfl⟩
  have bV : Below W.heap.size W V := by rw [← hV]; exact (Below.refl _ _).alloc (Nat.le_refl _) _
  have I0 : Hid (AaI w w.heap.size (w.heap.size + 1) W.heap.size (.slice ta d.N tc) d zeroSeat V) :=
    ⟨HX.out.below bV, HR.out.below bV, by rw [← hV]; exact Whole.made _ _ _, RecRow.below HT.out (HB.out.trans (bV.mono HB.out.size)) (Nat.le_refl _), HB.out.trans (bV.mono HB.out.size)⟩
  simp only [zeroSeat] at hV
  have HVV := Lib.hid hV
  clear hV bV
  go_upto_region 4 with fail
  rw [HVV.out]
  clear HVV c0 z0 z1 g1 g1'
  have HWs : Hid (w.heap.size + 1 < W.heap.size) := HR.out.lt
  generalize W.heap.size = B6 at *
  clear HX HR HB
  go_wp2
  go_loopw [20] (fun iv wr => ∃ (i : Nat) (cs : Array Value) (S : Nat → Nat), i ≤ m ∧ iv = .int .i64 i ∧ Hid (foldS d (L.drop i) i S = RR) ∧ Hid (SeatA cs S) ∧ Hid (SmallS S i) ∧ Hid (AaI w w.heap.size (w.heap.size + 1) B6 (.slice ta d.N tc) d cs wr)) (fun iv _ => m - (RowKit.intOf iv).toNat)
  case atStart => exact ⟨0, zeroSeat, _, Nat.zero_le _, rfl, HR0, zero_seat, fun j => Nat.le_refl _, I0⟩
  case round =>
    clear HR0 I0
    obtain ⟨i, cs, S, hi9, rfl, HV0, HSE, HSM, HI⟩ := hrel
    by_cases hlt : i < m
    · have hiN : i < d.N := by omega
      obtain ⟨b, off, rfl, hcap, q0⟩ := int_at (HV.out.below HI.out.b (Nat.le_refl _)) hlt
      have hj1 : (i : Int) < (m : Int) := by omega
      have HV2 := HV0.out
      have hdr : L.drop i = getI L i :: L.drop (i + 1) := by
        have hl : i < L.length := by rw [HM.out]; exact hlt
        rw [List.drop_eq_getElem_cons hl, getI_ok hl]
      rw [hdr, foldS_cons] at HV2
      have HV3 := Lib.hid HV2
      clear HV0 HV2 hdr
      obtain ⟨x, hx⟩ : ∃ x, getI L i = x := ⟨_, rfl⟩
      rw [hx] at q0 HV3
      clear hx
      have hjN : (i : Int) < (d.N : Int) := by omega
      obtain ⟨tb, toff, rfl, htc, _, _, _⟩ := turn_cells HI.out.t hiN
      have HLT : Hid (B6 < wr.heap.size) := HI.out.s.lt
      go_upto_region 7 with fail
      clear q0
      go_cut [9, 10] (fun s9 s10 wx => ∃ (D : Nat) (cs1 : Array Value) (S1 : Nat → Nat) (b : Bool), s9 = .pointer (some ⟨D, 0, none⟩) ∧ s10 = .bool b ∧ Hid (SeatA cs1 S1) ∧ Hid (Whole wx D cs1 114) ∧ Hid (b = true → ((0 ≤ x ∧ x ≤ (d.G : Int) - 1) ∧ fitS d S i x.toNat = true) ∧ S1 = nxtSe d S i x.toNat) ∧ Hid (b = false → ¬ ((0 ≤ x ∧ x ≤ (d.G : Int) - 1) ∧ fitS d S i x.toNat = true)) ∧ Hid (AaI w w.heap.size (w.heap.size + 1) B6 (.slice (some ⟨tb, toff, none⟩) d.N tc) d cs wx) ∧ B6 < D)
      case first =>
        obtain ⟨Sc, HSd⟩ : ∃ Sc : World → Prop, Sc = fun w' => AaI w w.heap.size (w.heap.size + 1) B6 (.slice (some ⟨tb, toff, none⟩) d.N tc) d cs w' := ⟨_, rfl⟩
        have KS : Hid (∀ wa wb, Sc wa → Below wa.heap.size wa wb → Sc wb) := by subst HSd; exact fun wa wb h b => h.keep b
        have OS : Hid (∀ wa, Sc wa → AaI w w.heap.size (w.heap.size + 1) B6 (.slice (some ⟨tb, toff, none⟩) d.N tc) d cs wa) := by subst HSd; exact fun wa h => h
        have KS0 : Hid (Sc wr.drew) := by subst HSd; exact HI.out.keep (Below.refl _ _).drew
        clear HSd
        refine wp_region_held_drew (S := Sc) (by kernel_rfl) ?_ (fun hHeld => ?_)
        · exact KS0.out
        clear KS0 HI
        refine wpAnyH_take (i := 0) (v := ?_) rfl (by kernel_rfl) (by kernel_rfl) (by kernel_rfl) (fun _ _ _ h => h) (Or.inl ⟨by rfl, ?_⟩) (by assumption) ?_
        rotate_left
        · (intro wa hSw; have hI := OS.out _ hSw; have c0 := hI.bx.2 0 _ rfl; have c1 := hI.bx.2 1 _ rfl; have c2 := hI.bx.2 2 _ rfl; obtain ⟨tb9, toff9, hte, hcap9, k0, k1, k2⟩ := turn_cells hI.t hiN; simp only [Option.some.injEq, Addr.mk.injEq, and_true] at hte; obtain ⟨rfl, rfl⟩ := hte; go_simp; try with_reducible rfl)
        simp only [Act.put, List.getElem_toArray, List.getElem_cons_zero, List.setIfInBounds_toArray, List.set_cons_zero, List.set_cons_succ]
        refine wpAnyH_take (i := 1) (v := .agg cs) rfl (by kernel_rfl) (by kernel_rfl) (by kernel_rfl) (fun _ _ _ h => h) (Or.inl ⟨by rfl, ?_⟩) (by assumption) ?_
        · (intro wa hSw; have hI := OS.out _ hSw; exact exec_load_whole (ty := 114) (x := .tmp 6) (g := B6) (by rfl) (by rfl) (seat_load HSE.out hI.s))
        simp only [Act.put, List.getElem_toArray, List.getElem_cons_zero, List.getElem_cons_succ, List.setIfInBounds_toArray, List.set_cons_zero, List.set_cons_succ]
        refine wpAnyH_take (i := 2) (v := ?_) rfl (by kernel_rfl) (by kernel_rfl) (by kernel_rfl) (fun _ _ _ h => h) (Or.inl ⟨by rfl, ?_⟩) (by assumption) ?_
        rotate_left
        · (intro wa hSw; have hI := OS.out _ hSw; have c0 := hI.bx.2 0 _ rfl; have c1 := hI.bx.2 1 _ rfl; have c2 := hI.bx.2 2 _ rfl; obtain ⟨tb9, toff9, hte, hcap9, k0, k1, k2⟩ := turn_cells hI.t hiN; simp only [Option.some.injEq, Addr.mk.injEq, and_true] at hte; obtain ⟨rfl, rfl⟩ := hte; go_simp; try with_reducible rfl)
        simp only [Act.put, List.getElem_toArray, List.getElem_cons_zero, List.getElem_cons_succ, List.setIfInBounds_toArray, List.set_cons_zero, List.set_cons_succ]
        refine wpAnyH_take (i := 3) (v := ?_) rfl (by kernel_rfl) (by kernel_rfl) (by kernel_rfl) (fun _ _ _ h => h) (Or.inl ⟨by rfl, ?_⟩) (by assumption) ?_
        rotate_left
        · (intro wa hSw; have hI := OS.out _ hSw; have c0 := hI.bx.2 0 _ rfl; have c1 := hI.bx.2 1 _ rfl; have c2 := hI.bx.2 2 _ rfl; obtain ⟨tb9, toff9, hte, hcap9, k0, k1, k2⟩ := turn_cells hI.t hiN; simp only [Option.some.injEq, Addr.mk.injEq, and_true] at hte; obtain ⟨rfl, rfl⟩ := hte; go_simp; try with_reducible rfl)
        simp only [Act.put, List.getElem_toArray, List.getElem_cons_zero, List.getElem_cons_succ, List.setIfInBounds_toArray, List.set_cons_zero, List.set_cons_succ]
        refine wpAnyH_take (i := 4) (v := ?_) rfl (by kernel_rfl) (by kernel_rfl) (by kernel_rfl) (fun _ _ _ h => h) (Or.inl ⟨by rfl, ?_⟩) (by assumption) ?_
        rotate_left
        · (intro wa hSw; have hI := OS.out _ hSw; have c0 := hI.bx.2 0 _ rfl; have c1 := hI.bx.2 1 _ rfl; have c2 := hI.bx.2 2 _ rfl; obtain ⟨tb9, toff9, hte, hcap9, k0, k1, k2⟩ := turn_cells hI.t hiN; simp only [Option.some.injEq, Addr.mk.injEq, and_true] at hte; obtain ⟨rfl, rfl⟩ := hte; go_simp; try with_reducible rfl)
        simp only [Act.put, List.getElem_toArray, List.getElem_cons_zero, List.getElem_cons_succ, List.setIfInBounds_toArray, List.set_cons_zero, List.set_cons_succ]
        refine wpAnyH_take (i := 5) (v := ?_) rfl (by kernel_rfl) (by kernel_rfl) (by kernel_rfl) (fun _ _ _ h => h) (Or.inl ⟨by rfl, ?_⟩) (by assumption) ?_
        rotate_left
        · (intro wa hSw; have hI := OS.out _ hSw; have c0 := hI.bx.2 0 _ rfl; have c1 := hI.bx.2 1 _ rfl; have c2 := hI.bx.2 2 _ rfl; obtain ⟨tb9, toff9, hte, hcap9, k0, k1, k2⟩ := turn_cells hI.t hiN; simp only [Option.some.injEq, Addr.mk.injEq, and_true] at hte; obtain ⟨rfl, rfl⟩ := hte; go_simp; try with_reducible rfl)
        simp only [Act.put, List.getElem_toArray, List.getElem_cons_zero, List.getElem_cons_succ, List.setIfInBounds_toArray, List.set_cons_zero, List.set_cons_succ]
        refine wpAnyH_take (i := 6) (v := ?_) rfl (by kernel_rfl) (by kernel_rfl) (by kernel_rfl) (fun _ _ _ h => h) (Or.inl ⟨by rfl, ?_⟩) (by assumption) ?_
        rotate_left
        · (intro wa hSw; have hI := OS.out _ hSw; have c0 := hI.bx.2 0 _ rfl; have c1 := hI.bx.2 1 _ rfl; have c2 := hI.bx.2 2 _ rfl; obtain ⟨tb9, toff9, hte, hcap9, k0, k1, k2⟩ := turn_cells hI.t hiN; simp only [Option.some.injEq, Addr.mk.injEq, and_true] at hte; obtain ⟨rfl, rfl⟩ := hte; go_simp; try with_reducible rfl)
        simp only [Act.put, List.getElem_toArray, List.getElem_cons_zero, List.getElem_cons_succ, List.setIfInBounds_toArray, List.set_cons_zero, List.set_cons_succ]
        refine wpAnyH_take (i := 7) (v := ?_) rfl (by kernel_rfl) (by kernel_rfl) (by kernel_rfl) (fun _ _ _ h => h) (Or.inl ⟨by rfl, ?_⟩) (by assumption) ?_
        rotate_left
        · (intro wa hSw; have hI := OS.out _ hSw; have c0 := hI.bx.2 0 _ rfl; have c1 := hI.bx.2 1 _ rfl; have c2 := hI.bx.2 2 _ rfl; obtain ⟨tb9, toff9, hte, hcap9, k0, k1, k2⟩ := turn_cells hI.t hiN; simp only [Option.some.injEq, Addr.mk.injEq, and_true] at hte; obtain ⟨rfl, rfl⟩ := hte; go_simp; try with_reducible rfl)
        simp only [Act.put, List.getElem_toArray, List.getElem_cons_zero, List.getElem_cons_succ, List.setIfInBounds_toArray, List.set_cons_zero, List.set_cons_succ]
        refine wpAnyH_ready (rs := [8, 12]) (by kernel_rfl) (by simp) ?_
        refine AllReadyH.cons (o := _) rfl (fun K hK => ?_) (AllReadyH.cons (o := _) rfl (fun K hK => ?_) AllReadyH.nil)
        · go_simp
          refine (after_any _ d.N tc d HOK.out i hiN x cs S _ HSE.out (fun j => Nat.le_trans (HSM.out j) (by omega))).mono ?_
          rintro e w1 ⟨cs1, S1, b1, rfl, hs1, hy, hn, bb⟩
          have HY := Lib.hid hy
          have HN := Lib.hid hn
          clear hy hn
          (try go_wp2_with fail)
          refine hK.out _ _ ?_ (fun hHeld1 => ?_)
          · exact KS.out _ _ hHeld bb
          clear hK K hHeld
          refine wpAnyH_take (i := 9) (v := ?_) rfl (by kernel_rfl) (by kernel_rfl) (by kernel_rfl) (fun _ _ _ h => h) (Or.inl ⟨by rfl, ?_⟩) (by assumption) ?_
          rotate_left
          · (intro wa hSw; go_simp; try with_reducible rfl)
          simp only [Act.put, List.getElem_toArray, List.getElem_cons_zero, List.getElem_cons_succ, List.setIfInBounds_toArray, List.set_cons_zero, List.set_cons_succ]
          refine wpAnyH_take (i := 10) (v := ?_) rfl (by kernel_rfl) (by kernel_rfl) (by kernel_rfl) (fun _ _ _ h => h) (Or.inl ⟨by rfl, ?_⟩) (by assumption) ?_
          rotate_left
          · (intro wa hSw; go_simp; try with_reducible rfl)
          simp only [Act.put, List.getElem_toArray, List.getElem_cons_zero, List.getElem_cons_succ, List.setIfInBounds_toArray, List.set_cons_zero, List.set_cons_succ]
          refine wpAnyH_take (i := 11) (v := ?_) rfl (by kernel_rfl) (by kernel_rfl) (by kernel_rfl) (fun _ _ _ h => h) (Or.inl ⟨by rfl, ?_⟩) (by assumption) ?_
          rotate_left
          · (intro wa hSw; go_simp; try with_reducible rfl)
          simp only [Act.put, List.getElem_toArray, List.getElem_cons_zero, List.getElem_cons_succ, List.setIfInBounds_toArray, List.set_cons_zero, List.set_cons_succ]
          refine wpAnyH_ready (rs := [12]) (by kernel_rfl) (by simp) ?_
          refine AllReadyH.cons (o := _) rfl (fun K hK => ?_) AllReadyH.nil
          go_simp
          refine hK.out _ _ ?_ (fun hHeld2 => ?_)
          · exact KS.out _ _ hHeld1 ((Below.refl _ _).alloc (Nat.le_refl _) _)
          clear hK K
          refine wpAnyH_ready (rs := [13]) (by kernel_rfl) (by simp) ?_
          refine AllReadyH.cons (o := _) rfl (fun K hK => ?_) AllReadyH.nil
          rw [if_pos (by rfl)]
          refine wp_store_row 114 (.tmp 9) (.tmp 35) rfl w1.heap.size cs1 rfl rfl 114 zeroSeat (Whole.made w1 zeroSeat 114) (by rw [hs1.1]; exact seat_info) (by rw [hs1.1]; rfl) hs1.all ?_
          simp only [Act.put]
          refine hK.out _ _ ?_ (fun hHeld3 => ?_)
          · exact KS.out _ _ hHeld1 (below_setRow ((Below.refl _ _).alloc (Nat.le_refl _) _) (Nat.le_refl _))
          clear hK K
          refine wpAnyH_ready (rs := [14]) (by kernel_rfl) (by simp) ?_
          refine AllReadyH.cons (o := _) rfl (fun K hK => ?_) AllReadyH.nil
          go_simp
          refine hK.out _ _ ?_ (fun hHeld4 => ?_)
          · exact hHeld3
          clear hK K
          refine wpAnyH_done (by kernel_rfl) ?_ _
          have hI9 := OS.out _ hHeld4
          clear hHeld3 hHeld4 KS OS hHeld1 hHeld2
          have hB6 : B6 < w1.heap.size := Nat.lt_of_lt_of_le HLT.out bb.size
          go_wp2_with fail
          go_meet
          case rel => exact ⟨w1.heap.size, cs1, S1, b1, rfl, rfl, hs1, (Whole.made w1 zeroSeat 114).setRow (ds := cs1), HY, HN, hI9, hB6⟩
        · go_simp
          refine hK.out _ _ ?_ (fun hHeld1 => ?_)
          · exact KS.out _ _ hHeld ((Below.refl _ _).alloc (Nat.le_refl _) _)
          clear hK K
          refine wpAnyH_ready (rs := [8]) (by kernel_rfl) (by simp) ?_
          refine AllReadyH.cons (o := _) rfl (fun K hK => ?_) AllReadyH.nil
          go_simp
          refine (after_any _ d.N tc d HOK.out i hiN x cs S _ HSE.out (fun j => Nat.le_trans (HSM.out j) (by omega))).mono ?_
          rintro e w1 ⟨cs1, S1, b1, rfl, hs1, hy, hn, bb⟩
          have HY := Lib.hid hy
          have HN := Lib.hid hn
          clear hy hn
          have hz := (Whole.made wr.drew zeroSeat 114).below bb
          have HZ := Lib.hid hz
          clear hz
          (try go_wp2_with fail)
          refine hK.out _ _ ?_ (fun hHeld2 => ?_)
          · exact KS.out _ _ hHeld1 bb
          clear hK K
          refine wpAnyH_take (i := 9) (v := ?_) rfl (by kernel_rfl) (by kernel_rfl) (by kernel_rfl) (fun _ _ _ h => h) (Or.inl ⟨by rfl, ?_⟩) (by assumption) ?_
          rotate_left
          · (intro wa hSw; go_simp; try with_reducible rfl)
          simp only [Act.put, List.getElem_toArray, List.getElem_cons_zero, List.getElem_cons_succ, List.setIfInBounds_toArray, List.set_cons_zero, List.set_cons_succ]
          refine wpAnyH_take (i := 10) (v := ?_) rfl (by kernel_rfl) (by kernel_rfl) (by kernel_rfl) (fun _ _ _ h => h) (Or.inl ⟨by rfl, ?_⟩) (by assumption) ?_
          rotate_left
          · (intro wa hSw; go_simp; try with_reducible rfl)
          simp only [Act.put, List.getElem_toArray, List.getElem_cons_zero, List.getElem_cons_succ, List.setIfInBounds_toArray, List.set_cons_zero, List.set_cons_succ]
          refine wpAnyH_take (i := 11) (v := ?_) rfl (by kernel_rfl) (by kernel_rfl) (by kernel_rfl) (fun _ _ _ h => h) (Or.inl ⟨by rfl, ?_⟩) (by assumption) ?_
          rotate_left
          · (intro wa hSw; go_simp; try with_reducible rfl)
          simp only [Act.put, List.getElem_toArray, List.getElem_cons_zero, List.getElem_cons_succ, List.setIfInBounds_toArray, List.set_cons_zero, List.set_cons_succ]
          have hbb : Below wr.drew.heap.size wr.drew w1 := ((Below.refl _ _).alloc (Nat.le_refl _) _).trans (bb.mono (by simp))
          refine wpAnyH_ready (rs := [13]) (by kernel_rfl) (by simp) ?_
          refine AllReadyH.cons (o := _) rfl (fun K hK => ?_) AllReadyH.nil
          rw [if_pos (by rfl)]
          refine wp_store_row 114 (.tmp 9) (.tmp 35) rfl wr.heap.size cs1 rfl rfl 114 zeroSeat HZ.out (by rw [hs1.1]; exact seat_info) (by rw [hs1.1]; rfl) hs1.all ?_
          simp only [Act.put]
          refine hK.out _ _ ?_ (fun hHeld3 => ?_)
          · exact KS.out _ _ hHeld (below_setRow hbb (Nat.le_refl _))
          clear hK K
          refine wpAnyH_ready (rs := [14]) (by kernel_rfl) (by simp) ?_
          refine AllReadyH.cons (o := _) rfl (fun K hK => ?_) AllReadyH.nil
          go_simp
          refine hK.out _ _ ?_ (fun hHeld4 => ?_)
          · exact hHeld3
          clear hK K
          refine wpAnyH_done (by kernel_rfl) ?_ _
          have hI9 := OS.out _ hHeld4
          clear hHeld3 hHeld4 KS OS hHeld hHeld1 hHeld2
          go_wp2_with fail
          go_meet
          case rel => exact ⟨wr.heap.size, cs1, S1, b1, rfl, rfl, hs1, HZ.out.setRow (ds := cs1), HY, HN, hI9, HLT.out⟩
      case rest =>
        obtain ⟨D, cs1, S1, b, rfl, rfl, HS1, HW1, HY, HN, HI1, hBD⟩ := hcut
        have HSZ : Hid ((Try.prog.info? 114).map (·.size) = some cs1.size) := by show _ = _; rw [HS1.out.1]; exact seat_info
        cases b with
        | false =>
          have HRN : Hid (RR = none) := by show _ = _; rw [← HV3.out, if_neg (HN.out rfl)]
          have HBE : Hid (Below w.heap.size w (wc.setRow (w.heap.size + 1) zeroSeat)) := below_setRow HI1.out.b (by omega)
          have HLD : Hid ((loadVar 114 ⟨w.heap.size + 1, 0, none⟩).run Try.prog (wc.setRow (w.heap.size + 1) zeroSeat) = .ok (.agg zeroSeat) (wc.setRow (w.heap.size + 1) zeroSeat)) := seat_load zero_seat HI1.out.r.setRow
          go_wp2_with (refine wpList_store_row rfl 114 (.tmp 4) (.tmp 39) rfl (w.heap.size + 1) zeroSeat rfl rfl 114 zeroSeat HI1.out.r (by kernel_rfl) rfl zero_seat.all ?_)
          refine bodyPost_ret (v := .tuple #[.agg zeroSeat, .bool false]) (results_cell2 Try.results77 rfl rfl HLD.out) rfl ⟨zeroSeat, fun _ => 0, by rw [HRN.out]; rfl, zero_seat, (fun S' h => by rw [HRN.out] at h; cases h), HBE.out⟩
        | true =>
          obtain ⟨hx9, he⟩ := HY.out rfl
          have HVN : Hid (foldS d (L.drop (i + 1)) (i + 1) S1 = RR) := by show _ = _; rw [he, ← HV3.out, if_pos hx9]
          have HSN : Hid (SmallS S1 (i + 1)) := by show SmallS S1 (i + 1); rw [he]; exact HSM.out.next
          have HSE2 : Hid (cs.size = cs1.size) := by show _ = _; rw [HSE.out.1, HS1.out.1]
          have HAL : Hid (cs1.all (·.oneCell') = true) := HS1.out.all
          have HIN := Lib.hid (HI1.out.put cs1 HWs.out HT.out)
          clear he hx9 HY HN HV3
          go_wp2_with (first | (refine wpList_load_row rfl 114 (.tmp 9) rfl D rfl 114 cs1 (0, 0) _ HW1.out Try.underlying114 rfl HSZ.out ?_) | (refine wpList_store_row rfl 114 (.tmp 6) (.tmp 40) rfl B6 cs1 rfl rfl 114 cs HI1.out.s HSZ.out HSE2.out HAL.out ?_))
          go_roundw
          case rel => exact ⟨i + 1, cs1, S1, by omega, by go_num, HVN, HS1, HSN, HIN⟩
          case measure => simp [RowKit.intOf]; omega
    obtain rfl : i = m := by omega
    have HRS : Hid (RR = some S) := by show _ = _; rw [← HV0.out, List.drop_of_length_le (by have := HM.out; omega)]; rfl
    have HSZ : Hid ((Try.prog.info? 114).map (·.size) = some cs.size) := by show _ = _; rw [HSE.out.1]; exact seat_info
    have HSE2 : Hid (zeroSeat.size = cs.size) := by show _ = _; rw [HSE.out.1]; rfl
    have HAL : Hid (cs.all (·.oneCell') = true) := HSE.out.all
    have HBE : Hid (Below w.heap.size w (wr.setRow (w.heap.size + 1) cs)) := below_setRow HI.out.b (by omega)
    have HLD : Hid ((loadVar 114 ⟨w.heap.size + 1, 0, none⟩).run Try.prog (wr.setRow (w.heap.size + 1) cs) = .ok (.agg cs) (wr.setRow (w.heap.size + 1) cs)) := seat_load HSE.out HI.out.r.setRow
    go_wp2_with (first | (refine wpList_load_row rfl 114 (.tmp 6) rfl B6 rfl 114 cs (0, 0) _ HI.out.s Try.underlying114 rfl HSZ.out ?_) | (refine wpList_store_row rfl 114 (.tmp 4) (.tmp 42) rfl (w.heap.size + 1) cs rfl rfl 114 zeroSeat HI.out.r HSZ.out HSE2.out HAL.out ?_))
    refine bodyPost_ret (v := .tuple #[.agg cs, .bool true]) (results_cell2 Try.results77 rfl rfl HLD.out) rfl ⟨cs, S, by rw [HRS.out]; rfl, HSE.out, (fun S' h => by rw [HRS.out] at h; cases h; rfl), HBE.out⟩
end Go.Proofs.Ytmhkkdnopcdibaa
set_option linter.unusedVariables false
namespace Go.Proofs.Ytmhkkdnopcdibaa
open Go.RowKit

theorem fold_beg {d : DrwD} (ok : DrwOk d) (L : List Int) : (foldP d L).isSome = (begB d L noP noC).isSome := by
  unfold foldP begB
  by_cases hl : L.length ≤ d.N
  · rw [if_pos hl, if_pos hl]
    have h := Sim.fold ok L 0 (fun _ => 0) noP noC (by omega) (Sim.start d)
    cases hf : foldS d L 0 (fun _ => 0) with
    | none => rw [h.2 hf]; rfl
    | some S => obtain ⟨P, C, h1, _⟩ := h.1 S hf; rw [h1]; rfl
  · rw [if_neg hl, if_neg hl]; rfl
set_option maxRecDepth 100000 in
set_option maxHeartbeats 4000000 in
theorem has_impl (ta : Option Addr) (tc : Nat) (d : DrwD) (ok : DrwOk d) (vp : Value) (L : List Int) (R : Bool) (w : World) (hR : R = ((foldP d L).isSome && decide (L.length = d.N))) (hT : TurnsAt w (.slice ta d.N tc) d) (hv : IntRow w vp L.length (getI L)) :
    Calls Try.prog 52 #[.agg #[.slice ta d.N tc, .int .i64 d.G, .int .i64 d.most], vp] w fun e w' => e = .returned (.bool R) ∧ Below w.heap.size w w' := by
  obtain ⟨va, vc, rfl, hl9, _⟩ := hv.form
  obtain ⟨W, hW⟩ : ∃ W, w.alloc (.cells #[.slice ta d.N tc, .int .i64 d.G, .int .i64 d.most] 61) = W := ⟨_, rfl⟩
  have b1 : Below w.heap.size w W := by rw [← hW]; exact (Below.refl w.heap.size w).alloc (Nat.le_refl _) _
  have HX : Hid (BoxN W w.heap.size [.slice ta d.N tc, .int .i64 d.G, .int .i64 d.most]) := by rw [← hW]; exact BoxN.made (Below.refl _ _) rfl
  have CA := Lib.hid (afterAll_impl ta tc d ok (.slice va L.length vc) L W (RecRow.below hT b1 (Nat.le_refl _)) (hv.below b1 (Nat.le_refl _)))
  have HB := Lib.hid b1
  have HR := Lib.hid hR
  have hN8 := ok.N
  obtain ⟨m, hm⟩ : ∃ m, L.length = m := ⟨_, rfl⟩
  rw [hm] at hl9 CA HR ⊢
  obtain ⟨RR, hRR⟩ : ∃ RR, foldP d L = RR := ⟨_, rfl⟩
  rw [hRR] at CA HR
  clear hm hRR hv hT b1 ok hR
  have c0 := HX.out.2 0 _ rfl
  have c1 := HX.out.2 1 _ rfl
  have c2 := HX.out.2 2 _ rfl
  have z0 := HX.out.1
  go_enter Try.func52, Try.ntmps52
  go_wp2_with fail
  clear hW c0 c1 c2
  refine CA.out.mono ?_
  rintro e w1 ⟨cs, S, rfl, hs, _, b⟩
  have HS := Lib.hid hs
  have HB1 := Lib.hid (HB.out.trans (b.mono HB.out.size))
  have HX1 := Lib.hid (HX.out.below b)
  have HZ : Hid (Whole (w1.alloc (.cells zeroSeat 114)) w1.heap.size zeroSeat 114) := Whole.made _ _ _
  have HX2 : Hid (BoxN ((w1.alloc (.cells zeroSeat 114)).setRow w1.heap.size cs) w.heap.size [.slice ta d.N tc, .int .i64 d.G, .int .i64 d.most]) :=
    (HX1.out.below ((Below.refl _ _).alloc (Nat.le_refl _) _)).sameD (by simp [World.setRow]) (setRow_other _ _ _ _ (by have := HX1.out.1; omega))
  have HB2 : Hid (Below w.heap.size w ((w1.alloc (.cells zeroSeat 114)).setRow w1.heap.size cs)) := below_setRow (HB1.out.alloc HB1.out.size _) HB1.out.size
  have HSZ : Hid ((Try.prog.info? 114).map (·.size) = some cs.size) := by show _ = _; rw [hs.1]; exact seat_info
  have HSE : Hid (zeroSeat.size = cs.size) := by show _ = _; rw [hs.1]; rfl
  have HAL : Hid (cs.all (·.oneCell') = true) := hs.all
  clear hs b CA HX HB HX1
  go_upto_region 2 with (refine wpList_store_row rfl 114 (.tmp 5) (.tmp 11) rfl w1.heap.size cs rfl rfl 114 zeroSeat HZ.out HSZ.out HSE.out HAL.out ?_)
  have hx2 := HX2.out
  have hb2 := HB2.out
  simp only [zeroSeat] at hx2 hb2
  have c0 := hx2.2 0 _ rfl
  have z0 := hx2.1
  have HB3 := Lib.hid hb2
  clear hx2 hb2 HX2 HB2 HSZ HSE HAL HZ
  obtain ⟨bs, hbs⟩ : ∃ bs, RR.isSome = bs := ⟨_, rfl⟩
  rw [hbs] at HR ⊢
  clear hbs
  cases bs with
  | false =>
    obtain rfl : R = false := HR.out
    go_wp2
    go_ret
    exact ⟨rfl, HB3.out⟩
  | true =>
    have g1 : ((m : Int) == (d.N : Int)) = R := by
      rw [HR.out, Bool.true_and, Bool.eq_iff_iff, beq_iff_eq, decide_eq_true_eq]
      omega
    go_wp2
    go_ret
    exact ⟨rfl, HB3.out⟩
theorem TurnsAt.form {w : World} {v : Value} {d : DrwD} (h : TurnsAt w v d) : ∃ ta tc, v = .slice ta d.N tc := by
  obtain ⟨a, c, h1, _⟩ := RecRow.form h
  exact ⟨a, c, h1⟩
set_option maxRecDepth 100000 in
set_option maxHeartbeats 4000000 in
theorem isDraw_impl (vf : Value) (nf : Nat) (F : Nat → TeamD) (vp : Value) (gr most : Int) (T : List (List Int)) (vd : Value) (L : List Int) (R : Bool) (w : World) (hR : R = true ↔ potsP nf F T gr most ∧ isB F T gr most L = true) (hf : TeamRow w vf nf F) (hs : ∀ i, (F i).nm.size ≤ maxLen) (h : RdA tIntSS w [vp] T) (hw : tIntSS.wt T ≤ 1048576) (hd : IntRow w vd L.length (getI L)) :
    Calls Try.prog 17 #[vf, .agg #[vp, .int .i64 gr, .int .i64 most], vd] w fun e w' => e = .returned (.bool R) ∧ Below w.heap.size w w' := by
  obtain ⟨pa, pc, rfl, hpn⟩ := pots_form h
  obtain ⟨da, dc, rfl, hdn, _⟩ := hd.form
  obtain ⟨U, hU⟩ : ∃ U, w.alloc (.cells #[.slice pa (List.length (α := List Int) T) pc, .int .i64 gr, .int .i64 most] 26) = U := ⟨_, rfl⟩
  have bU : Below w.heap.size w U := by rw [← hU]; exact (Below.refl _ _).alloc (Nat.le_refl _) _
  have HS : Hid (PotsAt U w.heap.size pa (List.length (α := List Int) T) pc gr most T) := by rw [← hU]; exact PotsAt.made h
  have HB := Lib.hid bU
  have HD : Hid (IntRow U (.slice da L.length dc) L.length (getI L)) := hd.below bU (Nat.le_refl _)
  have hf1 := hf.below bU (Nat.le_refl _)
  obtain ⟨fa, fc, rfl, hfn, _⟩ := hf.form
  by_cases hp : potsP nf F T gr most
  case neg =>
    obtain rfl : R = false := by cases R with | false => rfl | true => exact absurd (hR.1 rfl).1 hp
    have CF := Lib.hid (drawingOf_no (.slice fa nf fc) nf F (.slice pa (List.length (α := List Int) T) pc) gr most T U hp hf1 hs HS.out.2 hw)
    generalize List.length (α := List Int) T = np at *
    generalize L.length = m at *
    have c0 := HS.out.1.2 0 _ rfl
    have c1 := HS.out.1.2 1 _ rfl
    have c2 := HS.out.1.2 2 _ rfl
    clear hp hR h hd hf hf1 hs hw bU
    go_enter Try.func17, Try.ntmps17
    go_wp2_with fail
    clear hU c0 c1 c2
    refine CF.out.mono ?_
    rintro e w1 ⟨rfl, b⟩
    have HB1 := Lib.hid (HB.out.trans (b.mono HB.out.size))
    clear b CF
    go_wp2
    go_ret
    exact ⟨rfl, HB1.out.alloc HB1.out.size _⟩
  have CF := Lib.hid (drawingOf_yes (.slice fa nf fc) nf F (.slice pa (List.length (α := List Int) T) pc) gr most T U hp hf1 hs HS.out.2 hw)
  have HOK := Lib.hid (drw_ok hp)
  have HRR : Hid (R = ((foldP (drwD F T gr most) L).isSome && decide (L.length = (drwD F T gr most).N))) := by
    show R = _
    rw [fold_beg HOK.out, Bool.eq_iff_iff, hR]
    unfold isB
    rw [Bool.and_comm]
    exact ⟨fun h => h.2, fun h => ⟨hp, h⟩⟩
  generalize drwD F T gr most = d at *
  obtain ⟨m, hm⟩ : ∃ m, L.length = m := ⟨_, rfl⟩
  have HM := Lib.hid hm
  rw [hm] at hdn ⊢
  generalize List.length (α := List Int) T = np at *
  have c0 := HS.out.1.2 0 _ rfl
  have c1 := HS.out.1.2 1 _ rfl
  have c2 := HS.out.1.2 2 _ rfl
  clear hp hR h hd hf hf1 hs hw bU hm
  go_enter Try.func17, Try.ntmps17
  go_wp2_with fail
  clear hU c0 c1 c2
  refine CF.out.mono ?_
  rintro e w1 ⟨tv, rfl, ht, b⟩
  obtain ⟨ta, tc, rfl⟩ := ht.form
  have HT1 := Lib.hid ht
  have HB1 := Lib.hid (HB.out.trans (b.mono HB.out.size))
  have HD1 : Hid (IntRow w1 (.slice da m dc) m (getI L)) := by
    have h9 := HD.out.below b (Nat.le_refl _)
    rw [HM.out] at h9
    exact h9
  have CA : Hid (∀ wa, Below w1.heap.size w1 wa → Calls Try.prog 52 #[.agg #[.slice ta d.N tc, .int .i64 d.G, .int .i64 d.most], .slice da m dc] wa fun e w' => e = .returned (.bool R) ∧ Below wa.heap.size wa w') := fun wa hb => by
    have h9 := has_impl ta tc d HOK.out (.slice da m dc) L R wa HRR.out (RecRow.below HT1.out hb (Nat.le_refl _))
    rw [HM.out] at h9
    exact h9 (HD1.out.below hb (Nat.le_refl _))
  clear b ht CF HS HB HD
  go_wp2_with fail
  refine (CA.out _ ((Below.refl _ _).alloc (Nat.le_refl _) _)).mono ?_
  rintro e w2 ⟨rfl, b⟩
  have HB2 : Hid (Below w.heap.size w w2) := HB1.out.trans ((((Below.refl _ _).alloc (Nat.le_refl _) _).trans (b.mono (by simp))).mono HB1.out.size)
  clear b CA
  go_wp2
  go_ret
  exact ⟨rfl, HB2.out⟩
end Go.Proofs.Ytmhkkdnopcdibaa
set_option linter.unusedVariables false
namespace Go.Proofs.Ytmhkkdnopcdibaa
open Go.RowKit Go.Sort Go.Shelf

def lexC (x y : Nat → Nat) : Nat → Nat → Int
  | _, 0 => 0
  | k, n + 1 => if Lib.compareInt (x k) (y k) = 0 then lexC x y (k + 1) n else Lib.compareInt (x k) (y k)
def lexB (x y : Nat → Nat) : Nat → Nat → Bool
  | _, 0 => false
  | k, n + 1 => decide (x k < y k) || (decide (x k = y k) && lexB x y (k + 1) n)
theorem cmpI_zero (a b : Nat) : Lib.compareInt (a : Int) (b : Int) = 0 ↔ a = b := by
  unfold Lib.compareInt
  by_cases h1 : (a : Int) < (b : Int)
  · rw [if_pos h1]; constructor <;> intro h <;> omega
  · rw [if_neg h1]
    by_cases h2 : (b : Int) < (a : Int)
    · rw [if_pos h2]; constructor <;> intro h <;> omega
    · rw [if_neg h2]; constructor <;> intro h <;> omega
theorem cmpI_neg (a b : Nat) : Lib.compareInt (a : Int) (b : Int) < 0 ↔ a < b := by
  unfold Lib.compareInt
  by_cases h1 : (a : Int) < (b : Int)
  · rw [if_pos h1]; constructor <;> intro h <;> omega
  · rw [if_neg h1]
    by_cases h2 : (b : Int) < (a : Int)
    · rw [if_pos h2]; constructor <;> intro h <;> omega
    · rw [if_neg h2]; constructor <;> intro h <;> omega
theorem lex_lt (x y : Nat → Nat) : ∀ n k, decide (lexC x y k n < 0) = lexB x y k n
  | 0, k => rfl
  | n + 1, k => by
    unfold lexC lexB
    by_cases e : x k = y k
    · rw [if_pos ((cmpI_zero _ _).2 e), lex_lt x y n (k + 1), decide_eq_false (by omega), decide_eq_true e]
      simp
    · have e2 : decide (Lib.compareInt (x k : Int) (y k : Int) < 0) = decide (x k < y k) := decide_eq_decide.2 (cmpI_neg (x k) (y k))
      rw [if_neg (fun h => e ((cmpI_zero _ _).1 h)), decide_eq_false e, e2]
      simp
theorem lex_irrefl (x : Nat → Nat) : ∀ n k, lexB x x k n = false
  | 0, k => rfl
  | n + 1, k => by unfold lexB; rw [lex_irrefl x n (k + 1)]; simp
theorem lex_trans (x y z : Nat → Nat) : ∀ n k, lexB x y k n = true → lexB y z k n = true → lexB x z k n = true
  | 0, k, h, _ => by cases h
  | n + 1, k, h1, h2 => by
    unfold lexB at *
    simp only [Bool.or_eq_true, Bool.and_eq_true, decide_eq_true_eq] at *
    rcases h1 with h1 | ⟨h1, h1'⟩ <;> rcases h2 with h2 | ⟨h2, h2'⟩
    · left; omega
    · left; omega
    · left; omega
    · right; exact ⟨by omega, lex_trans x y z n (k + 1) h1' h2'⟩
theorem lex_ntrans (x y z : Nat → Nat) : ∀ n k, lexB x y k n = false → lexB y z k n = false → lexB x z k n = false
  | 0, k, _, _ => rfl
  | n + 1, k, h1, h2 => by
    unfold lexB at *
    simp only [Bool.or_eq_false_iff, Bool.and_eq_false_iff, decide_eq_false_iff_not] at *
    refine ⟨by omega, ?_⟩
    by_cases e : x k = z k
    · right
      exact lex_ntrans x y z n (k + 1) (h1.2.resolve_left (by omega)) (h2.2.resolve_left (by omega))
    · exact .inl e
def seatCf (x y : Nat → Nat) : Int := lexC x y 0 7
theorem seatLt (x y : Nat → Nat) : ltOf seatCf x y = lexB x y 0 7 := lex_lt x y 7 0
theorem seatSwo : SWO (ltOf seatCf) where
  irrefl x := by rw [seatLt]; exact lex_irrefl x 7 0
  trans x y z h1 h2 := by rw [seatLt] at *; exact lex_trans x y z 7 0 h1 h2
  ntrans x y z h1 h2 := by rw [seatLt] at *; exact lex_ntrans x y z 7 0 h1 h2
def seatE (x : Nat → Nat) : List Value := [.int .i8 (x 0 : Int), .int .i8 (x 1 : Int), .int .i8 (x 2 : Int), .int .i8 (x 3 : Int), .int .i8 (x 4 : Int), .int .i8 (x 5 : Int), .int .i8 (x 6 : Int)]
theorem isNaN8 (a : Int) (w : World) : Calls Try.prog 117 #[.int .i8 a] w fun e w' => e = .returned (.bool false) ∧ w = w' := by
  go_enter Try.func117, Try.ntmps117
  go_wp2
  go_ret
  exact ⟨by simp, rfl⟩
theorem compare8 (a b : Int) (w : World) : Calls Try.prog 103 #[.int .i8 a, .int .i8 b] w fun e w' => e = .returned (.int .i64 (Lib.compareInt a b)) ∧ w = w' := by
  unfold Lib.compareInt
  by_cases h1 : a < b
  · rw [if_pos h1]
    go_enter Try.func103, Try.ntmps103
    go_wp2_with fail
    refine (isNaN8 a w).mono ?_
    rintro e w1 ⟨rfl, rfl⟩
    go_wp2_with fail
    refine (isNaN8 b w).mono ?_
    rintro e w1 ⟨rfl, rfl⟩
    go_wp2
    go_ret
    exact ⟨rfl, rfl⟩
  · rw [if_neg h1]
    by_cases h2 : b < a
    · rw [if_pos h2]
      go_enter Try.func103, Try.ntmps103
      go_wp2_with fail
      refine (isNaN8 a w).mono ?_
      rintro e w1 ⟨rfl, rfl⟩
      go_wp2_with fail
      refine (isNaN8 b w).mono ?_
      rintro e w1 ⟨rfl, rfl⟩
      go_wp2
      go_ret
      exact ⟨rfl, rfl⟩
    · rw [if_neg h2]
      go_enter Try.func103, Try.ntmps103
      go_wp2_with fail
      refine (isNaN8 a w).mono ?_
      rintro e w1 ⟨rfl, rfl⟩
      go_wp2_with fail
      refine (isNaN8 b w).mono ?_
      rintro e w1 ⟨rfl, rfl⟩
      go_wp2
      go_ret
      exact ⟨rfl, rfl⟩
theorem lex_step (x y : Nat → Nat) (k n : Nat) : lexC x y k (n + 1) = if Lib.compareInt (x k) (y k) = 0 then lexC x y (k + 1) n else Lib.compareInt (x k) (y k) := rfl
set_option maxRecDepth 100000 in
set_option maxHeartbeats 2000000 in
theorem compareL8 (b1 o1 b2 o2 : Nat) (x y : Nat → Nat) (w : World) (hx : ∀ j, j < 6 → w.cell? ⟨b1, o1 + j, none⟩ = some (.int .i8 (x (1 + j) : Int))) (hy : ∀ j, j < 6 → w.cell? ⟨b2, o2 + j, none⟩ = some (.int .i8 (y (1 + j) : Int))) :
    Calls Try.prog 104 #[.slice (some ⟨b1, o1, none⟩) 6 6, .slice (some ⟨b2, o2, none⟩) 6 6] w fun e w' => e = .returned (.int .i64 (lexC x y 1 6)) ∧ w = w' := by
  have HX := Lib.hid hx
  have HY := Lib.hid hy
  obtain ⟨R, hR⟩ : ∃ R, lexC x y 1 6 = R := ⟨_, rfl⟩
  have HR := Lib.hid hR
  rw [hR]
  clear hx hy hR
  go_enter Try.func104, Try.ntmps104
  go_wp2
  go_loop [11] (fun iv => ∃ k : Nat, k ≤ 6 ∧ iv = .int .i64 k ∧ Hid (lexC x y (1 + k) (6 - k) = R)) (fun iv => 6 - (RowKit.intOf iv).toNat)
  case atStart => exact ⟨0, Nat.zero_le _, rfl, HR.out⟩
  case round =>
    obtain ⟨k, hk, rfl, HV⟩ := hrel
    by_cases hlt : k < 6
    · have hj1 : (k : Int) < 6 := by omega
      have k1 := HX.out k hlt
      have k2 := HY.out k hlt
      have HV2 : Hid ((if Lib.compareInt (x (1 + k)) (y (1 + k)) = 0 then lexC x y (1 + k + 1) (6 - (k + 1)) else Lib.compareInt (x (1 + k)) (y (1 + k))) = R) := by
        have h9 := HV.out
        rw [show 6 - k = (6 - (k + 1)) + 1 by omega, lex_step] at h9
        exact h9
      have CC := Lib.hid (compare8 (x (1 + k)) (y (1 + k)) w)
      clear HV
      obtain ⟨c, hc⟩ : ∃ c, Lib.compareInt (x (1 + k)) (y (1 + k)) = c := ⟨_, rfl⟩
      rw [hc] at HV2 CC
      clear hc
      go_wp2_with fail
      refine CC.out.mono ?_
      rintro e w1 ⟨rfl, rfl⟩
      by_cases h0 : c = 0
      · subst h0
        have HV3 : Hid (lexC x y (1 + (k + 1)) (6 - (k + 1)) = R) := by have h9 := HV2.out; rw [if_pos rfl] at h9; rw [← Nat.add_assoc]; exact h9
        go_wp2
        go_round
        case rel => exact ⟨k + 1, by omega, by go_num, HV3⟩
        case measure => simp [RowKit.intOf]; omega
      · have g1 : (c == 0) = false := by simp [h0]
        have g2 : (c != 0) = true := by simp [h0]
        obtain rfl : c = R := by have h9 := HV2.out; rw [if_neg h0] at h9; exact h9
        go_wp2
        go_ret
        exact ⟨rfl, rfl⟩
    obtain rfl : k = 6 := by omega
    obtain rfl : 0 = R := HV.out
    go_wp2
    go_ret
    exact ⟨rfl, rfl⟩
set_option maxRecDepth 100000 in
set_option maxHeartbeats 2000000 in
theorem or2 (D : Nat) (c s : Int) (w : World) (h0 : w.cell? ⟨D, 0, none⟩ = some (.int .i64 c)) (h1 : w.cell? ⟨D, 1, none⟩ = some (.int .i64 s)) :
    Calls Try.prog 102 #[.slice (some ⟨D, 0, none⟩) 2 2] w fun e w' => e = .returned (.int .i64 (if c = 0 then s else c)) ∧ w = w' := by
  obtain ⟨R, hR⟩ : ∃ R, (if c = 0 then s else c) = R := ⟨_, rfl⟩
  have HR := Lib.hid hR
  rw [hR]
  clear hR
  go_enter Try.func102, Try.ntmps102
  go_wp2
  go_loop [8] (fun iv => ∃ k : Nat, k ≤ 2 ∧ iv = .int .i64 k ∧ Hid (0 < k → c = 0) ∧ Hid (1 < k → s = 0)) (fun iv => 2 - (RowKit.intOf iv).toNat)
  case atStart => exact ⟨0, by omega, rfl, (fun h => absurd h (by omega)), (fun h => absurd h (by omega))⟩
  case round =>
    obtain ⟨k, hk, rfl, HC, HSS⟩ := hrel
    have hk3 : k = 0 ∨ k = 1 ∨ k = 2 := by omega
    rcases hk3 with rfl | rfl | rfl
    · by_cases hc : c = 0
      · have g1 : (c == 0) = true := by simp [hc]
        have g2 : (c != 0) = false := by simp [hc]
        have H1 : Hid (0 < 1 → c = 0) := fun _ => hc
        clear hc
        go_wp2
        go_round
        case rel => exact ⟨1, by omega, rfl, H1, fun h => absurd h (by omega)⟩
        case measure => simp [RowKit.intOf]
      · have g1 : (c == 0) = false := by simp [hc]
        have g2 : (c != 0) = true := by simp [hc]
        obtain rfl : c = R := by have h9 := HR.out; rw [if_neg hc] at h9; exact h9
        go_wp2
        go_ret
        exact ⟨rfl, rfl⟩
    · have hc : c = 0 := HC.out (by omega)
      by_cases hs : s = 0
      · have g1 : (s == 0) = true := by simp [hs]
        have g2 : (s != 0) = false := by simp [hs]
        have H1 : Hid (1 < 2 → s = 0) := fun _ => hs
        have H0 : Hid (0 < 2 → c = 0) := fun _ => hc
        clear hc hs h0
        go_wp2
        go_round
        case rel => exact ⟨2, by omega, rfl, H0, H1⟩
        case measure => simp [RowKit.intOf]
      · have g1 : (s == 0) = false := by simp [hs]
        have g2 : (s != 0) = true := by simp [hs]
        obtain rfl : s = R := by have h9 := HR.out; rw [if_pos hc] at h9; exact h9
        clear hc h0
        go_wp2
        go_ret
        exact ⟨rfl, rfl⟩
    · have hc : c = 0 := HC.out (by omega)
      have hs : s = 0 := HSS.out (by omega)
      obtain rfl : 0 = R := by have h9 := HR.out; rw [if_pos hc, hs] at h9; exact h9
      clear hc hs h0 h1
      go_wp2
      go_ret
      exact ⟨rfl, rfl⟩
theorem at7 {w : World} {B : Nat} {x : Nat → Nat} (h : ∀ j v, (seatE x)[j]? = some v → w.cell? ⟨B, j, none⟩ = some v) : ∀ j, j < 6 → w.cell? ⟨B, 1 + j, none⟩ = some (.int .i8 (x (1 + j) : Int)) := fun j hj => by
  have : j = 0 ∨ j = 1 ∨ j = 2 ∨ j = 3 ∨ j = 4 ∨ j = 5 := by omega
  rcases this with rfl | rfl | rfl | rfl | rfl | rfl <;> exact h _ _ rfl
set_option maxRecDepth 100000 in
set_option maxHeartbeats 4000000 in
theorem compareSeatings_any (x y : Nat → Nat) (w : World) :
    Calls Try.prog 93 #[.agg (seatE x).toArray, .agg (seatE y).toArray] w fun e w' => e = .returned (.int .i64 (seatCf x y)) ∧ ∃ q os', w' = grow (w.drewN q) os' := by
  obtain ⟨W, hW⟩ : ∃ W, (w.alloc (.cells (seatE x).toArray 112)).alloc (.cells (seatE y).toArray 112) = W := ⟨_, rfl⟩
  have HA : Hid (BoxN W w.heap.size (seatE x)) := by
    rw [← hW]
    exact (BoxN.made (cs := (seatE x).toArray) (Below.refl _ _) rfl).below ((Below.refl _ _).alloc (Nat.le_refl _) _)
  have HB : Hid (BoxN W (w.heap.size + 1) (seatE y)) := by
    rw [← hW]
    exact BoxN.made (cs := (seatE y).toArray) (Below.refl _ _) (by simp)
  have HWG : Hid (∃ os, W = grow w os) := by rw [← hW]; exact ⟨_, by rw [alloc_eq_grow, alloc_eq_grow, grow_grow]⟩

  have HW := Lib.hid hW
  have HCF : Hid (seatCf x y = if Lib.compareInt (x 0 : Int) (y 0 : Int) = 0 then lexC x y 1 6 else Lib.compareInt (x 0 : Int) (y 0 : Int)) := rfl
  clear hW
  go_enter Try.func93, Try.ntmps93
  go_upto_region 1 with fail
  rw [HW.out]
  clear HW
  obtain ⟨Sc, HSd⟩ : ∃ Sc : World → Prop, Sc = fun w' => BoxN w' w.heap.size (seatE x) ∧ BoxN w' (w.heap.size + 1) (seatE y) := ⟨_, rfl⟩
  have KS : Hid (∀ wa wb, Sc wa → Below wa.heap.size wa wb → Sc wb) := by subst HSd; exact fun wa wb h b => ⟨h.1.below b, h.2.below b⟩
  have OS : Hid (∀ wa, Sc wa → BoxN wa w.heap.size (seatE x) ∧ BoxN wa (w.heap.size + 1) (seatE y)) := by subst HSd; exact fun wa h => h
  have KS0 : Hid (Sc W.drew) := by subst HSd; exact ⟨HA.out.below (Below.refl _ _).drew, HB.out.below (Below.refl _ _).drew⟩
  clear HSd HA HB
  refine wp_region_held_drew (S := Sc) (by kernel_rfl) ?_ (fun hHeld => ?_)
  · exact KS0.out
  clear KS0
  refine wpAnyH_take (i := 0) (v := ?_) rfl (by kernel_rfl) (by kernel_rfl) (by kernel_rfl) (fun _ _ _ h => h) (Or.inl ⟨by rfl, ?_⟩) (by assumption) ?_
  rotate_left
  · (intro wa hSw; obtain ⟨hA, hB⟩ := OS.out _ hSw; have c0 := hA.2 0 _ rfl; have d0 := hB.2 0 _ rfl; have zA := hA.1; have zB := hB.1; go_simp; try with_reducible rfl)
  simp only [Act.put, List.getElem_toArray, List.getElem_cons_zero, List.setIfInBounds_toArray, List.set_cons_zero, List.set_cons_succ]
  refine wpAnyH_take (i := 1) (v := ?_) rfl (by kernel_rfl) (by kernel_rfl) (by kernel_rfl) (fun _ _ _ h => h) (Or.inl ⟨by rfl, ?_⟩) (by assumption) ?_
  rotate_left
  · (intro wa hSw; obtain ⟨hA, hB⟩ := OS.out _ hSw; have c0 := hA.2 0 _ rfl; have d0 := hB.2 0 _ rfl; have zA := hA.1; have zB := hB.1; go_simp; try with_reducible rfl)
  simp only [Act.put, List.getElem_toArray, List.getElem_cons_zero, List.getElem_cons_succ, List.setIfInBounds_toArray, List.set_cons_zero, List.set_cons_succ]
  refine wpAnyH_take (i := 2) (v := ?_) rfl (by kernel_rfl) (by kernel_rfl) (by kernel_rfl) (fun _ _ _ h => h) (Or.inl ⟨by rfl, ?_⟩) (by assumption) ?_
  rotate_left
  · (intro wa hSw; obtain ⟨hA, hB⟩ := OS.out _ hSw; have c0 := hA.2 0 _ rfl; have d0 := hB.2 0 _ rfl; have zA := hA.1; have zB := hB.1; go_simp; try with_reducible rfl)
  simp only [Act.put, List.getElem_toArray, List.getElem_cons_zero, List.getElem_cons_succ, List.setIfInBounds_toArray, List.set_cons_zero, List.set_cons_succ]
  refine wpAnyH_take (i := 3) (v := ?_) rfl (by kernel_rfl) (by kernel_rfl) (by kernel_rfl) (fun _ _ _ h => h) (Or.inl ⟨by rfl, ?_⟩) (by assumption) ?_
  rotate_left
  · (intro wa hSw; obtain ⟨hA, hB⟩ := OS.out _ hSw; have c0 := hA.2 0 _ rfl; have d0 := hB.2 0 _ rfl; have zA := hA.1; have zB := hB.1; go_simp; try with_reducible rfl)
  simp only [Act.put, List.getElem_toArray, List.getElem_cons_zero, List.getElem_cons_succ, List.setIfInBounds_toArray, List.set_cons_zero, List.set_cons_succ]
  refine wpAnyH_take (i := 5) (v := ?_) rfl (by kernel_rfl) (by kernel_rfl) (by kernel_rfl) (fun _ _ _ h => h) (Or.inl ⟨by rfl, ?_⟩) (by assumption) ?_
  rotate_left
  · (intro wa hSw; obtain ⟨hA, hB⟩ := OS.out _ hSw; have c0 := hA.2 0 _ rfl; have d0 := hB.2 0 _ rfl; have zA := hA.1; have zB := hB.1; go_simp; try with_reducible rfl)
  simp only [Act.put, List.getElem_toArray, List.getElem_cons_zero, List.getElem_cons_succ, List.setIfInBounds_toArray, List.set_cons_zero, List.set_cons_succ]
  refine wpAnyH_take (i := 6) (v := ?_) rfl (by kernel_rfl) (by kernel_rfl) (by kernel_rfl) (fun _ _ _ h => h) (Or.inl ⟨by rfl, ?_⟩) (by assumption) ?_
  rotate_left
  · (intro wa hSw; obtain ⟨hA, hB⟩ := OS.out _ hSw; have c0 := hA.2 0 _ rfl; have d0 := hB.2 0 _ rfl; have zA := hA.1; have zB := hB.1; go_simp; try with_reducible rfl)
  simp only [Act.put, List.getElem_toArray, List.getElem_cons_zero, List.getElem_cons_succ, List.setIfInBounds_toArray, List.set_cons_zero, List.set_cons_succ]
  refine wpAnyH_take (i := 7) (v := ?_) rfl (by kernel_rfl) (by kernel_rfl) (by kernel_rfl) (fun _ _ _ h => h) (Or.inl ⟨by rfl, ?_⟩) (by assumption) ?_
  rotate_left
  · (intro wa hSw; obtain ⟨hA, hB⟩ := OS.out _ hSw; have c0 := hA.2 0 _ rfl; have d0 := hB.2 0 _ rfl; have zA := hA.1; have zB := hB.1; go_simp; try with_reducible rfl)
  simp only [Act.put, List.getElem_toArray, List.getElem_cons_zero, List.getElem_cons_succ, List.setIfInBounds_toArray, List.set_cons_zero, List.set_cons_succ]
  refine wpAnyH_take (i := 8) (v := ?_) rfl (by kernel_rfl) (by kernel_rfl) (by kernel_rfl) (fun _ _ _ h => h) (Or.inl ⟨by rfl, ?_⟩) (by assumption) ?_
  rotate_left
  · (intro wa hSw; obtain ⟨hA, hB⟩ := OS.out _ hSw; have c0 := hA.2 0 _ rfl; have d0 := hB.2 0 _ rfl; have zA := hA.1; have zB := hB.1; go_simp; try with_reducible rfl)
  simp only [Act.put, List.getElem_toArray, List.getElem_cons_zero, List.getElem_cons_succ, List.setIfInBounds_toArray, List.set_cons_zero, List.set_cons_succ]
  refine wpAnyH_ready (rs := [4]) (by kernel_rfl) (by simp) ?_
  refine AllReadyH.cons (o := _) rfl (fun K hK => ?_) AllReadyH.nil
  go_simp
  refine (compare8 (x 0) (y 0) _).mono ?_
  rintro e w1 ⟨rfl, rfl⟩
  (try go_wp2_with fail)
  refine hK.out _ _ hHeld (fun hHeld1 => ?_)
  clear hK K hHeld1
  refine wpAnyH_ready (rs := [9]) (by kernel_rfl) (by simp) ?_
  refine AllReadyH.cons (o := _) rfl (fun K hK => ?_) AllReadyH.nil
  go_simp
  obtain ⟨hA, hB⟩ := OS.out _ hHeld
  refine (compareL8 w.heap.size 1 (w.heap.size + 1) 1 x y _ (fun j hj => at7 hA.2 j hj) (fun j hj => at7 hB.2 j hj)).mono ?_
  rintro e w1 ⟨rfl, rfl⟩
  clear hA hB
  (try go_wp2_with fail)
  refine hK.out _ _ hHeld (fun hHeld1 => ?_)
  clear hK K hHeld1
  refine wpAnyH_ready (rs := [10]) (by kernel_rfl) (by simp) ?_
  refine AllReadyH.cons (o := _) rfl (fun K hK => ?_) AllReadyH.nil
  go_simp
  refine hK.out _ _ ?_ (fun hHeld1 => ?_)
  · exact KS.out _ _ hHeld ((Below.refl _ _).alloc (Nat.le_refl _) _)
  clear hK K
  refine wpAnyH_ready (rs := [11]) (by kernel_rfl) (by simp) ?_
  refine AllReadyH.cons (o := _) rfl (fun K hK => ?_) AllReadyH.nil
  go_simp
  have hbx := (BoxN.made (u := W) (cs := #[.int .i64 (Lib.compareInt (x 0 : Int) (y 0 : Int)), .int .i64 (lexC x y 1 6)]) (t := 3) (Below.refl _ _) rfl).below (Below.refl _ _).drew
  have CO := or2 W.heap.size _ _ _ (hbx.2 0 _ rfl) (hbx.2 1 _ rfl)
  rw [← HCF.out] at CO
  clear hbx
  refine CO.mono ?_
  rintro e w1 ⟨rfl, rfl⟩
  clear CO
  (try go_wp2_with fail)
  refine hK.out _ _ hHeld1 (fun hHeld2 => ?_)
  clear hK K hHeld2
  refine wpAnyH_ready (rs := [12]) (by kernel_rfl) (by simp) ?_
  refine AllReadyH.cons (o := _) rfl (fun K hK => ?_) AllReadyH.nil
  go_simp
  refine hK.out _ _ hHeld1 (fun hHeld2 => ?_)
  clear hK K hHeld2
  refine wpAnyH_done (by kernel_rfl) ?_ _
  clear hHeld1 hHeld KS OS
  obtain ⟨os, hos⟩ := HWG.out
  have HF : Hid (∀ o, (W.alloc o).drew = grow (w.drewN 1) (os ++ #[o])) := fun o => by rw [hos, alloc_eq_grow, grow_grow]; rfl
  clear hos
  go_wp2
  go_ret
  exact ⟨rfl, 1, _, HF.out _⟩
end Go.Proofs.Ytmhkkdnopcdibaa
set_option linter.unusedVariables false
namespace Go.Proofs.Ytmhkkdnopcdibaa
open Go.RowKit

section
variable {α : Type}
def succs (fits : α → Bool) (upd : α → α) : List α → List (List α)
  | [] => []
  | x :: l => (if fits x = true then [upd x :: l] else []) ++ (succs fits upd l).map (x :: ·)
theorem succs_cons (fits : α → Bool) (upd : α → α) (x : α) (l : List α) : succs fits upd (x :: l) = (if fits x = true then [upd x :: l] else []) ++ (succs fits upd l).map (x :: ·) := rfl
theorem succs_perm (fits : α → Bool) (upd : α → α) {l l' : List α} (hp : l.Perm l') : ∀ (h : List α → Nat), (∀ a b, a.Perm b → h a = h b) → ((succs fits upd l).map h).sum = ((succs fits upd l').map h).sum := by
  induction hp with
  | nil => intro h _; rfl
  | cons x hl ih =>
    rename_i l1 l2
    intro h hh
    unfold succs
    simp only [List.map_append, List.sum_append, List.map_map]
    have e1 : (((if fits x = true then [upd x :: l1] else []) : List (List α)).map h).sum = (((if fits x = true then [upd x :: l2] else []) : List (List α)).map h).sum := by
      split
      · simp only [List.map_cons, List.map_nil, List.sum_cons, List.sum_nil]
        rw [hh _ _ (hl.cons (upd x))]
      · rfl
    rw [e1, ih (h ∘ (x :: ·)) fun a b hab => hh _ _ (hab.cons x)]
  | swap x y l =>
    intro h hh
    have e0 : ((succs fits upd l).map (h ∘ (fun z => y :: x :: z))).sum = ((succs fits upd l).map (h ∘ (fun z => x :: y :: z))).sum := by
      congr 1
      exact List.map_congr_left fun z _ => hh _ _ (List.Perm.swap x y z)
    have e1 : h (upd y :: x :: l) = h (x :: upd y :: l) := hh _ _ (List.Perm.swap x (upd y) l)
    have e2 : h (y :: upd x :: l) = h (upd x :: y :: l) := hh _ _ (List.Perm.swap (upd x) y l)
    have k1 : ((succs fits upd (y :: x :: l)).map h).sum = (if fits y = true then h (upd y :: x :: l) else 0) + ((if fits x = true then h (y :: upd x :: l) else 0) + ((succs fits upd l).map (h ∘ (fun z => y :: x :: z))).sum) := by
      rw [succs_cons, succs_cons]
      simp only [List.map_append, List.sum_append, List.map_map]
      congr 1
      · split <;> simp
      · congr 1
        split <;> simp
    have k2 : ((succs fits upd (x :: y :: l)).map h).sum = (if fits x = true then h (upd x :: y :: l) else 0) + ((if fits y = true then h (x :: upd y :: l) else 0) + ((succs fits upd l).map (h ∘ (fun z => x :: y :: z))).sum) := by
      rw [succs_cons, succs_cons]
      simp only [List.map_append, List.sum_append, List.map_map]
      congr 1
      · split <;> simp
      · congr 1
        split <;> simp
    rw [k1, k2, e0, e1, e2]
    omega
  | trans _ _ ih1 ih2 => intro h hh; rw [ih1 h hh, ih2 h hh]
theorem succs_sum (fits : α → Bool) (upd : α → α) (dflt : α) : ∀ (l : List α) (h : List α → Nat), ((succs fits upd l).map h).sum = sumNN (fun g => if fits (l.getD g dflt) = true then h (l.set g (upd (l.getD g dflt))) else 0) l.length
  | [], h => rfl
  | x :: l, h => by
    have key : ∀ (f : Nat → Nat) (n : Nat), sumNN f (n + 1) = f 0 + sumNN (fun g => f (g + 1)) n := by
      intro f n
      induction n with
      | zero => show 0 + f 0 = f 0 + 0; omega
      | succ n ih =>
        show sumNN f (n + 1) + f (n + 1) = f 0 + (sumNN (fun g => f (g + 1)) n + f (n + 1))
        rw [ih]; omega
    rw [List.length_cons, key]
    unfold succs
    simp only [List.map_append, List.sum_append, List.map_map]
    rw [succs_sum fits upd dflt l (h ∘ (x :: ·))]
    congr 1
    show _ = (if fits x = true then h (upd x :: l) else 0)
    split <;> simp
end
def chk (S : Nat → Nat) (g : Nat) : List Nat := (List.range 7).map fun k => S (g * 7 + k)
def chunks (S : Nat → Nat) (G : Nat) : List (List Nat) := (List.range G).map (chk S)
theorem chk_at (S : Nat → Nat) (g k : Nat) (hk : k < 7) : (chk S g).getD k 0 = S (g * 7 + k) := by
  unfold chk
  rw [List.getD_eq_getElem?_getD, List.getElem?_map, List.getElem?_range hk]
  rfl
def fitC (d : DrwD) (i : Nat) (x : List Nat) : Bool := decide (x.getD 0 0 = 0) && decide ((x.getD (1 + d.cl i) 0 : Int) < d.most)
def updC (c : Nat) (x : List Nat) : List Nat := (List.range 7).map fun k => if k = 1 + c then x.getD k 0 + 1 else if k = 0 then x.getD 0 0 + 1 else x.getD k 0
def forC (c : Nat) (ep ec : Bool) (x : List Nat) : List Nat := (List.range 7).map fun k => if ep = true ∧ k = 0 then 0 else if ec = true ∧ k = 1 + c then 0 else x.getD k 0
def zL (d : DrwD) : Nat → List (List Nat) → Nat → Nat
  | 0, _, i => if i = d.N then 1 else 0
  | f + 1, l, i => if i = d.N then 1 else ((succs (fitC d i) (updC (d.cl i)) l).map fun l' => zL d f (l'.map (forC (d.cl i) (epB d i) (ecB d i))) (i + 1)).sum
theorem zL_perm (d : DrwD) : ∀ (f : Nat) (l l' : List (List Nat)) (i : Nat), l.Perm l' → zL d f l i = zL d f l' i
  | 0, _, _, _, _ => rfl
  | f + 1, l, l', i, hp => by
    unfold zL
    by_cases h : i = d.N
    · rw [if_pos h, if_pos h]
    · rw [if_neg h, if_neg h]
      exact succs_perm _ _ hp _ fun a b hab => zL_perm d f _ _ _ (hab.map _)
theorem fit_chk {d : DrwD} {S : Nat → Nat} {i g : Nat} (hc : d.cl i < 6) : fitC d i (chk S g) = fitS d S i g := by
  unfold fitC fitS
  rw [chk_at S g 0 (by omega), chk_at S g (1 + d.cl i) (by omega), Nat.add_zero, ← Nat.add_assoc]
theorem next_chk {d : DrwD} {S : Nat → Nat} {i g k : Nat} (hc : d.cl i < 6) : forC (d.cl i) (epB d i) (ecB d i) (if g = k then updC (d.cl i) (chk S k) else chk S k) = chk (nxtSe d S i g) k := by
  unfold forC
  show _ = (List.range 7).map fun j => nxtSe d S i g (k * 7 + j)
  refine List.map_congr_left fun j hj => ?_
  have hj7 : j < 7 := List.mem_range.1 hj
  have e : (if g = k then updC (d.cl i) (chk S k) else chk S k).getD j 0 = moreS (d.cl i) g S (k * 7 + j) := by
    by_cases hgk : g = k
    · rw [if_pos hgk]
      subst hgk
      unfold updC moreS
      rw [List.getD_eq_getElem?_getD, List.getElem?_map, List.getElem?_range hj7]
      show (if j = 1 + d.cl i then (chk S g).getD j 0 + 1 else if j = 0 then (chk S g).getD 0 0 + 1 else (chk S g).getD j 0) = _
      rw [chk_at S g j hj7, chk_at S g 0 (by omega)]
      by_cases h1 : j = 1 + d.cl i
      · rw [if_pos h1, if_pos (show g * 7 + j = g * 7 + 1 + d.cl i by omega)]
      · rw [if_neg h1, if_neg (show ¬ g * 7 + j = g * 7 + 1 + d.cl i by omega)]
        by_cases h2 : j = 0
        · rw [if_pos h2, if_pos (show g * 7 + j = g * 7 by omega), h2]
        · rw [if_neg h2, if_neg (show ¬ g * 7 + j = g * 7 by omega)]
    · rw [if_neg hgk, chk_at S k j hj7]
      unfold moreS
      rw [if_neg (by omega), if_neg (by omega)]
  rw [e]
  unfold nxtSe aftS forgS
  by_cases h1 : epB d i = true ∧ j = 0
  · have q : epB d i = true ∧ (k * 7 + j) % 7 = 0 := ⟨h1.1, by omega⟩
    rw [if_pos h1, if_pos q]
  · have q : ¬ (epB d i = true ∧ (k * 7 + j) % 7 = 0) := fun h9 => h1 ⟨h9.1, by omega⟩
    rw [if_neg h1, if_neg q]
    by_cases h2 : ecB d i = true ∧ j = 1 + d.cl i
    · have r : ecB d i = true ∧ (k * 7 + j) % 7 = 1 + d.cl i := ⟨h2.1, by omega⟩
      rw [if_pos h2, if_pos r]
    · have r : ¬ (ecB d i = true ∧ (k * 7 + j) % 7 = 1 + d.cl i) := fun h9 => h2 ⟨h9.1, by omega⟩
      rw [if_neg h2, if_neg r]
theorem chunks_at (S : Nat → Nat) (G g : Nat) (hg : g < G) : (chunks S G)[g]? = some (chk S g) := by
  unfold chunks
  rw [List.getElem?_map, List.getElem?_range hg]
  rfl
theorem next_chunks {d : DrwD} {S : Nat → Nat} {i g : Nat} (hc : d.cl i < 6) (hg : g < d.G) : ((chunks S d.G).set g (updC (d.cl i) (chk S g))).map (forC (d.cl i) (epB d i) (ecB d i)) = chunks (nxtSe d S i g) d.G := by
  apply List.ext_getElem?
  intro k
  have hl : (chunks S d.G).length = d.G := by unfold chunks; simp
  by_cases hk : k < d.G
  · rw [List.getElem?_map, chunks_at _ _ _ hk, ← next_chk (S := S) (g := g) (k := k) hc]
    by_cases e : g = k
    · subst e
      rw [List.getElem?_set_self (by rw [hl]; exact hg), if_pos rfl]
      rfl
    · rw [List.getElem?_set_ne e, chunks_at _ _ _ hk, if_neg e]
      rfl
  · rw [List.getElem?_eq_none (by simp [hl]; omega), List.getElem?_eq_none (by unfold chunks; simp; omega)]
theorem zF_chunks {d : DrwD} (hc : ∀ i, i < d.N → d.cl i < 6) : ∀ (f : Nat) (S : Nat → Nat) (i : Nat), i + f = d.N → zF d f S i = zL d f (chunks S d.G) i
  | 0, S, i, _ => rfl
  | f + 1, S, i, hi => by
    unfold zF zL
    rw [if_neg (by omega), if_neg (by omega), succs_sum _ _ []]
    have hl : (chunks S d.G).length = d.G := by unfold chunks; simp
    rw [hl]
    refine sumNN_congr _ fun g hg => ?_
    have hci := hc i (by omega)
    have e : (chunks S d.G).getD g [] = chk S g := by rw [List.getD_eq_getElem?_getD, chunks_at _ _ _ hg]; rfl
    rw [e, fit_chk hci]
    by_cases hf : fitS d S i g = true
    · rw [if_pos hf, if_pos hf, zF_chunks hc f _ (i + 1) (by omega), ← next_chunks hci hg]
    · rw [if_neg hf, if_neg hf]
theorem zF_perm {d : DrwD} (hc : ∀ i, i < d.N → d.cl i < 6) {f i : Nat} {S S' : Nat → Nat} (hi : i + f = d.N) (hp : (chunks S d.G).Perm (chunks S' d.G)) : zF d f S i = zF d f S' i := by
  rw [zF_chunks hc f S i hi, zF_chunks hc f S' i hi]
  exact zL_perm d f _ _ i hp
theorem chunks_congr {S S' : Nat → Nat} {G : Nat} (hG : G ≤ 4) (h : ∀ j, j < 28 → S j = S' j) : chunks S G = chunks S' G := by
  unfold chunks
  refine List.map_congr_left fun g hg => ?_
  have hg4 : g < G := List.mem_range.1 hg
  unfold chk
  refine List.map_congr_left fun k hk => ?_
  have hk7 : k < 7 := List.mem_range.1 hk
  exact h _ (by omega)
end Go.Proofs.Ytmhkkdnopcdibaa
