/-
  Packed: DrwImplH, DrwImplI.
-/
import Derived.Deep.DeepCutAuto
import Derived.Test.YtmhkkdnopcdibaaQ28
set_option linter.unusedVariables false
namespace Go.Proofs.Ytmhkkdnopcdibaa
open Go.RowKit

def SmallS (S : Nat → Nat) (n : Nat) : Prop := ∀ j, S j ≤ n
theorem SmallS.next {d : DrwD} {S : Nat → Nat} {i g n : Nat} (h : SmallS S n) : SmallS (nxtSe d S i g) (n + 1) := fun j => by
  have h1 := h j
  unfold nxtSe aftS forgS moreS
  split
  · omega
  · split
    · omega
    · split
      · omega
      · split <;> omega
theorem fit_parts {d : DrwD} {S : Nat → Nat} {i g : Nat} : fitS d S i g = true ↔ S (g * 7) = 0 ∧ (S (g * 7 + 1 + d.cl i) : Int) < d.most := by
  unfold fitS
  rw [Bool.and_eq_true, decide_eq_true_eq, decide_eq_true_eq]
theorem after_fits (ta : Option Addr) (tn tc : Nat) (d : DrwD) (ok : DrwOk d) (i : Nat) (hi : i < d.N) (g : Nat) (cs : Array Value) (S : Nat → Nat) (w : World) (hS : SeatA cs S) (hs : SmallS S 100) (hg : g < d.G) (hf : fitS d S i g = true) :
    Calls Try.prog 91 #[.agg #[.slice ta tn tc, .int .i64 d.G, .int .i64 d.most], .agg cs, .agg #[.int .i64 (d.cl i), .bool (epB d i), .bool (ecB d i)], .int .i64 g] w fun e w' => (∃ cs', e = .returned (.tuple #[.agg cs', .bool true]) ∧ SeatA cs' (nxtSe d S i g)) ∧ Below w.heap.size w w' :=
  after_yes ta tn tc d.G d.most g cs S (d.cl i) (epB d i) (ecB d i) w hS (ok.cl i hi) (by have := ok.G; omega) (by omega) (fit_parts.1 hf).1 (fit_parts.1 hf).2 hs
theorem after_fails (ta : Option Addr) (tn tc : Nat) (d : DrwD) (ok : DrwOk d) (i : Nat) (hi : i < d.N) (x : Int) (cs : Array Value) (S : Nat → Nat) (w : World) (hS : SeatA cs S) (hs : SmallS S 100) (hf : ¬ ((0 ≤ x ∧ x ≤ (d.G : Int) - 1) ∧ fitS d S i x.toNat = true)) :
    Calls Try.prog 91 #[.agg #[.slice ta tn tc, .int .i64 d.G, .int .i64 d.most], .agg cs, .agg #[.int .i64 (d.cl i), .bool (epB d i), .bool (ecB d i)], .int .i64 x] w fun e w' => (∃ cs', e = .returned (.tuple #[.agg cs', .bool false]) ∧ SeatA cs' (fun _ => 0)) ∧ Below w.heap.size w w' :=
  after_no ta tn tc d.G d.most x cs S (d.cl i) (epB d i) (ecB d i) w hS (ok.cl i hi) (by have := ok.G; omega) (fun h => hf ⟨h.1, fit_parts.2 h.2⟩) hs
def AftM (d : DrwD) (S : Nat → Nat) (i : Nat) (x : Int) (w : World) (e : Ending) (w' : World) : Prop :=
  ∃ (cs' : Array Value) (S' : Nat → Nat) (b : Bool), e = .returned (.tuple #[.agg cs', .bool b]) ∧ SeatA cs' S' ∧ (b = true → ((0 ≤ x ∧ x ≤ (d.G : Int) - 1) ∧ fitS d S i x.toNat = true) ∧ S' = nxtSe d S i x.toNat) ∧ (b = false → ¬ ((0 ≤ x ∧ x ≤ (d.G : Int) - 1) ∧ fitS d S i x.toNat = true)) ∧ Below w.heap.size w w'
theorem after_any (ta : Option Addr) (tn tc : Nat) (d : DrwD) (ok : DrwOk d) (i : Nat) (hi : i < d.N) (x : Int) (cs : Array Value) (S : Nat → Nat) (w : World) (hS : SeatA cs S) (hs : SmallS S 100) :
    Calls Try.prog 91 #[.agg #[.slice ta tn tc, .int .i64 d.G, .int .i64 d.most], .agg cs, .agg #[.int .i64 (d.cl i), .bool (epB d i), .bool (ecB d i)], .int .i64 x] w (AftM d S i x w) := by
  by_cases hf : (0 ≤ x ∧ x ≤ (d.G : Int) - 1) ∧ fitS d S i x.toNat = true
  · obtain ⟨g, rfl⟩ : ∃ g : Nat, x = g := ⟨x.toNat, by omega⟩
    refine (after_fits ta tn tc d ok i hi g cs S w hS hs (by omega) hf.2).mono ?_
    rintro e w' ⟨⟨cs', rfl, h⟩, b⟩
    exact ⟨cs', _, true, rfl, h, fun _ => ⟨hf, rfl⟩, (fun h9 => by cases h9), b⟩
  · refine (after_fails ta tn tc d ok i hi x cs S w hS hs hf).mono ?_
    rintro e w' ⟨⟨cs', rfl, h⟩, b⟩
    exact ⟨cs', _, false, rfl, h, (fun h9 => by cases h9), fun _ => hf, b⟩
structure AaI (w : World) (B0 B1 B6 : Nat) (tv : Value) (d : DrwD) (cs : Array Value) (wr : World) : Prop where
  bx : BoxN wr B0 [tv, .int .i64 d.G, .int .i64 d.most]
  r : Whole wr B1 zeroSeat 114
  s : Whole wr B6 cs 114
  t : TurnsAt wr tv d
  b : Below w.heap.size w wr
theorem AaI.keep {w : World} {B0 B1 B6 : Nat} {tv : Value} {d : DrwD} {cs : Array Value} {wr w' : World} (h : AaI w B0 B1 B6 tv d cs wr) (b : Below wr.heap.size wr w') : AaI w B0 B1 B6 tv d cs w' :=
  ⟨h.bx.below b, h.r.below b, h.s.below b, RecRow.below h.t b (Nat.le_refl _), h.b.trans (b.mono h.b.size)⟩
theorem turn_cells {w : World} {ta : Option Addr} {tc : Nat} {d : DrwD} (h : TurnsAt w (.slice ta d.N tc) d) {i : Nat} (hi : i < d.N) :
    ∃ b off, ta = some ⟨b, off, none⟩ ∧ d.N ≤ tc ∧ w.cell? ⟨b, off + i * 3, none⟩ = some (.int .i64 (d.cl i)) ∧ w.cell? ⟨b, off + i * 3 + 1, none⟩ = some (.bool (epB d i)) ∧ w.cell? ⟨b, off + i * 3 + 2, none⟩ = some (.bool (ecB d i)) := by
  rcases h with ⟨_, _, _, h0⟩ | ⟨b, off, cap, h1, _, _, hc, hcap⟩
  · omega
  · simp only [Value.slice.injEq] at h1
    obtain ⟨rfl, _, rfl⟩ := h1
    exact ⟨b, off, rfl, hcap, (hc i hi).2 0 _ rfl, (hc i hi).2 1 _ rfl, (hc i hi).2 2 _ rfl⟩
theorem BoxN.sameD {w w' : World} {B : Nat} {cs : List Value} (h : BoxN w B cs) (hs : w.heap.size ≤ w'.heap.size) (hb : w'.heap[B]? = w.heap[B]?) : BoxN w' B cs :=
  ⟨Nat.lt_of_lt_of_le h.1 hs, fun j v hv => (World.cell?_of_block (w := w) (w' := w') (a := ⟨B, j, none⟩) hb).trans (h.2 j v hv)⟩
theorem AaI.put {w : World} {B6 : Nat} {tv : Value} {d : DrwD} {cs : Array Value} {wr : World} (h : AaI w w.heap.size (w.heap.size + 1) B6 tv d cs wr) (cs1 : Array Value) (hB : w.heap.size + 1 < B6) (hT : TurnsAt w tv d) : AaI w w.heap.size (w.heap.size + 1) B6 tv d cs1 (wr.setRow B6 cs1) := by
  have hb : Below w.heap.size w (wr.setRow B6 cs1) := below_setRow h.b (by omega)
  refine ⟨h.bx.sameD (by simp [World.setRow]) (setRow_other wr B6 _ cs1 (by omega)), (setRow_other wr B6 _ cs1 (by omega)).trans h.r, h.s.setRow, RecRow.below hT hb (Nat.le_refl _), hb⟩
theorem exec_load_whole {P : Program} {o : Oper} {ev : Operand → Value} {w : World} {ty : TypeId} {x : Operand} {g : Nat} {v : Value} (ho : o.op = .load ty x) (hx : ev x = .pointer (some ⟨g, 0, none⟩)) (hl : (loadVar ty ⟨g, 0, none⟩).run P w = .ok v w) :
    (execOp ev o).run P w = .ok (.value v) w := by
  unfold execOp
  simp only [ho, hx, Instr.loadAt, Instr.sureAddr, Sem.run_bind, Sem.run_pure, Result.andThen_ok, hl]
def foldP (d : DrwD) (L : List Int) : Option (Nat → Nat) := if L.length ≤ d.N then foldS d L 0 (fun _ => 0) else none
def AllM (w : World) (R : Option (Nat → Nat)) (e : Ending) (w' : World) : Prop :=
  ∃ (cs : Array Value) (S : Nat → Nat), e = .returned (.tuple #[.agg cs, .bool R.isSome]) ∧ SeatA cs S ∧ (∀ S', R = some S' → S = S') ∧ Below w.heap.size w w'
set_option maxRecDepth 100000 in
set_option maxHeartbeats 8000000 in
theorem afterAll_impl (ta : Option Addr) (tc : Nat) (d : DrwD) (ok : DrwOk d) (vp : Value) (L : List Int) (w : World) (hT : TurnsAt w (.slice ta d.N tc) d) (hv : IntRow w vp L.length (getI L)) :
    Calls Try.prog 77 #[.agg #[.slice ta d.N tc, .int .i64 d.G, .int .i64 d.most], vp] w (AllM w (foldP d L)) := by
  obtain ⟨va, vc, rfl, hl9, _⟩ := hv.form
  obtain ⟨W, hW⟩ : ∃ W, (w.alloc (.cells #[.slice ta d.N tc, .int .i64 d.G, .int .i64 d.most] 61)).alloc (.cells zeroSeat 114) = W := ⟨_, rfl⟩
  have b1 : Below w.heap.size w W := by rw [← hW]; exact ((Below.refl w.heap.size w).alloc (Nat.le_refl _) _).alloc (by simp) _
  have HX : Hid (BoxN W w.heap.size [.slice ta d.N tc, .int .i64 d.G, .int .i64 d.most]) := by rw [← hW]; exact (BoxN.made (Below.refl _ _) rfl).below ((Below.refl _ _).alloc (Nat.le_refl _) _)
  have HR : Hid (Whole W (w.heap.size + 1) zeroSeat 114) := by
    rw [← hW]
    have h9 := Whole.made (w.alloc (.cells #[.slice ta d.N tc, .int .i64 d.G, .int .i64 d.most] 61)) zeroSeat 114
    simp only [World.size_alloc] at h9
    exact h9
  have HB := Lib.hid b1
  have HT := Lib.hid hT
  have HV := Lib.hid hv
  simp only [zeroSeat] at hW
  have HW := Lib.hid hW
  obtain ⟨m, hm⟩ : ∃ m, L.length = m := ⟨_, rfl⟩
  have HM := Lib.hid hm
  have HRR : Hid (foldP d L = if m ≤ d.N then foldS d (L.drop 0) 0 (fun _ => 0) else none) := by show foldP d L = _; unfold foldP; rw [hm]; rfl
  rw [hm] at hl9 HV ⊢
  obtain ⟨RR, hRR⟩ : ∃ RR, foldP d L = RR := ⟨_, rfl⟩
  rw [hRR] at HRR ⊢
  have HOK := Lib.hid ok
  have hN8 := ok.N
  clear hW hT hv b1 hm hRR ok
  have c0 := HX.out.2 0 _ rfl
  have z1 := HR.out.lt
  have z0 := HX.out.1
  go_enter Try.func77, Try.ntmps77
  go_upto_region 1 with fail
  rw [HW.out]
  clear HW
  by_cases hmN : m ≤ d.N
  case neg =>
    have HRN : Hid (RR = none) := HRR.out.trans (if_neg hmN)
    have g1 : decide ((d.N : Int) < (m : Int)) = true := decide_eq_true (by omega)
    have g1' : decide (d.N < m) = true := decide_eq_true (by omega)
    have HBE : Hid (Below w.heap.size w (W.setRow (w.heap.size + 1) zeroSeat)) := below_setRow HB.out (by omega)
    have HLD : Hid ((loadVar 114 ⟨w.heap.size + 1, 0, none⟩).run Try.prog (W.setRow (w.heap.size + 1) zeroSeat) = .ok (.agg zeroSeat) (W.setRow (w.heap.size + 1) zeroSeat)) := seat_load zero_seat HR.out.setRow
    go_wp2_with (refine wpList_store_row rfl 114 (.tmp 4) (.tmp 17) rfl (w.heap.size + 1) zeroSeat rfl rfl 114 zeroSeat HR.out (by kernel_rfl) rfl zero_seat.all ?_)
    refine bodyPost_ret (v := .tuple #[.agg zeroSeat, .bool false]) (results_cell2 Try.results77 rfl rfl HLD.out) rfl ⟨zeroSeat, fun _ => 0, by rw [HRN.out]; rfl, zero_seat, (fun S' h => by rw [HRN.out] at h; cases h), HBE.out⟩
  have HR0 : Hid (foldS d (L.drop 0) 0 (fun _ => 0) = RR) := (HRR.out.trans (if_pos hmN)).symm
  have g1 : decide ((d.N : Int) < (m : Int)) = false := decide_eq_false (by omega)
  have g1' : decide (d.N < m) = false := decide_eq_false (by omega)
  clear HRR
  obtain ⟨V, hV⟩ : ∃ V, W.alloc (.cells zeroSeat 114) = V := ⟨_, rfl⟩
  have bV : Below W.heap.size W V := by rw [← hV]; exact (Below.refl _ _).alloc (Nat.le_refl _) _
  have I0 : Hid (AaI w w.heap.size (w.heap.size + 1) W.heap.size (.slice ta d.N tc) d zeroSeat V) :=
    ⟨HX.out.below bV, HR.out.below bV, by rw [← hV]; exact Whole.made _ _ _, RecRow.below HT.out (HB.out.trans (bV.mono HB.out.size)) (Nat.le_refl _), HB.out.trans (bV.mono HB.out.size)⟩
  simp only [zeroSeat] at hV
  have HVV := Lib.hid hV
  clear hV bV
  go_upto_region 4 with fail
  rw [HVV.out]
  clear HVV c0 z0 z1 g1 g1'
  have HWs : Hid (w.heap.size + 1 < W.heap.size) := HR.out.lt
  generalize W.heap.size = B6 at *
  clear HX HR HB
  go_wp2
  go_loopw [20] (fun iv wr => ∃ (i : Nat) (cs : Array Value) (S : Nat → Nat), i ≤ m ∧ iv = .int .i64 i ∧ Hid (foldS d (L.drop i) i S = RR) ∧ Hid (SeatA cs S) ∧ Hid (SmallS S i) ∧ Hid (AaI w w.heap.size (w.heap.size + 1) B6 (.slice ta d.N tc) d cs wr)) (fun iv _ => m - (RowKit.intOf iv).toNat)
  case atStart => exact ⟨0, zeroSeat, _, Nat.zero_le _, rfl, HR0, zero_seat, fun j => Nat.le_refl _, I0⟩
  case round =>
    clear HR0 I0
    obtain ⟨i, cs, S, hi9, rfl, HV0, HSE, HSM, HI⟩ := hrel
    by_cases hlt : i < m
    · have hiN : i < d.N := by omega
      obtain ⟨b, off, rfl, hcap, q0⟩ := int_at (HV.out.below HI.out.b (Nat.le_refl _)) hlt
      have hj1 : (i : Int) < (m : Int) := by omega
      have HV2 := HV0.out
      have hdr : L.drop i = getI L i :: L.drop (i + 1) := by
        have hl : i < L.length := by rw [HM.out]; exact hlt
        rw [List.drop_eq_getElem_cons hl, getI_ok hl]
      rw [hdr, foldS_cons] at HV2
      have HV3 := Lib.hid HV2
      clear HV0 HV2 hdr
      obtain ⟨x, hx⟩ : ∃ x, getI L i = x := ⟨_, rfl⟩
      rw [hx] at q0 HV3
      clear hx
      have hjN : (i : Int) < (d.N : Int) := by omega
      obtain ⟨tb, toff, rfl, htc, _, _, _⟩ := turn_cells HI.out.t hiN
      have HLT : Hid (B6 < wr.heap.size) := HI.out.s.lt
      go_upto_region 7 with fail
      clear q0
      go_cut [9, 10] (fun s9 s10 wx => ∃ (D : Nat) (cs1 : Array Value) (S1 : Nat → Nat) (b : Bool), s9 = .pointer (some ⟨D, 0, none⟩) ∧ s10 = .bool b ∧ Hid (SeatA cs1 S1) ∧ Hid (Whole wx D cs1 114) ∧ Hid (b = true → ((0 ≤ x ∧ x ≤ (d.G : Int) - 1) ∧ fitS d S i x.toNat = true) ∧ S1 = nxtSe d S i x.toNat) ∧ Hid (b = false → ¬ ((0 ≤ x ∧ x ≤ (d.G : Int) - 1) ∧ fitS d S i x.toNat = true)) ∧ Hid (AaI w w.heap.size (w.heap.size + 1) B6 (.slice (some ⟨tb, toff, none⟩) d.N tc) d cs wx) ∧ B6 < D)
      case first =>
        obtain ⟨Sc, HSd⟩ : ∃ Sc : World → Prop, Sc = fun w' => AaI w w.heap.size (w.heap.size + 1) B6 (.slice (some ⟨tb, toff, none⟩) d.N tc) d cs w' := ⟨_, rfl⟩
        have KS : Hid (∀ wa wb, Sc wa → Below wa.heap.size wa wb → Sc wb) := by subst HSd; exact fun wa wb h b => h.keep b
        have OS : Hid (∀ wa, Sc wa → AaI w w.heap.size (w.heap.size + 1) B6 (.slice (some ⟨tb, toff, none⟩) d.N tc) d cs wa) := by subst HSd; exact fun wa h => h
        have KS0 : Hid (Sc wr.drew) := by subst HSd; exact HI.out.keep (Below.refl _ _).drew
        clear HSd
        refine wp_region_held_drew (S := Sc) (by kernel_rfl) ?_ (fun hHeld => ?_)
        · exact KS0.out
        clear KS0 HI
        refine wpAnyH_take (i := 0) (v := ?_) rfl (by kernel_rfl) (by kernel_rfl) (by kernel_rfl) (fun _ _ _ h => h) (Or.inl ⟨by rfl, ?_⟩) (by assumption) ?_
        rotate_left
        · (intro wa hSw; have hI := OS.out _ hSw; have c0 := hI.bx.2 0 _ rfl; have c1 := hI.bx.2 1 _ rfl; have c2 := hI.bx.2 2 _ rfl; obtain ⟨tb9, toff9, hte, hcap9, k0, k1, k2⟩ := turn_cells hI.t hiN; simp only [Option.some.injEq, Addr.mk.injEq, and_true] at hte; obtain ⟨rfl, rfl⟩ := hte; go_simp; try with_reducible rfl)
        simp only [Act.put, List.getElem_toArray, List.getElem_cons_zero, List.setIfInBounds_toArray, List.set_cons_zero, List.set_cons_succ]
        refine wpAnyH_take (i := 1) (v := .agg cs) rfl (by kernel_rfl) (by kernel_rfl) (by kernel_rfl) (fun _ _ _ h => h) (Or.inl ⟨by rfl, ?_⟩) (by assumption) ?_
        · (intro wa hSw; have hI := OS.out _ hSw; exact exec_load_whole (ty := 114) (x := .tmp 6) (g := B6) (by rfl) (by rfl) (seat_load HSE.out hI.s))
        simp only [Act.put, List.getElem_toArray, List.getElem_cons_zero, List.getElem_cons_succ, List.setIfInBounds_toArray, List.set_cons_zero, List.set_cons_succ]
        refine wpAnyH_take (i := 2) (v := ?_) rfl (by kernel_rfl) (by kernel_rfl) (by kernel_rfl) (fun _ _ _ h => h) (Or.inl ⟨by rfl, ?_⟩) (by assumption) ?_
        rotate_left
        · (intro wa hSw; have hI := OS.out _ hSw; have c0 := hI.bx.2 0 _ rfl; have c1 := hI.bx.2 1 _ rfl; have c2 := hI.bx.2 2 _ rfl; obtain ⟨tb9, toff9, hte, hcap9, k0, k1, k2⟩ := turn_cells hI.t hiN; simp only [Option.some.injEq, Addr.mk.injEq, and_true] at hte; obtain ⟨rfl, rfl⟩ := hte; go_simp; try with_reducible rfl)
        simp only [Act.put, List.getElem_toArray, List.getElem_cons_zero, List.getElem_cons_succ, List.setIfInBounds_toArray, List.set_cons_zero, List.set_cons_succ]
        refine wpAnyH_take (i := 3) (v := ?_) rfl (by kernel_rfl) (by kernel_rfl) (by kernel_rfl) (fun _ _ _ h => h) (Or.inl ⟨by rfl, ?_⟩) (by assumption) ?_
        rotate_left
        · (intro wa hSw; have hI := OS.out _ hSw; have c0 := hI.bx.2 0 _ rfl; have c1 := hI.bx.2 1 _ rfl; have c2 := hI.bx.2 2 _ rfl; obtain ⟨tb9, toff9, hte, hcap9, k0, k1, k2⟩ := turn_cells hI.t hiN; simp only [Option.some.injEq, Addr.mk.injEq, and_true] at hte; obtain ⟨rfl, rfl⟩ := hte; go_simp; try with_reducible rfl)
        simp only [Act.put, List.getElem_toArray, List.getElem_cons_zero, List.getElem_cons_succ, List.setIfInBounds_toArray, List.set_cons_zero, List.set_cons_succ]
        refine wpAnyH_take (i := 4) (v := ?_) rfl (by kernel_rfl) (by kernel_rfl) (by kernel_rfl) (fun _ _ _ h => h) (Or.inl ⟨by rfl, ?_⟩) (by assumption) ?_
        rotate_left
        · (intro wa hSw; have hI := OS.out _ hSw; have c0 := hI.bx.2 0 _ rfl; have c1 := hI.bx.2 1 _ rfl; have c2 := hI.bx.2 2 _ rfl; obtain ⟨tb9, toff9, hte, hcap9, k0, k1, k2⟩ := turn_cells hI.t hiN; simp only [Option.some.injEq, Addr.mk.injEq, and_true] at hte; obtain ⟨rfl, rfl⟩ := hte; go_simp; try with_reducible rfl)
        simp only [Act.put, List.getElem_toArray, List.getElem_cons_zero, List.getElem_cons_succ, List.setIfInBounds_toArray, List.set_cons_zero, List.set_cons_succ]
        refine wpAnyH_take (i := 5) (v := ?_) rfl (by kernel_rfl) (by kernel_rfl) (by kernel_rfl) (fun _ _ _ h => h) (Or.inl ⟨by rfl, ?_⟩) (by assumption) ?_
        rotate_left
        · (intro wa hSw; have hI := OS.out _ hSw; have c0 := hI.bx.2 0 _ rfl; have c1 := hI.bx.2 1 _ rfl; have c2 := hI.bx.2 2 _ rfl; obtain ⟨tb9, toff9, hte, hcap9, k0, k1, k2⟩ := turn_cells hI.t hiN; simp only [Option.some.injEq, Addr.mk.injEq, and_true] at hte; obtain ⟨rfl, rfl⟩ := hte; go_simp; try with_reducible rfl)
        simp only [Act.put, List.getElem_toArray, List.getElem_cons_zero, List.getElem_cons_succ, List.setIfInBounds_toArray, List.set_cons_zero, List.set_cons_succ]
        refine wpAnyH_take (i := 6) (v := ?_) rfl (by kernel_rfl) (by kernel_rfl) (by kernel_rfl) (fun _ _ _ h => h) (Or.inl ⟨by rfl, ?_⟩) (by assumption) ?_
        rotate_left
        · (intro wa hSw; have hI := OS.out _ hSw; have c0 := hI.bx.2 0 _ rfl; have c1 := hI.bx.2 1 _ rfl; have c2 := hI.bx.2 2 _ rfl; obtain ⟨tb9, toff9, hte, hcap9, k0, k1, k2⟩ := turn_cells hI.t hiN; simp only [Option.some.injEq, Addr.mk.injEq, and_true] at hte; obtain ⟨rfl, rfl⟩ := hte; go_simp; try with_reducible rfl)
        simp only [Act.put, List.getElem_toArray, List.getElem_cons_zero, List.getElem_cons_succ, List.setIfInBounds_toArray, List.set_cons_zero, List.set_cons_succ]
        refine wpAnyH_take (i := 7) (v := ?_) rfl (by kernel_rfl) (by kernel_rfl) (by kernel_rfl) (fun _ _ _ h => h) (Or.inl ⟨by rfl, ?_⟩) (by assumption) ?_
        rotate_left
        · (intro wa hSw; have hI := OS.out _ hSw; have c0 := hI.bx.2 0 _ rfl; have c1 := hI.bx.2 1 _ rfl; have c2 := hI.bx.2 2 _ rfl; obtain ⟨tb9, toff9, hte, hcap9, k0, k1, k2⟩ := turn_cells hI.t hiN; simp only [Option.some.injEq, Addr.mk.injEq, and_true] at hte; obtain ⟨rfl, rfl⟩ := hte; go_simp; try with_reducible rfl)
        simp only [Act.put, List.getElem_toArray, List.getElem_cons_zero, List.getElem_cons_succ, List.setIfInBounds_toArray, List.set_cons_zero, List.set_cons_succ]
        refine wpAnyH_ready (rs := [8, 12]) (by kernel_rfl) (by simp) ?_
        refine AllReadyH.cons (o := _) rfl (fun K hK => ?_) (AllReadyH.cons (o := _) rfl (fun K hK => ?_) AllReadyH.nil)
        · go_simp
          refine (after_any _ d.N tc d HOK.out i hiN x cs S _ HSE.out (fun j => Nat.le_trans (HSM.out j) (by omega))).mono ?_
          rintro e w1 ⟨cs1, S1, b1, rfl, hs1, hy, hn, bb⟩
          have HY := Lib.hid hy
          have HN := Lib.hid hn
          clear hy hn
          (try go_wp2_with fail)
          refine hK.out _ _ ?_ (fun hHeld1 => ?_)
          · exact KS.out _ _ hHeld bb
          clear hK K hHeld
          refine wpAnyH_take (i := 9) (v := ?_) rfl (by kernel_rfl) (by kernel_rfl) (by kernel_rfl) (fun _ _ _ h => h) (Or.inl ⟨by rfl, ?_⟩) (by assumption) ?_
          rotate_left
          · (intro wa hSw; go_simp; try with_reducible rfl)
          simp only [Act.put, List.getElem_toArray, List.getElem_cons_zero, List.getElem_cons_succ, List.setIfInBounds_toArray, List.set_cons_zero, List.set_cons_succ]
          refine wpAnyH_take (i := 10) (v := ?_) rfl (by kernel_rfl) (by kernel_rfl) (by kernel_rfl) (fun _ _ _ h => h) (Or.inl ⟨by rfl, ?_⟩) (by assumption) ?_
          rotate_left
          · (intro wa hSw; go_simp; try with_reducible rfl)
          simp only [Act.put, List.getElem_toArray, List.getElem_cons_zero, List.getElem_cons_succ, List.setIfInBounds_toArray, List.set_cons_zero, List.set_cons_succ]
          refine wpAnyH_take (i := 11) (v := ?_) rfl (by kernel_rfl) (by kernel_rfl) (by kernel_rfl) (fun _ _ _ h => h) (Or.inl ⟨by rfl, ?_⟩) (by assumption) ?_
          rotate_left
          · (intro wa hSw; go_simp; try with_reducible rfl)
          simp only [Act.put, List.getElem_toArray, List.getElem_cons_zero, List.getElem_cons_succ, List.setIfInBounds_toArray, List.set_cons_zero, List.set_cons_succ]
          refine wpAnyH_ready (rs := [12]) (by kernel_rfl) (by simp) ?_
          refine AllReadyH.cons (o := _) rfl (fun K hK => ?_) AllReadyH.nil
          go_simp
          refine hK.out _ _ ?_ (fun hHeld2 => ?_)
          · exact KS.out _ _ hHeld1 ((Below.refl _ _).alloc (Nat.le_refl _) _)
          clear hK K
          refine wpAnyH_ready (rs := [13]) (by kernel_rfl) (by simp) ?_
          refine AllReadyH.cons (o := _) rfl (fun K hK => ?_) AllReadyH.nil
          rw [if_pos (by rfl)]
          refine wp_store_row 114 (.tmp 9) (.tmp 35) rfl w1.heap.size cs1 rfl rfl 114 zeroSeat (Whole.made w1 zeroSeat 114) (by rw [hs1.1]; exact seat_info) (by rw [hs1.1]; rfl) hs1.all ?_
          simp only [Act.put]
          refine hK.out _ _ ?_ (fun hHeld3 => ?_)
          · exact KS.out _ _ hHeld1 (below_setRow ((Below.refl _ _).alloc (Nat.le_refl _) _) (Nat.le_refl _))
          clear hK K
          refine wpAnyH_ready (rs := [14]) (by kernel_rfl) (by simp) ?_
          refine AllReadyH.cons (o := _) rfl (fun K hK => ?_) AllReadyH.nil
          go_simp
          refine hK.out _ _ ?_ (fun hHeld4 => ?_)
          · exact hHeld3
          clear hK K
          refine wpAnyH_done (by kernel_rfl) ?_ _
          have hI9 := OS.out _ hHeld4
          clear hHeld3 hHeld4 KS OS hHeld1 hHeld2
          have hB6 : B6 < w1.heap.size := Nat.lt_of_lt_of_le HLT.out bb.size
          go_wp2_with fail
          go_meet
          case rel => exact ⟨w1.heap.size, cs1, S1, b1, rfl, rfl, hs1, (Whole.made w1 zeroSeat 114).setRow (ds := cs1), HY, HN, hI9, hB6⟩
        · go_simp
          refine hK.out _ _ ?_ (fun hHeld1 => ?_)
          · exact KS.out _ _ hHeld ((Below.refl _ _).alloc (Nat.le_refl _) _)
          clear hK K
          refine wpAnyH_ready (rs := [8]) (by kernel_rfl) (by simp) ?_
          refine AllReadyH.cons (o := _) rfl (fun K hK => ?_) AllReadyH.nil
          go_simp
          refine (after_any _ d.N tc d HOK.out i hiN x cs S _ HSE.out (fun j => Nat.le_trans (HSM.out j) (by omega))).mono ?_
          rintro e w1 ⟨cs1, S1, b1, rfl, hs1, hy, hn, bb⟩
          have HY := Lib.hid hy
          have HN := Lib.hid hn
          clear hy hn
          have hz := (Whole.made wr.drew zeroSeat 114).below bb
          have HZ := Lib.hid hz
          clear hz
          (try go_wp2_with fail)
          refine hK.out _ _ ?_ (fun hHeld2 => ?_)
          · exact KS.out _ _ hHeld1 bb
          clear hK K
          refine wpAnyH_take (i := 9) (v := ?_) rfl (by kernel_rfl) (by kernel_rfl) (by kernel_rfl) (fun _ _ _ h => h) (Or.inl ⟨by rfl, ?_⟩) (by assumption) ?_
          rotate_left
          · (intro wa hSw; go_simp; try with_reducible rfl)
          simp only [Act.put, List.getElem_toArray, List.getElem_cons_zero, List.getElem_cons_succ, List.setIfInBounds_toArray, List.set_cons_zero, List.set_cons_succ]
          refine wpAnyH_take (i := 10) (v := ?_) rfl (by kernel_rfl) (by kernel_rfl) (by kernel_rfl) (fun _ _ _ h => h) (Or.inl ⟨by rfl, ?_⟩) (by assumption) ?_
          rotate_left
          · (intro wa hSw; go_simp; try with_reducible rfl)
          simp only [Act.put, List.getElem_toArray, List.getElem_cons_zero, List.getElem_cons_succ, List.setIfInBounds_toArray, List.set_cons_zero, List.set_cons_succ]
          refine wpAnyH_take (i := 11) (v := ?_) rfl (by kernel_rfl) (by kernel_rfl) (by kernel_rfl) (fun _ _ _ h => h) (Or.inl ⟨by rfl, ?_⟩) (by assumption) ?_
          rotate_left
          · (intro wa hSw; go_simp; try with_reducible rfl)
          simp only [Act.put, List.getElem_toArray, List.getElem_cons_zero, List.getElem_cons_succ, List.setIfInBounds_toArray, List.set_cons_zero, List.set_cons_succ]
          have hbb : Below wr.drew.heap.size wr.drew w1 := ((Below.refl _ _).alloc (Nat.le_refl _) _).trans (bb.mono (by simp))
          refine wpAnyH_ready (rs := [13]) (by kernel_rfl) (by simp) ?_
          refine AllReadyH.cons (o := _) rfl (fun K hK => ?_) AllReadyH.nil
          rw [if_pos (by rfl)]
          refine wp_store_row 114 (.tmp 9) (.tmp 35) rfl wr.heap.size cs1 rfl rfl 114 zeroSeat HZ.out (by rw [hs1.1]; exact seat_info) (by rw [hs1.1]; rfl) hs1.all ?_
          simp only [Act.put]
          refine hK.out _ _ ?_ (fun hHeld3 => ?_)
          · exact KS.out _ _ hHeld (below_setRow hbb (Nat.le_refl _))
          clear hK K
          refine wpAnyH_ready (rs := [14]) (by kernel_rfl) (by simp) ?_
          refine AllReadyH.cons (o := _) rfl (fun K hK => ?_) AllReadyH.nil
          go_simp
          refine hK.out _ _ ?_ (fun hHeld4 => ?_)
          · exact hHeld3
          clear hK K
          refine wpAnyH_done (by kernel_rfl) ?_ _
          have hI9 := OS.out _ hHeld4
          clear hHeld3 hHeld4 KS OS hHeld hHeld1 hHeld2
          go_wp2_with fail
          go_meet
          case rel => exact ⟨wr.heap.size, cs1, S1, b1, rfl, rfl, hs1, HZ.out.setRow (ds := cs1), HY, HN, hI9, HLT.out⟩
      case rest =>
        obtain ⟨D, cs1, S1, b, rfl, rfl, HS1, HW1, HY, HN, HI1, hBD⟩ := hcut
        have HSZ : Hid ((Try.prog.info? 114).map (·.size) = some cs1.size) := by show _ = _; rw [HS1.out.1]; exact seat_info
        cases b with
        | false =>
          have HRN : Hid (RR = none) := by show _ = _; rw [← HV3.out, if_neg (HN.out rfl)]
          have HBE : Hid (Below w.heap.size w (wc.setRow (w.heap.size + 1) zeroSeat)) := below_setRow HI1.out.b (by omega)
          have HLD : Hid ((loadVar 114 ⟨w.heap.size + 1, 0, none⟩).run Try.prog (wc.setRow (w.heap.size + 1) zeroSeat) = .ok (.agg zeroSeat) (wc.setRow (w.heap.size + 1) zeroSeat)) := seat_load zero_seat HI1.out.r.setRow
          go_wp2_with (refine wpList_store_row rfl 114 (.tmp 4) (.tmp 39) rfl (w.heap.size + 1) zeroSeat rfl rfl 114 zeroSeat HI1.out.r (by kernel_rfl) rfl zero_seat.all ?_)
          refine bodyPost_ret (v := .tuple #[.agg zeroSeat, .bool false]) (results_cell2 Try.results77 rfl rfl HLD.out) rfl ⟨zeroSeat, fun _ => 0, by rw [HRN.out]; rfl, zero_seat, (fun S' h => by rw [HRN.out] at h; cases h), HBE.out⟩
        | true =>
          obtain ⟨hx9, he⟩ := HY.out rfl
          have HVN : Hid (foldS d (L.drop (i + 1)) (i + 1) S1 = RR) := by show _ = _; rw [he, ← HV3.out, if_pos hx9]
          have HSN : Hid (SmallS S1 (i + 1)) := by show SmallS S1 (i + 1); rw [he]; exact HSM.out.next
          have HSE2 : Hid (cs.size = cs1.size) := by show _ = _; rw [HSE.out.1, HS1.out.1]
          have HAL : Hid (cs1.all (·.oneCell') = true) := HS1.out.all
          have HIN := Lib.hid (HI1.out.put cs1 HWs.out HT.out)
          clear he hx9 HY HN HV3
          go_wp2_with (first | (refine wpList_load_row rfl 114 (.tmp 9) rfl D rfl 114 cs1 (0, 0) _ HW1.out Try.underlying114 rfl HSZ.out ?_) | (refine wpList_store_row rfl 114 (.tmp 6) (.tmp 40) rfl B6 cs1 rfl rfl 114 cs HI1.out.s HSZ.out HSE2.out HAL.out ?_))
          go_roundw
          case rel => exact ⟨i + 1, cs1, S1, by omega, by go_num, HVN, HS1, HSN, HIN⟩
          case measure => simp [RowKit.intOf]; omega
    obtain rfl : i = m := by omega
    have HRS : Hid (RR = some S) := by show _ = _; rw [← HV0.out, List.drop_of_length_le (by have := HM.out; omega)]; rfl
    have HSZ : Hid ((Try.prog.info? 114).map (·.size) = some cs.size) := by show _ = _; rw [HSE.out.1]; exact seat_info
    have HSE2 : Hid (zeroSeat.size = cs.size) := by show _ = _; rw [HSE.out.1]; rfl
    have HAL : Hid (cs.all (·.oneCell') = true) := HSE.out.all
    have HBE : Hid (Below w.heap.size w (wr.setRow (w.heap.size + 1) cs)) := below_setRow HI.out.b (by omega)
    have HLD : Hid ((loadVar 114 ⟨w.heap.size + 1, 0, none⟩).run Try.prog (wr.setRow (w.heap.size + 1) cs) = .ok (.agg cs) (wr.setRow (w.heap.size + 1) cs)) := seat_load HSE.out HI.out.r.setRow
    go_wp2_with (first | (refine wpList_load_row rfl 114 (.tmp 6) rfl B6 rfl 114 cs (0, 0) _ HI.out.s Try.underlying114 rfl HSZ.out ?_) | (refine wpList_store_row rfl 114 (.tmp 4) (.tmp 42) rfl (w.heap.size + 1) cs rfl rfl 114 zeroSeat HI.out.r HSZ.out HSE2.out HAL.out ?_))
    refine bodyPost_ret (v := .tuple #[.agg cs, .bool true]) (results_cell2 Try.results77 rfl rfl HLD.out) rfl ⟨cs, S, by rw [HRS.out]; rfl, HSE.out, (fun S' h => by rw [HRS.out] at h; cases h; rfl), HBE.out⟩
end Go.Proofs.Ytmhkkdnopcdibaa
set_option linter.unusedVariables false
namespace Go.Proofs.Ytmhkkdnopcdibaa
open Go.RowKit

theorem fold_beg {d : DrwD} (ok : DrwOk d) (L : List Int) : (foldP d L).isSome = (begB d L noP noC).isSome := by
  unfold foldP begB
  by_cases hl : L.length ≤ d.N
  · rw [if_pos hl, if_pos hl]
    have h := Sim.fold ok L 0 (fun _ => 0) noP noC (by omega) (Sim.start d)
    cases hf : foldS d L 0 (fun _ => 0) with
    | none => rw [h.2 hf]; rfl
    | some S => obtain ⟨P, C, h1, _⟩ := h.1 S hf; rw [h1]; rfl
  · rw [if_neg hl, if_neg hl]; rfl
set_option maxRecDepth 100000 in
set_option maxHeartbeats 4000000 in
theorem has_impl (ta : Option Addr) (tc : Nat) (d : DrwD) (ok : DrwOk d) (vp : Value) (L : List Int) (R : Bool) (w : World) (hR : R = ((foldP d L).isSome && decide (L.length = d.N))) (hT : TurnsAt w (.slice ta d.N tc) d) (hv : IntRow w vp L.length (getI L)) :
    Calls Try.prog 52 #[.agg #[.slice ta d.N tc, .int .i64 d.G, .int .i64 d.most], vp] w fun e w' => e = .returned (.bool R) ∧ Below w.heap.size w w' := by
  obtain ⟨va, vc, rfl, hl9, _⟩ := hv.form
  obtain ⟨W, hW⟩ : ∃ W, w.alloc (.cells #[.slice ta d.N tc, .int .i64 d.G, .int .i64 d.most] 61) = W := ⟨_, rfl⟩
  have b1 : Below w.heap.size w W := by rw [← hW]; exact (Below.refl w.heap.size w).alloc (Nat.le_refl _) _
  have HX : Hid (BoxN W w.heap.size [.slice ta d.N tc, .int .i64 d.G, .int .i64 d.most]) := by rw [← hW]; exact BoxN.made (Below.refl _ _) rfl
  have CA := Lib.hid (afterAll_impl ta tc d ok (.slice va L.length vc) L W (RecRow.below hT b1 (Nat.le_refl _)) (hv.below b1 (Nat.le_refl _)))
  have HB := Lib.hid b1
  have HR := Lib.hid hR
  have hN8 := ok.N
  obtain ⟨m, hm⟩ : ∃ m, L.length = m := ⟨_, rfl⟩
  rw [hm] at hl9 CA HR ⊢
  obtain ⟨RR, hRR⟩ : ∃ RR, foldP d L = RR := ⟨_, rfl⟩
  rw [hRR] at CA HR
  clear hm hRR hv hT b1 ok hR
  have c0 := HX.out.2 0 _ rfl
  have c1 := HX.out.2 1 _ rfl
  have c2 := HX.out.2 2 _ rfl
  have z0 := HX.out.1
  go_enter Try.func52, Try.ntmps52
  go_wp2_with fail
  clear hW c0 c1 c2
  refine CA.out.mono ?_
  rintro e w1 ⟨cs, S, rfl, hs, _, b⟩
  have HS := Lib.hid hs
  have HB1 := Lib.hid (HB.out.trans (b.mono HB.out.size))
  have HX1 := Lib.hid (HX.out.below b)
  have HZ : Hid (Whole (w1.alloc (.cells zeroSeat 114)) w1.heap.size zeroSeat 114) := Whole.made _ _ _
  have HX2 : Hid (BoxN ((w1.alloc (.cells zeroSeat 114)).setRow w1.heap.size cs) w.heap.size [.slice ta d.N tc, .int .i64 d.G, .int .i64 d.most]) :=
    (HX1.out.below ((Below.refl _ _).alloc (Nat.le_refl _) _)).sameD (by simp [World.setRow]) (setRow_other _ _ _ _ (by have := HX1.out.1; omega))
  have HB2 : Hid (Below w.heap.size w ((w1.alloc (.cells zeroSeat 114)).setRow w1.heap.size cs)) := below_setRow (HB1.out.alloc HB1.out.size _) HB1.out.size
  have HSZ : Hid ((Try.prog.info? 114).map (·.size) = some cs.size) := by show _ = _; rw [hs.1]; exact seat_info
  have HSE : Hid (zeroSeat.size = cs.size) := by show _ = _; rw [hs.1]; rfl
  have HAL : Hid (cs.all (·.oneCell') = true) := hs.all
  clear hs b CA HX HB HX1
  go_upto_region 2 with (refine wpList_store_row rfl 114 (.tmp 5) (.tmp 11) rfl w1.heap.size cs rfl rfl 114 zeroSeat HZ.out HSZ.out HSE.out HAL.out ?_)
  have hx2 := HX2.out
  have hb2 := HB2.out
  simp only [zeroSeat] at hx2 hb2
  have c0 := hx2.2 0 _ rfl
  have z0 := hx2.1
  have HB3 := Lib.hid hb2
  clear hx2 hb2 HX2 HB2 HSZ HSE HAL HZ
  obtain ⟨bs, hbs⟩ : ∃ bs, RR.isSome = bs := ⟨_, rfl⟩
  rw [hbs] at HR ⊢
  clear hbs
  cases bs with
  | false =>
    obtain rfl : R = false := HR.out
    go_wp2
    go_ret
    exact ⟨rfl, HB3.out⟩
  | true =>
    have g1 : ((m : Int) == (d.N : Int)) = R := by
      rw [HR.out, Bool.true_and, Bool.eq_iff_iff, beq_iff_eq, decide_eq_true_eq]
      omega
    go_wp2
    go_ret
    exact ⟨rfl, HB3.out⟩
theorem TurnsAt.form {w : World} {v : Value} {d : DrwD} (h : TurnsAt w v d) : ∃ ta tc, v = .slice ta d.N tc := by
  obtain ⟨a, c, h1, _⟩ := RecRow.form h
  exact ⟨a, c, h1⟩
set_option maxRecDepth 100000 in
set_option maxHeartbeats 4000000 in
theorem isDraw_impl (vf : Value) (nf : Nat) (F : Nat → TeamD) (vp : Value) (gr most : Int) (T : List (List Int)) (vd : Value) (L : List Int) (R : Bool) (w : World) (hR : R = true ↔ potsP nf F T gr most ∧ isB F T gr most L = true) (hf : TeamRow w vf nf F) (hs : ∀ i, (F i).nm.size ≤ maxLen) (h : RdA tIntSS w [vp] T) (hw : tIntSS.wt T ≤ 1048576) (hd : IntRow w vd L.length (getI L)) :
    Calls Try.prog 17 #[vf, .agg #[vp, .int .i64 gr, .int .i64 most], vd] w fun e w' => e = .returned (.bool R) ∧ Below w.heap.size w w' := by
  obtain ⟨pa, pc, rfl, hpn⟩ := pots_form h
  obtain ⟨da, dc, rfl, hdn, _⟩ := hd.form
  obtain ⟨U, hU⟩ : ∃ U, w.alloc (.cells #[.slice pa (List.length (α := List Int) T) pc, .int .i64 gr, .int .i64 most] 26) = U := ⟨_, rfl⟩
  have bU : Below w.heap.size w U := by rw [← hU]; exact (Below.refl _ _).alloc (Nat.le_refl _) _
  have HS : Hid (PotsAt U w.heap.size pa (List.length (α := List Int) T) pc gr most T) := by rw [← hU]; exact PotsAt.made h
  have HB := Lib.hid bU
  have HD : Hid (IntRow U (.slice da L.length dc) L.length (getI L)) := hd.below bU (Nat.le_refl _)
  have hf1 := hf.below bU (Nat.le_refl _)
  obtain ⟨fa, fc, rfl, hfn, _⟩ := hf.form
  by_cases hp : potsP nf F T gr most
  case neg =>
    obtain rfl : R = false := by cases R with | false => rfl | true => exact absurd (hR.1 rfl).1 hp
    have CF := Lib.hid (drawingOf_no (.slice fa nf fc) nf F (.slice pa (List.length (α := List Int) T) pc) gr most T U hp hf1 hs HS.out.2 hw)
    generalize List.length (α := List Int) T = np at *
    generalize L.length = m at *
    have c0 := HS.out.1.2 0 _ rfl
    have c1 := HS.out.1.2 1 _ rfl
    have c2 := HS.out.1.2 2 _ rfl
    clear hp hR h hd hf hf1 hs hw bU
    go_enter Try.func17, Try.ntmps17
    go_wp2_with fail
    clear hU c0 c1 c2
    refine CF.out.mono ?_
    rintro e w1 ⟨rfl, b⟩
    have HB1 := Lib.hid (HB.out.trans (b.mono HB.out.size))
    clear b CF
    go_wp2
    go_ret
    exact ⟨rfl, HB1.out.alloc HB1.out.size _⟩
  have CF := Lib.hid (drawingOf_yes (.slice fa nf fc) nf F (.slice pa (List.length (α := List Int) T) pc) gr most T U hp hf1 hs HS.out.2 hw)
  have HOK := Lib.hid (drw_ok hp)
  have HRR : Hid (R = ((foldP (drwD F T gr most) L).isSome && decide (L.length = (drwD F T gr most).N))) := by
    show R = _
    rw [fold_beg HOK.out, Bool.eq_iff_iff, hR]
    unfold isB
    rw [Bool.and_comm]
    exact ⟨fun h => h.2, fun h => ⟨hp, h⟩⟩
  generalize drwD F T gr most = d at *
  obtain ⟨m, hm⟩ : ∃ m, L.length = m := ⟨_, rfl⟩
  have HM := Lib.hid hm
  rw [hm] at hdn ⊢
  generalize List.length (α := List Int) T = np at *
  have c0 := HS.out.1.2 0 _ rfl
  have c1 := HS.out.1.2 1 _ rfl
  have c2 := HS.out.1.2 2 _ rfl
  clear hp hR h hd hf hf1 hs hw bU hm
  go_enter Try.func17, Try.ntmps17
  go_wp2_with fail
  clear hU c0 c1 c2
  refine CF.out.mono ?_
  rintro e w1 ⟨tv, rfl, ht, b⟩
  obtain ⟨ta, tc, rfl⟩ := ht.form
  have HT1 := Lib.hid ht
  have HB1 := Lib.hid (HB.out.trans (b.mono HB.out.size))
  have HD1 : Hid (IntRow w1 (.slice da m dc) m (getI L)) := by
    have h9 := HD.out.below b (Nat.le_refl _)
    rw [HM.out] at h9
    exact h9
  have CA : Hid (∀ wa, Below w1.heap.size w1 wa → Calls Try.prog 52 #[.agg #[.slice ta d.N tc, .int .i64 d.G, .int .i64 d.most], .slice da m dc] wa fun e w' => e = .returned (.bool R) ∧ Below wa.heap.size wa w') := fun wa hb => by
    have h9 := has_impl ta tc d HOK.out (.slice da m dc) L R wa HRR.out (RecRow.below HT1.out hb (Nat.le_refl _))
    rw [HM.out] at h9
    exact h9 (HD1.out.below hb (Nat.le_refl _))
  clear b ht CF HS HB HD
  go_wp2_with fail
  refine (CA.out _ ((Below.refl _ _).alloc (Nat.le_refl _) _)).mono ?_
  rintro e w2 ⟨rfl, b⟩
  have HB2 : Hid (Below w.heap.size w w2) := HB1.out.trans ((((Below.refl _ _).alloc (Nat.le_refl _) _).trans (b.mono (by simp))).mono HB1.out.size)
  clear b CA
  go_wp2
  go_ret
  exact ⟨rfl, HB2.out⟩
end Go.Proofs.Ytmhkkdnopcdibaa
