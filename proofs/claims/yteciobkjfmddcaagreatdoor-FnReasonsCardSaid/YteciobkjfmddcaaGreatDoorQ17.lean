/-
  Packed: SepIter, SepSteps.
-/
import Derived.Test.YteciobkjfmddcaaGreatDoorQ6
import Derived.Test.YteciobkjfmddcaaGreatDoorQ11
import Derived.Test.YteciobkjfmddcaaGreatDoorQ15
import Derived.Test.YteciobkjfmddcaaGreatDoorQ16
set_option linter.unusedVariables false
namespace Go.Proofs.YteciobkjfmddcaaGreatDoor
open Go.RowKit

set_option maxRecDepth 100000 in
set_option maxHeartbeats 2000000 in
theorem separationsOf_impl (fa : Option Addr) (fc : Nat) (la : Option Addr) (lc : Nat) (ga : Option Addr) (gc : Nat) (qa : Option Addr) (qc : Nat) (ta : Option Addr) (tc : Nat) (b : BookD) (ra : Option Addr) (rc : Nat) (t : Int) (w : World) :
    Calls Tryz.prog 19 #[.agg #[.slice fa b.nf fc, .int .i64 b.win, .int .i64 b.draw, .int .i64 b.loss, .slice la b.nl lc, .bool b.again, .slice ga b.m gc, .slice qa b.nfa qc, .slice ta b.nta tc, .slice ra b.nf rc], .int .i64 t] w fun e w' =>
      e = .returned (.func (.func 40) #[] #[.pointer (some ⟨w.heap.size, 0, none⟩), .pointer (some ⟨w.heap.size + 2, 0, none⟩), .pointer (some ⟨w.heap.size + 1, 0, none⟩)]) ∧
      BoxN w' w.heap.size [.slice fa b.nf fc, .int .i64 b.win, .int .i64 b.draw, .int .i64 b.loss, .slice la b.nl lc, .bool b.again, .slice ga b.m gc, .slice qa b.nfa qc, .slice ta b.nta tc, .slice ra b.nf rc] ∧
      BoxN w' (w.heap.size + 1) [.int .i64 t] ∧ BoxN w' (w.heap.size + 2) [.int .i64 b.win, .int .i64 b.draw, .int .i64 b.loss, .slice la b.nl lc, .bool b.again] ∧ Below w.heap.size w w' ∧ w'.heap.size = w.heap.size + 3 := by
  go_enter Tryz.func19, Tryz.ntmps19
  go_wp2
  go_ret
  refine ⟨rfl, BoxN.made (((Below.refl _ _).alloc (Nat.le_refl _) _).alloc (by simp) _) rfl, BoxN.made ((Below.refl _ _).alloc (Nat.le_refl _) _) (by simp), BoxN.made (Below.refl _ _) (by simp), (((Below.refl _ _).alloc (Nat.le_refl _) _).alloc (by simp) _).alloc (by simp; omega) _, by simp⟩

theorem BoxN.same {w w' : World} {B : Nat} {cs : List Value} (h : BoxN w B cs) (hs : w.heap.size ≤ w'.heap.size) (hb : w'.heap[B]? = w.heap[B]?) : BoxN w' B cs :=
  ⟨Nat.lt_of_lt_of_le h.1 hs, fun j v hj => (World.cell?_of_block (w := w) (a := ⟨B, j, none⟩) hb).trans (h.2 j v hj)⟩
theorem RecRow.same {k n : Nat} {w w' : World} {v : Value} {g : Nat → List Value} (h : RecRow k w v n g) (hs : w.heap.size ≤ w'.heap.size) (hb : ∀ q, v.ownBlock = some q → q < w.heap.size → w'.heap[q]? = w.heap[q]?) : RecRow k w' v n g := by
  rcases h with h | ⟨b, off, cap, rfl, h0, h2, h3, h4⟩
  · exact .inl h
  · exact .inr ⟨b, off, cap, rfl, h0, h2, fun i hi => ⟨Nat.lt_of_lt_of_le (h3 i hi).1 hs, fun j u hu => (World.cell?_of_block (w := w) (a := ⟨b, off + i * k + j, none⟩) (hb b rfl (h3 i hi).1)).trans ((h3 i hi).2 j u hu)⟩, h4⟩
theorem owns_same {w w' : World} {base : Nat} {e : TypeId} {size n : Nat} {v : Value} {xs : List Value} (h : w.ownsRow base e size v n xs) (hs : w.heap.size ≤ w'.heap.size) (hb : ∀ q, v.ownBlock = some q → w'.heap[q]? = w.heap[q]?) : w'.ownsRow base e size v n xs := by
  refine ⟨h.1, ?_⟩
  rcases h.2 with hn | ⟨g, cap, cur, rfl, hbg, hgg, rest⟩
  · exact .inl hn
  · exact .inr ⟨g, cap, cur, rfl, hbg, (hb g rfl).trans hgg, rest⟩
structure SpAt (W : World) (B Br Bt : Nat) (fa : Option Addr) (fc : Nat) (la : Option Addr) (lc : Nat) (ga : Option Addr) (gc : Nat) (qa : Option Addr) (qc : Nat) (ta : Option Addr) (tc : Nat) (b : BookD) (ra : Option Addr) (rc : Nat) (t : Int) : Prop where
  box : BoxN W B [.slice fa b.nf fc, .int .i64 b.win, .int .i64 b.draw, .int .i64 b.loss, .slice la b.nl lc, .bool b.again, .slice ga b.m gc, .slice qa b.nfa qc, .slice ta b.nta tc, .slice ra b.nf rc]
  tm : BoxN W Bt [.int .i64 t]
  ru : BoxN W Br [.int .i64 b.win, .int .i64 b.draw, .int .i64 b.loss, .slice la b.nl lc, .bool b.again]
  row : BookRow W (.slice fa b.nf fc) (.slice la b.nl lc) (.slice ga b.m gc) (.slice qa b.nfa qc) (.slice ta b.nta tc) b
  tab : RowRow W (.slice ra b.nf rc) b.nf (tabAll b)
section
variable {W W' : World} {B Br Bt : Nat} {fa : Option Addr} {fc : Nat} {la : Option Addr} {lc : Nat} {ga : Option Addr} {gc : Nat} {qa : Option Addr} {qc : Nat} {ta : Option Addr} {tc : Nat} {b : BookD} {ra : Option Addr} {rc : Nat} {t : Int}
theorem SpAt.next (h : SpAt W B Br Bt fa fc la lc ga gc qa qc ta tc b ra rc t) (hb : Below W.heap.size W W') : SpAt W' B Br Bt fa fc la lc ga gc qa qc ta tc b ra rc t :=
  ⟨BoxN.below h.box hb, BoxN.below h.tm hb, BoxN.below h.ru hb, h.row.below hb (Nat.le_refl _), h.tab.below hb (Nat.le_refl _)⟩
theorem SpAt.kept {wn w : World} {H : Nat} (h : SpAt w B Br Bt fa fc la lc ga gc qa qc ta tc b ra rc t) (hrow : BookRow wn (.slice fa b.nf fc) (.slice la b.nl lc) (.slice ga b.m gc) (.slice qa b.nfa qc) (.slice ta b.nta tc) b) (hbel : Below wn.heap.size wn w) (hB : H ≤ B) (hBr : H ≤ Br) (hBt : H ≤ Bt) (hra : ∀ q, (Value.slice ra b.nf rc).ownBlock = some q → H ≤ q)
    (k : Kept wn.heap.size (fun k => H ≤ k ∧ k < w.heap.size) w W) : SpAt W B Br Bt fa fc la lc ga gc qa qc ta tc b ra rc t :=
  ⟨h.box.same k.bel.size (k.blk _ ⟨hB, h.box.1⟩ h.box.1), h.tm.same k.bel.size (k.blk _ ⟨hBt, h.tm.1⟩ h.tm.1), h.ru.same k.bel.size (k.blk _ ⟨hBr, h.ru.1⟩ h.ru.1),
    hrow.below (hbel.trans k.bel) (Nat.le_refl _), RecRow.same h.tab k.bel.size (fun q hq hl => k.blk q ⟨hra q hq, hl⟩ hl)⟩
theorem SpAt.cells (h : SpAt W B Br Bt fa fc la lc ga gc qa qc ta tc b ra rc t) : W.cell? ⟨B, 0, none⟩ = some (.slice fa b.nf fc) ∧ W.cell? ⟨B, 1, none⟩ = some (.int .i64 b.win) ∧ W.cell? ⟨B, 2, none⟩ = some (.int .i64 b.draw) ∧ W.cell? ⟨B, 3, none⟩ = some (.int .i64 b.loss) ∧ W.cell? ⟨B, 4, none⟩ = some (.slice la b.nl lc) ∧ W.cell? ⟨B, 5, none⟩ = some (.bool b.again) ∧ W.cell? ⟨B, 6, none⟩ = some (.slice ga b.m gc) ∧ W.cell? ⟨B, 7, none⟩ = some (.slice qa b.nfa qc) ∧ W.cell? ⟨B, 8, none⟩ = some (.slice ta b.nta tc) ∧ W.cell? ⟨B, 9, none⟩ = some (.slice ra b.nf rc) :=
  ⟨h.box.2 0 _ rfl, h.box.2 1 _ rfl, h.box.2 2 _ rfl, h.box.2 3 _ rfl, h.box.2 4 _ rfl, h.box.2 5 _ rfl, h.box.2 6 _ rfl, h.box.2 7 _ rfl, h.box.2 8 _ rfl, h.box.2 9 _ rfl⟩
theorem SpAt.rules (h : SpAt W B Br Bt fa fc la lc ga gc qa qc ta tc b ra rc t) : W.cell? ⟨Br, 3, none⟩ = some (.slice la b.nl lc) ∧ W.cell? ⟨Br, 4, none⟩ = some (.bool b.again) ∧ W.cell? ⟨Bt, 0, none⟩ = some (.int .i64 t) :=
  ⟨h.ru.2 3 _ rfl, h.ru.2 4 _ rfl, h.tm.2 0 _ rfl⟩
end
structure SepX where
  key : Int
  gv : Value
  grp : List Int
  pv : Value
  part : List Int
def SepX.dat (x : SepX) : SepD := ⟨x.key, x.grp, x.part⟩
abbrev encX (x : SepX) : Array Value := #[.agg #[.int .i64 x.key, x.gv, x.pv]]
def sepAll (b : BookD) (t : Int) : List SepD := sepP b t (allL b.nf) 0
def ZX (H E : Nat) (x : SepX) (k : Nat) : Prop := (H ≤ k ∧ k < E) ∨ x.pv.ownBlock = some k
def RelX (b : BookD) (t : Int) (D : Nat) (pre : List SepX) (x : SepX) (W0 W : World) : Prop :=
  (∃ rest, sepAll b t = pre.map SepX.dat ++ x.dat :: rest) ∧ W.ownsRow D 3 1 x.gv x.grp.length (x.grp.map (Value.int .i64)) ∧ W.ownsRow W0.heap.size 3 1 x.pv x.part.length (x.part.map (Value.int .i64)) ∧ D ≤ W0.heap.size
def SX (b : BookD) (t : Int) (xs : List SepX) : Prop := xs.map SepX.dat = sepAll b t
def SpX (b : BookD) (t : Int) (xs : List SepX) : Prop := ∃ rest, sepAll b t = xs.map SepX.dat ++ rest
def lenV : Value → Nat
  | .slice _ n _ => n
  | _ => 0
theorem teams_of {G : List Int} {n : Nat} (h : ∀ u ∈ G, 0 ≤ u ∧ u < (n : Int)) : teamsP n G.length (getI G) := fun i hi => by
  have e : getI G i = G[i] := by unfold getI; simp [hi]
  have := h G[i] (List.getElem_mem hi)
  rw [e]
  omega
set_option maxRecDepth 100000 in
set_option maxHeartbeats 4000000 in
theorem sepIter (dp : Nat) (hdp : 1 ≤ dp) (wn w : World) (H B Br Bt : Nat) (fa : Option Addr) (fc : Nat) (la : Option Addr) (lc : Nat) (ga : Option Addr) (gc : Nat) (qa : Option Addr) (qc : Nat) (ta : Option Addr) (tc : Nat) (b : BookD) (ra : Option Addr) (rc : Nat) (t : Int) (hp : bookP b) (ht : 0 ≤ t ∧ t < (b.nf : Int)) (h0 : SpAt w B Br Bt fa fc la lc ga gc qa qc ta tc b ra rc t) (hrow : BookRow wn (.slice fa b.nf fc) (.slice la b.nl lc) (.slice ga b.m gc) (.slice qa b.nfa qc) (.slice ta b.nta tc) b) (hbel : Below wn.heap.size wn w) (hnH : wn.heap.size ≤ H)
    (hB : H ≤ B) (hBr : H ≤ Br) (hBt : H ≤ Bt) (hra : ∀ q, (Value.slice ra b.nf rc).ownBlock = some q → H ≤ q) :
    SeqR Fence.wide dp Tryz.prog 40 #[.pointer (some ⟨B, 0, none⟩), .pointer (some ⟨Br, 0, none⟩), .pointer (some ⟨Bt, 0, none⟩)] encX wn.heap.size (ZX H w.heap.size) (RelX b t w.heap.size) (SX b t) (SpX b t) w := by
  intro l J Jx W hW hJ hJx hY hJ0
  have KE : Hid (∀ U, Kept wn.heap.size (fun k => H ≤ k ∧ k < w.heap.size) w U → SpAt U B Br Bt fa fc la lc ga gc qa qc ta tc b ra rc t) := fun U k => h0.kept hrow hbel hB hBr hBt hra k
  have K0 := Lib.hid (Kept.of_below (n0 := wn.heap.size) (Z := fun k => H ≤ k ∧ k < w.heap.size) hW hbel.size)
  have hnw : wn.heap.size ≤ W.heap.size := Nat.le_trans hbel.size hW.size
  have HNw := Lib.hid hbel.size
  have HW := Lib.hid hW
  have HY := Lib.hid hY
  have HJ0 := Lib.hid hJ0
  have HJA : Hid (∀ pre A U, J pre A → Below A.heap.size A U → J pre U) := fun pre A U h hb => hJ pre A U none h (below_grown hb (Nat.le_refl _)) (fun r e => by cases e)
  have A0 := KE.out _ K0.out
  have hsix := A0.row.sixty
  have CA := Lib.hid (fun (U : World) (h : SpAt U B Br Bt fa fc la lc ga gc qa qc ta tc b ra rc t) => allTeamsOf_impl _ _ _ _ _ b U h.row (by have := hp.1.1; omega))
  clear hW hY hJ0 hrow hbel hJ hJx
  obtain ⟨d0, d1, d2, d3, d4, d5, d6, d7, d8, d9⟩ := A0.cells
  refine callsIn_of_wp Tryz.func40 rfl trivial ?_ rfl
  simp only [Tryz.ntmps40, List.size_toArray, List.length_cons, List.length_nil, Nat.reduceAdd, Nat.reduceSub, Array.replicate_succ, Array.replicate_zero, List.push_toArray, List.append_toArray, List.nil_append, List.cons_append]
  refine wpIn_wide.2 ?_
  go_wp2_with fail
  refine (CA.out _ A0).mono ?_
  rintro e w1 ⟨v1, rfl, ho1, b1⟩
  obtain ⟨aa, ac, hvf⟩ := owns_form ho1
  subst hvf
  have HO1 := Lib.hid ho1
  have K1 := Lib.hid (K0.out.trans (Kept.of_below b1 hnw))
  clear d0 d1 d2 d3 d4 d5 d6 d7 d8 d9 A0 ho1
  go_wp2
  have CMU := Lib.hid (fun wa => isMutual_impl (b.l 0) wa)
  clear CMU
  have hnl8 : b.nl ≤ 8 := by have := hp.2.1.2.2.2.1; omega
  have hnf8 : b.nf ≤ 8 := by have := hp.1.1; omega
  have HAL : Hid ((∀ u ∈ allL b.nf, 0 ≤ u ∧ u < (b.nf : Int)) ∧ t ∈ allL b.nf ∧ (allL b.nf).length ≤ 8) := ⟨fun u hu => allL_mem.1 hu, allL_mem.2 ht, by rw [allL_len]; exact hnf8⟩
  have HWs := Lib.hid HW.out.size
  have CSP : Hid (∀ (U : World) (s : Nat) (gv : Value) (G : List Int), SpAt U B Br Bt fa fc la lc ga gc qa qc ta tc b ra rc t → IntRow U gv G.length (getI G) → (∀ u ∈ G, 0 ≤ u ∧ u < (b.nf : Int)) → G.length ≤ 8 → Calls Tryz.prog 43 #[.agg #[.slice fa b.nf fc, .int .i64 b.win, .int .i64 b.draw, .int .i64 b.loss, .slice la b.nl lc, .bool b.again, .slice ga b.m gc, .slice qa b.nfa qc, .slice ta b.nta tc, .slice ra b.nf rc], .int .i64 (b.l s), gv] U (ListsL U (partsL b (b.l s) (getI G) G.length))) := fun U s gv G h hg hG h8 =>
    split_impl fa fc la lc ga gc qa qc ta tc b ra rc (b.l s) gv G.length (getI G) U hp h.row h.tab hg (teams_of hG) (by omega)
  go_loopw [5, 6] (fun gvv iv wr => ∃ (pre : List SepX) (G : List Int) (s : Nat) (W0 : World) (a : Option Addr) (c : Nat), gvv = .slice a G.length c ∧ iv = .int .i64 s ∧ s ≤ b.nl ∧ Hid (wr.ownsRow w.heap.size 3 1 gvv G.length (G.map (Value.int .i64))) ∧
      Hid (sepAll b t = pre.map SepX.dat ++ sepP b t G s) ∧ Hid ((∀ u ∈ G, 0 ≤ u ∧ u < (b.nf : Int)) ∧ t ∈ G ∧ G.length ≤ 8) ∧ Hid (J pre W0 ∧ w.heap.size ≤ W0.heap.size) ∧ Hid (Below W0.heap.size W0 wr) ∧ Hid (Kept wn.heap.size (fun k => H ≤ k ∧ k < w.heap.size) w wr)) (fun gvv iv _ => rankM b.nl (lenV gvv) (RowKit.intOf iv).toNat)
  case atStart => exact ⟨[], allL b.nf, 0, W, aa, ac, rfl, rfl, Nat.zero_le _, owns_mono HO1.out HWs.out, rfl, HAL.out, ⟨HJ0.out, HWs.out⟩, b1, K1.out⟩
  case round =>
    obtain ⟨pre, G, s, W0, ga2, gc2, rfl, rfl, hsl, HO, HS, HGI, HJW, HB, HK⟩ := hrel
    clear HO1 K1 HAL HJ0 K0 b1 HW CA
    have A := KE.out _ HK.out
    obtain ⟨r3, r4, r5⟩ := A.rules
    obtain ⟨n, hn2⟩ : ∃ n, G.length = n := ⟨_, rfl⟩
    have h8 : n ≤ 8 := by rw [← hn2]; exact HGI.out.2.2
    have HN2 := Lib.hid hn2
    by_cases hend : n < 2 ∨ b.nl ≤ s
    · have HE : Hid (sepAll b t = pre.map SepX.dat) := by show _ = _; rw [HS.out, sepP_end b t (by rw [HN2.out]; exact hend), List.append_nil]
      rw [hn2]
      clear hn2
      have hways : (decide ((1 : Int) < (n : Int)) = false ∧ decide (1 < n) = false) ∨ (decide ((1 : Int) < (n : Int)) = true ∧ decide (1 < n) = true) ∧ decide ((s : Int) < (b.nl : Int)) = false ∧ decide (s < b.nl) = false := by
        by_cases h2 : n < 2
        · exact .inl ⟨decide_eq_false (by omega), decide_eq_false (by omega)⟩
        · exact .inr ⟨⟨decide_eq_true (by omega), decide_eq_true (by omega)⟩, decide_eq_false (by omega), decide_eq_false (by omega)⟩
      have HF : Hid ((∃ xs, SX b t xs ∧ J xs wr) ∨ ∃ pre, SpX b t pre ∧ Jx pre wr) := .inl ⟨pre, HE.out.symm, HJA.out _ _ _ HJW.out.1 HB.out⟩
      rcases hways with ⟨g1, g2⟩ | ⟨⟨g1, g2⟩, g3, g4⟩
      all_goals
        go_wp2
        go_end0
        exact ⟨⟨_, rfl⟩, HF.out⟩
    · have hs : s < b.nl := by omega
      have hsx : (s : Int) < b.nl := by omega
      have g1 : decide ((1 : Int) < (n : Int)) = true := decide_eq_true (by omega)
      have g2 : decide (1 < n) = true := decide_eq_true (by omega)
      have g3 : decide ((s : Int) < (b.nl : Int)) = true := decide_eq_true (by omega)
      have g4 : decide (s < b.nl) = true := decide_eq_true hs
      obtain ⟨lb, lof, rfl, hlc, cl0⟩ := int_at A.row.2.1 hs
      have HCL : Hid (∀ U, Below wr.heap.size wr U → U.cell? ⟨lb, lof + s, none⟩ = some (.int .i64 (b.l s))) := fun U hb => (hb.cell (p := ⟨lb, lof + s, none⟩) (World.block_lt_of_cell? wr _ cl0)).trans cl0
      obtain ⟨p, hpp⟩ := part_has (b := b) (key := b.l s) HGI.out.2.1
      have HP := Lib.hid hpp
      have hpm := hit_mem hpp
      have HPL : Hid (p.length ≤ n ∧ (∀ u ∈ p, u ∈ G) ∧ t ∈ p ∧ (p.length ≠ n → 1 < (partsL b (b.l s) (getI G) G.length).length)) := ⟨by rw [← HN2.out]; exact partsL_le hpm, parts_in hpm, part_mem hpp, fun hne => by
        have h1 : ¬ (partsL b (b.l s) (getI G) G.length).length = 1 := fun e => hne (((part_whole hpm).2 e).trans HN2.out)
        have := List.length_pos_of_mem hpm
        omega⟩
      have HSone : Hid (p.length = n → sepP b t G s = sepP b t G (s + 1)) := fun e => sepP_one b t (by rw [HN2.out]; omega) hs hpp (e.trans HN2.out.symm)
      have HSon : Hid (p.length ≠ n → sepP b t G s = ⟨b.l s, G, p⟩ :: sepP b t p (nextS b (partsL b (b.l s) (getI G) G.length).length s)) := fun e => sepP_on b t (by rw [HN2.out]; omega) hs hpp (fun h => e (h.trans HN2.out))
      have HM1 : Hid (rankM b.nl n (s + 1) < rankM b.nl n s) := stepM_lt hs
      have HM2 : Hid (rankM b.nl p.length (nextS b (partsL b (b.l s) (getI G) G.length).length s) < rankM b.nl n s) := Nat.lt_of_lt_of_eq (rankM_lt (b := b) (s := s) hs hpm) (by rw [HN2.out])
      have CPA : Hid (∀ (U : World) (D : Nat) (v : Value) (T : List (Value × List Int)), LL U D v T → T.map Prod.snd = partsL b (b.l s) (getI G) G.length → Calls Tryz.prog 42 #[.int .i64 t, v] U fun e w' => ∃ x ∈ T, x.2 = p ∧ e = .returned x.1 ∧ Below U.heap.size U w') := fun U D v T h e =>
        partWith_impl t v D T p U h (by have h1 := congrArg List.length e; rw [List.length_map] at h1; have := partsL_len (b := b) (key := b.l s) (gg := getI G) (n := G.length); have := HGI.out.2.2; omega) (by rw [e]; exact hpp) (fun x hx => by
          have h1 : x.2 ∈ partsL b (b.l s) (getI G) G.length := by rw [← e]; exact List.mem_map.2 ⟨x, hx, rfl⟩
          have := partsL_le h1; have := HGI.out.2.2; omega)
      have CSG := Lib.hid (fun U h hg => CSP.out U s (.slice ga2 G.length gc2) G h hg HGI.out.1 HGI.out.2.2)
      rw [hn2] at CSG HO CPA HM2 HSon HPL ⊢
      clear hn2 hpp hpm CSP
      generalize partsL b (b.l s) (getI G) n = PL at *
      have HNX : Hid (nextS b PL.length s = if 1 < PL.length ∧ b.again = true ∧ mutualB (b.l s) = true then 0 else s + 1) := rfl
      generalize nextS b PL.length s = nx at *
      have CMU := Lib.hid (fun wa => isMutual_impl (b.l s) wa)
      generalize mutualB (b.l s) = mu at *
      have HKEY : Hid (∃ k, k = b.l s) := ⟨_, rfl⟩
      generalize b.l s = key at *
      obtain ⟨S, HSd⟩ : ∃ S : World → Prop, S = fun U => SpAt U B Br Bt fa fc (some ⟨lb, lof, none⟩) lc ga gc qa qc ta tc b ra rc t ∧ U.ownsRow w.heap.size 3 1 (.slice ga2 n gc2) n (G.map (Value.int .i64)) ∧ Below wr.heap.size wr U := ⟨_, rfl⟩
      have KS : Hid (∀ wa wb, S wa → Below wa.heap.size wa wb → S wb) := by subst HSd; exact fun wa wb h b => ⟨h.1.next b, owns_below h.2.1 b (Nat.le_refl _), h.2.2.trans (b.mono h.2.2.size)⟩
      have OS : Hid (∀ wa, S wa → SpAt wa B Br Bt fa fc (some ⟨lb, lof, none⟩) lc ga gc qa qc ta tc b ra rc t ∧ wa.ownsRow w.heap.size 3 1 (.slice ga2 n gc2) n (G.map (Value.int .i64)) ∧ Below wr.heap.size wr wa) := by subst HSd; exact fun wa h => h
      have IS : Hid (S wr.drew) := by subst HSd; exact ⟨A.next (Below.refl _ _).drew, owns_below HO.out (Below.refl wr.heap.size wr).drew (Nat.le_refl _), (Below.refl _ _).drew⟩
      have HGL : Hid (∀ U, U.ownsRow w.heap.size 3 1 (.slice ga2 n gc2) n (G.map (Value.int .i64)) → IntRow U (.slice ga2 n gc2) n (getI G)) := fun U h => by
        have h1 := IntRow.of_list (L := G) (v := .slice ga2 n gc2) (by rw [HN2.out]; exact h) (by have := HGI.out.2.2; omega)
        rw [HN2.out] at h1; exact h1
      clear HSd
      clear A
      go_wp2_with fail
      refine wp_region_held_drew (S := S) (by kernel_rfl) ?_ (fun hHeld => ?_)
      · exact IS.out
      refine wpAnyH_take (i := 0) (v := ?_) rfl (by kernel_rfl) (by kernel_rfl) (by kernel_rfl) (fun _ _ _ h => h) (Or.inl ⟨by rfl, ?_⟩) hHeld ?_
      rotate_left
      · (intro wa hSw; have K := OS.out _ hSw; obtain ⟨q3, q4, q5⟩ := K.1.rules; go_simp; try with_reducible rfl)
      simp only [Act.put, List.getElem_toArray, List.getElem_cons_zero, List.setIfInBounds_toArray, List.set_cons_zero, List.set_cons_succ]
      refine wpAnyH_take (i := 1) (v := ?_) rfl (by kernel_rfl) (by kernel_rfl) (by kernel_rfl) (fun _ _ _ h => h) (Or.inl ⟨by rfl, ?_⟩) hHeld ?_
      rotate_left
      · (intro wa hSw; have K := OS.out _ hSw; obtain ⟨d0, d1, d2, d3, d4, d5, d6, d7, d8, d9⟩ := K.1.cells; go_simp; try with_reducible rfl)
      simp only [Act.put, List.getElem_toArray, List.getElem_cons_zero, List.getElem_cons_succ, List.setIfInBounds_toArray, List.set_cons_zero, List.set_cons_succ]
      refine wpAnyH_take (i := 2) (v := ?_) rfl (by kernel_rfl) (by kernel_rfl) (by kernel_rfl) (fun _ _ _ h => h) (Or.inl ⟨by rfl, ?_⟩) hHeld ?_
      rotate_left
      · (intro wa hSw; go_simp; try with_reducible rfl)
      simp only [Act.put, List.getElem_toArray, List.getElem_cons_zero, List.getElem_cons_succ, List.setIfInBounds_toArray, List.set_cons_zero, List.set_cons_succ]
      refine wpAnyH_take (i := 3) (v := ?_) rfl (by kernel_rfl) (by kernel_rfl) (by kernel_rfl) (fun _ _ _ h => h) (Or.inl ⟨by rfl, ?_⟩) hHeld ?_
      rotate_left
      · (intro wa hSw; go_simp; try with_reducible rfl)
      simp only [Act.put, List.getElem_toArray, List.getElem_cons_zero, List.getElem_cons_succ, List.setIfInBounds_toArray, List.set_cons_zero, List.set_cons_succ]
      refine wpAnyH_ready (rs := [4]) (by kernel_rfl) (by simp) ?_
      refine AllReadyH.cons (o := _) rfl (fun K hK => ?_) AllReadyH.nil
      go_simp
      have KK := OS.out _ hHeld
      refine (CSG.out _ KK.1 (HGL.out _ KK.2.1)).mono ?_
      rintro e w101 ⟨v8, T, rfl, hT, hLL, b101⟩
      have HT := Lib.hid hT
      have HLL := Lib.hid hLL
      obtain ⟨pa, pc, hvf⟩ := owns_form hLL.1
      subst hvf
      have HSZ := Lib.hid (KK.2.2.size)
      clear hT hLL KK
      (try go_wp2_with fail)
      refine hK.out _ _ ?_ (fun hHeld101 => ?_)
      · exact KS.out _ _ hHeld b101
      clear hK K
      refine wpAnyH_ready (rs := [5]) (by kernel_rfl) (by simp) ?_
      refine AllReadyH.cons (o := _) rfl (fun K hK => ?_) AllReadyH.nil
      go_simp
      refine (CPA.out _ _ _ T HLL.out HT.out).mono ?_
      rintro e w102 ⟨⟨pv, pl⟩, hx, hxp, rfl, b102⟩
      dsimp only at hxp
      subst hxp
      have hpo := (HLL.out.below b102 (Nat.le_refl _)).2.1 _ hx
      dsimp only at hpo ⊢
      obtain ⟨ya, yc, hyf⟩ := owns_form hpo
      subst hyf
      have HPO := Lib.hid hpo
      clear hpo hx
      (try go_wp2_with fail)
      refine hK.out _ _ ?_ (fun hHeld102 => ?_)
      · exact KS.out _ _ hHeld101 b102
      clear hK K
      refine wpAnyH_take (i := 6) (v := ?_) rfl (by kernel_rfl) (by kernel_rfl) (by kernel_rfl) (fun _ _ _ h => h) (Or.inl ⟨by rfl, ?_⟩) hHeld102 ?_
      rotate_left
      · (intro wa hSw; go_simp; try with_reducible rfl)
      simp only [Act.put, List.getElem_toArray, List.getElem_cons_zero, List.getElem_cons_succ, List.setIfInBounds_toArray, List.set_cons_zero, List.set_cons_succ]
      refine wpAnyH_done (by kernel_rfl) ?_ _
      have KE2 := Lib.hid (OS.out _ hHeld102)
      clear KS OS IS hHeld hHeld101 hHeld102
      have HPW : Hid (w102.ownsRow W0.heap.size 3 1 (.slice ya pl.length yc) pl.length (pl.map (Value.int .i64))) := owns_mono HPO.out (Nat.le_trans HB.out.size HSZ.out)
      have HK2 : Hid (Kept wn.heap.size (fun k => H ≤ k ∧ k < w.heap.size) w w102) := HK.out.trans (Kept.of_below KE2.out.2.2 (Nat.le_trans HNw.out HK.out.bel.size))
      have HB2 : Hid (Below W0.heap.size W0 w102) := HB.out.trans (KE2.out.2.2.mono HB.out.size)
      clear HB HK HPO HSZ HLL HT CSG CPA HCL r3 r4 r5 cl0
      by_cases hw : pl.length = n
      · have g5 : ((pl.length : Int) == (n : Int)) = true := by simp [hw]
        have g6 : (pl.length == n) = true := by simp [hw]
        have HWQ := Lib.hid hw
        clear hw
        go_wp2_with fail
        go_roundw
        case rel => exact ⟨pre, G, s + 1, W0, ga2, gc2, by rw [HN2.out], by go_num, by omega, by show World.ownsRow _ _ _ _ _ _ _; rw [HN2.out]; exact KE2.out.2.1, HS.out.trans (by rw [HSone.out HWQ.out]), HGI, HJW, HB2, HK2⟩
        case measure => simp only [RowKit.intOf, lenV]; have := HM1.out; exact this
      · have g5 : ((pl.length : Int) == (n : Int)) = false := by rw [beq_eq_false_iff_ne]; omega
        have g6 : (pl.length == n) = false := by rw [beq_eq_false_iff_ne]; exact hw
        have HWQ := Lib.hid hw
        clear hw
        go_upto_region 6 with fail
        refine (wpIn_wide (n := dp)).1 ?_
        have hgo : w102.ownsRow w.heap.size 3 1 (.slice ga2 n gc2) G.length (G.map (Value.int .i64)) := by rw [HN2.out]; exact KE2.out.2.1
        obtain ⟨fn, tmps, assign, body, hy, hR⟩ := HY.out pre (SepX.mk key (.slice ga2 n gc2) G (.slice ya pl.length yc) pl) W0 w102 HJW.out.1 HB2.out ⟨⟨sepP b t pl nx, HS.out.trans (by rw [HSon.out HWQ.out]; rfl)⟩, hgo, HPW.out, HJW.out.2⟩
        (try dsimp only [encX] at hy)
        clear hgo
        gi_wp2
        refine hR.mono ?_
        rintro e W' (⟨rfl, hJ', hk⟩ | ⟨rfl, hJx'⟩)
        · have HK3 : Hid (Kept wn.heap.size (fun k => H ≤ k ∧ k < w.heap.size) w W') := HK2.out.trans ⟨hk.bel, fun k hk' hl => hk.blk k (.inl hk') hl⟩
          have HP3 : Hid (W'.ownsRow w.heap.size 3 1 (.slice ya pl.length yc) pl.length (pl.map (Value.int .i64))) := owns_same (owns_mono HPW.out HJW.out.2) hk.bel.size (fun q hq => hk.blk q (.inr hq) (HPW.out.lt q hq).2)
          have HJ3 : Hid (J (pre ++ [SepX.mk key (.slice ga2 n gc2) G (.slice ya pl.length yc) pl]) W' ∧ w.heap.size ≤ W'.heap.size) := ⟨hJ', HK3.out.bel.size⟩
          obtain ⟨r3, r4, r5⟩ := (KE.out _ HK3.out).rules
          have HGP : Hid ((∀ u ∈ pl, 0 ≤ u ∧ u < (b.nf : Int)) ∧ t ∈ pl ∧ pl.length ≤ 8) := ⟨fun u hu => HGI.out.1 u (HPL.out.2.1 u hu), HPL.out.2.2.1, by have := HPL.out.1; omega⟩
          have HL3 : Hid (sepAll b t = (pre ++ [SepX.mk key (.slice ga2 n gc2) G (.slice ya pl.length yc) pl]).map SepX.dat ++ sepP b t pl nx) := HS.out.trans (by rw [HSon.out HWQ.out, List.map_append, List.append_assoc]; rfl)
          have HPq := Lib.hid (HPL.out.2.2.2 HWQ.out)
          clear hk hJ' hy hR HY HSone HSon HPL HWQ HM1 g1 g2 g3 g4 g5 g6
          obtain ⟨ag, hag⟩ : ∃ ag, b.again = ag := ⟨_, rfl⟩
          rw [hag] at r4 HNX
          have HN0 : Hid (nx = if ag = true ∧ mu = true then 0 else s + 1) := by
            have h9 := HNX.out
            show _ = _
            rw [h9]
            have h1 := HPq.out
            simp [h1]
          clear HNX hag
          cases ag with
          | false =>
            obtain rfl : nx = s + 1 := by have := HN0.out; simpa using this
            clear HN0
            gi_wp2
            go_wp2
            go_roundw
            case rel => exact ⟨pre ++ [SepX.mk key (.slice ga2 n gc2) G (.slice ya pl.length yc) pl], pl, s + 1, W', ya, yc, rfl, by go_num, by omega, HP3.out, HL3.out, HGP.out, HJ3.out, Below.refl _ _, HK3.out⟩
            case measure => simp only [RowKit.intOf, lenV]; have := HM2.out; exact this
          | true =>
            cases mu with
            | false =>
              obtain rfl : nx = s + 1 := by have := HN0.out; simpa using this
              clear HN0
              gi_wp2
              go_wp2_with (go_at_call 25; refine (CMU.out _).mono ?_; rintro e w2 ⟨rfl, hw2⟩; subst hw2)
              go_roundw
              case rel => exact ⟨pre ++ [SepX.mk key (.slice ga2 n gc2) G (.slice ya pl.length yc) pl], pl, s + 1, W', ya, yc, rfl, by go_num, by omega, HP3.out, HL3.out, HGP.out, HJ3.out, Below.refl _ _, HK3.out⟩
              case measure => simp only [RowKit.intOf, lenV]; have := HM2.out; exact this
            | true =>
              obtain rfl : nx = 0 := by have := HN0.out; simpa using this
              clear HN0
              gi_wp2
              go_wp2_with (go_at_call 25; refine (CMU.out _).mono ?_; rintro e w2 ⟨rfl, hw2⟩; subst hw2)
              go_roundw
              case rel => exact ⟨pre ++ [SepX.mk key (.slice ga2 n gc2) G (.slice ya pl.length yc) pl], pl, 0, W', ya, yc, rfl, rfl, by omega, HP3.out, HL3.out, HGP.out, HJ3.out, Below.refl _ _, HK3.out⟩
              case measure => simp only [RowKit.intOf, lenV]; have := HM2.out; exact this
        · have HF : Hid ((∃ xs, SX b t xs ∧ J xs W') ∨ ∃ pre, SpX b t pre ∧ Jx pre W') := .inr ⟨pre ++ [SepX.mk key (.slice ga2 n gc2) G (.slice ya pl.length yc) pl], ⟨sepP b t pl nx, HS.out.trans (by rw [HSon.out HWQ.out, List.map_append, List.append_assoc]; rfl)⟩, hJx'⟩
          clear hJx' hy hR
          gi_wp2
          go_wp2
          refine bodyPost_ret (results_none rfl _ _ _) rfl ?_
          exact ⟨⟨_, rfl⟩, HF.out⟩
end Go.Proofs.YteciobkjfmddcaaGreatDoor
set_option linter.unusedVariables false
namespace Go.Proofs.YteciobkjfmddcaaGreatDoor
open Go.RowKit
attribute [local go_sem] Oper.semAt_some

theorem box_append {W w1 : World} {kB E n m : Nat} {T e : TypeId} {v v' : Value} {xs ys : List Value} {tmp : Obj} (hv : Boxed W kB T v) (hrow : W.ownsRow E e 1 v n xs) (hE : kB < E)
    (hown : w1.ownsRow E e 1 v' m ys) (hgrow : (W.alloc tmp).grownBy w1 v.ownBlock) :
    Boxed w1 kB T v ∧ Boxed (w1.setCell ⟨kB, 0, none⟩ v') kB T v' ∧ (w1.setCell ⟨kB, 0, none⟩ v').ownsRow E e 1 v' m ys ∧ KeepsOthers W (w1.setCell ⟨kB, 0, none⟩ v') ∧ Below kB W (w1.setCell ⟨kB, 0, none⟩ v') ∧
      (∀ k, k < W.heap.size → k ≠ kB → v.ownBlock ≠ some k → (w1.setCell ⟨kB, 0, none⟩ v').heap[k]? = W.heap[k]?) := by
  have hne : some kB ≠ v.ownBlock := fun h => by have := (hrow.lt kB h.symm).1; omega
  have hne' : some kB ≠ v'.ownBlock := fun h => by have := (hown.lt kB h.symm).1; omega
  have h1 : Boxed w1 kB T v := (hv.alloc tmp).kept hgrow hne
  refine ⟨h1, h1.set v', hown.kept (grownBy_setCell' w1 kB v') (.inr hne'.symm), ?_, ?_, fun k hk hkB hq => ?_⟩
  · refine ((KeepsOthers.alloc W tmp).trans (KeepsOthers.of_grownBy hgrow fun j o ej hj => ?_)).trans (KeepsOthers.setCell _ _ _)
    rcases (hrow.alloc tmp).2 with ⟨rfl, _⟩ | ⟨g, cap, cur, rfl, _, hgb, _⟩
    · simp [Value.ownBlock] at ej
    · obtain rfl : g = j := by simpa [Value.ownBlock] using ej
      rw [hgb] at hj; cases hj; rfl
  · refine (((Below.refl kB W).alloc (Nat.le_of_lt hv.lt) tmp).grown hgrow (by have := hv.lt; simp; omega) fun j ej => ?_).setCell (p := ⟨kB, 0, none⟩) (Nat.le_refl _) v'
    have := (hrow.lt j ej).1; omega
  · rw [Below.heap_setCell w1 _ v' k hkB]
    exact (hgrow.block k (by simp; omega) (fun h => hq h.symm)).trans (Below.heap_alloc W tmp k hk)
theorem sepAll_len (b : BookD) (x : Int) (hx : 0 ≤ x ∧ x < (b.nf : Int)) (h8 : b.nl ≤ 8) (hf : b.nf ≤ 8) : (sepAll b x).length ≤ 80 := by
  have h1 := congrArg List.length (sep_steps b x (allL b.nf) 0 (allL_mem.2 hx))
  rw [List.length_map] at h1
  have h2 := stepP_len b x _ (allL b.nf) 0 (Nat.lt_succ_self _)
  have h3 : rankM b.nl (allL b.nf).length 0 ≤ 80 := by
    rw [allL_len]
    unfold rankM
    have : b.nf * (b.nl + 1) ≤ 8 * 9 := Nat.mul_le_mul hf (by omega)
    omega
  unfold sepAll
  omega
theorem RelX.cells {b : BookD} {t : Int} {D H E : Nat} (pre : List SepX) (x : SepX) (W0 W : World) (k : Nat) (h : RelX b t D pre x W0 W) (hz : ZX H E x k) (hk : E ≤ k) : ∃ o : Obj, W.heap[k]? = some o ∧ o.isCells = true := by
  rcases hz with hz | hz
  · omega
  · rcases h.2.2.1.2 with ⟨e, _⟩ | ⟨g, cap, cur, e, _, hgb, _⟩
    · rw [e] at hz; cases hz
    · rw [e] at hz
      simp only [Value.ownBlock, Option.some.injEq] at hz
      subst hz
      exact ⟨_, hgb, rfl⟩
theorem RelX.below {b : BookD} {t : Int} {D : Nat} (pre : List SepX) (x : SepX) (W0 W W' : World) (h : RelX b t D pre x W0 W) (hb : Below W.heap.size W W') : RelX b t D pre x W0 W' :=
  ⟨h.1, owns_below h.2.1 hb (Nat.le_refl _), owns_below h.2.2.1 hb (Nat.le_refl _), h.2.2.2⟩
theorem RelX.put {b : BookD} {t : Int} {D E : Nat} (pre : List SepX) (x : SepX) (W0 W : World) (l : Nat) (o o' : Obj) (h : RelX b t D pre x W0 W) (_ : E ≤ l) (hl : W.heap[l]? = some o) (ho : o.isCells = false) : RelX b t D pre x (W0.putObj l o') (W.putObj l o') :=
  ⟨h.1, ownsRow_putObj h.2.1 o' hl ho, by rw [World.putObj_size]; exact ownsRow_putObj h.2.2.1 o' hl ho, by rw [World.putObj_size]; exact h.2.2.2⟩
theorem RelX.len {b : BookD} {t : Int} {D : Nat} {pre : List SepX} {x : SepX} {W0 W : World} (h : RelX b t D pre x W0 W) : pre.length < (sepAll b t).length := by
  obtain ⟨rest, e⟩ := h.1
  rw [e]; simp
end Go.Proofs.YteciobkjfmddcaaGreatDoor
