/-
  Packed: Field, Clubs, BookOk, Rounds, RulesImpl, GamesBase, RndImplA, RndImplB.
-/
import Derived.Test.YtgemdjcadlejfaaQ1
import Derived.Test.YtgemdjcadlejfaaQ3
import Derived.Test.YtgemdjcadlejfaaQ4
set_option linter.unusedVariables false
namespace Go.Proofs.Ytgemdjcadlejfaa
open Go.RowKit

theorem bytes_ne {x y : ByteArray} (h : x ≠ y) : (x.toList == y.toList) = false := by
  rw [beq_eq_false_iff_ne, ne_eq, ByteArray.toList_eq, ByteArray.toList_eq]
  exact fun e => h (ByteArray.ext (Array.toList_inj.mp e))
def teamP (t : TeamD) : Prop := nameB t.nm = true ∧ (0 ≤ t.club ∧ t.club ≤ 5) ∧ (1 ≤ t.seed ∧ t.seed ≤ 8)
def namedI (g : Nat → TeamD) (x : ByteArray) : Nat → Nat → Int
  | 0, _ => -1
  | r + 1, k => if (g k).nm = x then (k : Int) else namedI g x r (k + 1)
theorem var3 {w w2 : World} {t : TypeId} {a b c : Value} (h : Below (w.alloc (.cells #[a, b, c] t)).heap.size (w.alloc (.cells #[a, b, c] t)) w2) :
    w2.cell? ⟨w.heap.size, 0, none⟩ = some a ∧ w2.cell? ⟨w.heap.size, 1, none⟩ = some b ∧ w2.cell? ⟨w.heap.size, 2, none⟩ = some c := by
  have key : ∀ (j : Nat) (u : Value), #[a, b, c][j]? = some u → w2.cell? ⟨w.heap.size, j, none⟩ = some u := by
    intro j u hu
    have h0 : (w.alloc (.cells #[a, b, c] t)).cell? ⟨w.heap.size, j, none⟩ = some u := by
      rw [cell_of_row _ w.heap.size j #[a, b, c] t (0, 0) (heap_alloc_new w _)]
      exact hu
    exact (h.cell (p := ⟨w.heap.size, j, none⟩) (World.block_lt_of_cell? _ _ h0)).trans h0
  exact ⟨key 0 a rfl, key 1 b rfl, key 2 c rfl⟩
theorem var3_below {w w2 : World} {B : Nat} {a b c : Value} (k0 : w.cell? ⟨B, 0, none⟩ = some a) (k1 : w.cell? ⟨B, 1, none⟩ = some b) (k2 : w.cell? ⟨B, 2, none⟩ = some c) (h : Below w.heap.size w w2) :
    w2.cell? ⟨B, 0, none⟩ = some a ∧ w2.cell? ⟨B, 1, none⟩ = some b ∧ w2.cell? ⟨B, 2, none⟩ = some c := by
  have hlt : B < w.heap.size := World.block_lt_of_cell? w _ k0
  exact ⟨(h.cell (p := ⟨B, 0, none⟩) hlt).trans k0, (h.cell (p := ⟨B, 1, none⟩) hlt).trans k1, (h.cell (p := ⟨B, 2, none⟩) hlt).trans k2⟩
theorem TeamRow.take {w : World} {b off cap n : Nat} {g : Nat → TeamD} (k : Nat) (hk : k ≤ n) (hn : n ≤ 9223372036854775807) (hcap : n ≤ cap)
    (h : ∀ i, i < n → w.cell? ⟨b, off + i * 3, none⟩ = some (.string (g i).nm) ∧ w.cell? ⟨b, off + i * 3 + 1, none⟩ = some (.int .i64 (g i).club) ∧ w.cell? ⟨b, off + i * 3 + 2, none⟩ = some (.int .i64 (g i).seed)) :
    TeamRow w (.slice (some ⟨b, off, none⟩) k cap) k g := by
  by_cases h0 : k = 0
  · subst h0; exact .inl ⟨_, _, rfl, rfl⟩
  · exact .inr ⟨b, off, cap, rfl, by omega, by omega, fun i hi => h i (by omega), by omega⟩
theorem TeamRow.form' {w : World} {v : Value} {n : Nat} {g : Nat → TeamD} (h : TeamRow w v n g) :
    ∃ a cap, v = .slice a n cap ∧ n ≤ 9223372036854775807 ∧ (0 < n → ∃ b off, a = some ⟨b, off, none⟩ ∧ n ≤ cap ∧
      ∀ i, i < n → w.cell? ⟨b, off + i * 3, none⟩ = some (.string (g i).nm) ∧ w.cell? ⟨b, off + i * 3 + 1, none⟩ = some (.int .i64 (g i).club) ∧ w.cell? ⟨b, off + i * 3 + 2, none⟩ = some (.int .i64 (g i).seed)) := by
  rcases h with ⟨a, cap, rfl, rfl⟩ | ⟨b, off, cap, rfl, _, hn, hc, hcap⟩
  · exact ⟨_, _, rfl, by omega, fun h => absurd h (by omega)⟩
  · exact ⟨_, _, rfl, hn, fun _ => ⟨b, off, rfl, hcap, hc⟩⟩

def freshP (g : Nat → TeamD) (i : Nat) : Prop := teamP (g i) ∧ ∀ j, j < i → (g j).nm ≠ (g i).nm ∧ (g j).seed ≠ (g i).seed
def fieldP (n : Nat) (g : Nat → TeamD) : Prop := (2 ≤ n ∧ n ≤ 8) ∧ ∀ i, i < n → freshP g i
end Go.Proofs.Ytgemdjcadlejfaa
set_option linter.unusedVariables false
namespace Go.Proofs.Ytgemdjcadlejfaa
open Go.RowKit

def NumsMade (w : World) (L : List Int) (e : Ending) (w' : World) : Prop :=
  ∃ v, e = .returned v ∧ w'.ownsRow w.heap.size 3 1 v L.length (L.map (Value.int .i64)) ∧ Below w.heap.size w w'
def selL (f : Nat → Int) (c : Int) : Nat → List Int
  | 0 => []
  | k + 1 => selL f c k ++ if f k = c then [(k : Int)] else []
theorem selL_yes {f : Nat → Int} {c : Int} {k : Nat} (h : f k = c) : selL f c (k + 1) = selL f c k ++ [(k : Int)] := by simp [selL, h]
theorem selL_no {f : Nat → Int} {c : Int} {k : Nat} (h : f k ≠ c) : selL f c (k + 1) = selL f c k := by simp [selL, h]
theorem selL_len (f : Nat → Int) (c : Int) : ∀ k, (selL f c k).length ≤ k
  | 0 => Nat.le_refl _
  | k + 1 => by
    have := selL_len f c k
    by_cases h : f k = c
    · rw [selL_yes h]; simp; omega
    · rw [selL_no h]; omega

def seedsL (f : Nat → Int) (n : Nat) : Nat → List Int
  | 0 => []
  | s + 1 => seedsL f n s ++ selL f ((s : Int) + 1) n
def clubsN (g : Nat → TeamD) (n : Nat) : Nat → Nat
  | 0 => 0
  | c + 1 => clubsN g n c + if 0 < (selL (fun i => (g i).club) (c : Int) n).length then 1 else 0
theorem clubsN_le (g : Nat → TeamD) (n : Nat) : ∀ c, clubsN g n c ≤ c
  | 0 => Nat.le_refl _
  | c + 1 => by
    have := clubsN_le g n c
    unfold clubsN
    split <;> omega
theorem TeamRow.below {w w' : World} {B : Nat} {v : Value} {n : Nat} {g : Nat → TeamD} (h : TeamRow w v n g) (hb : Below B w w') (hB : w.heap.size ≤ B) : TeamRow w' v n g := by
  rcases h with h | ⟨b, off, cap, h1, h0, h2, h3, h4⟩
  · exact .inl h
  · refine .inr ⟨b, off, cap, h1, h0, h2, fun i hi => ?_, h4⟩
    obtain ⟨k0, k1, k2⟩ := h3 i hi
    have hlt := Nat.lt_of_lt_of_le (World.block_lt_of_cell? w _ k0) hB
    exact ⟨(hb.cell (p := ⟨b, off + i * 3, none⟩) hlt).trans k0, (hb.cell (p := ⟨b, off + i * 3 + 1, none⟩) hlt).trans k1, (hb.cell (p := ⟨b, off + i * 3 + 2, none⟩) hlt).trans k2⟩
theorem TeamRow.drewN {w : World} {v : Value} {n q : Nat} {g : Nat → TeamD} (h : TeamRow w v n g) : TeamRow (w.drewN q) v n g := by
  rcases h with h | ⟨b, off, cap, h1, h0, h2, h3, h4⟩
  · exact .inl h
  · exact .inr ⟨b, off, cap, h1, h0, h2, fun i hi => by simp only [World.cell?_drewN]; exact h3 i hi, h4⟩
theorem NumsMade.form {w w' : World} {L : List Int} {e : Ending} (h : NumsMade w L e w') :
    ∃ a cap, e = .returned (.slice a L.length cap) ∧ w'.ownsRow w.heap.size 3 1 (.slice a L.length cap) L.length (L.map (Value.int .i64)) ∧ Below w.heap.size w w' := by
  obtain ⟨v, rfl, hown, hb⟩ := h
  rcases hown.2 with ⟨rfl, h0⟩ | ⟨g, cap, cur, rfl, _⟩
  · cases L with
    | nil => exact ⟨_, _, rfl, hown, hb⟩
    | cons => simp at h0
  · exact ⟨_, _, rfl, hown, hb⟩
theorem seedsL_len (f : Nat → Int) (n : Nat) : ∀ s, (seedsL f n s).length ≤ s * n
  | 0 => by simp [seedsL]
  | s + 1 => by
    have h1 := seedsL_len f n s
    have h2 := selL_len f ((s : Int) + 1) n
    unfold seedsL
    rw [List.length_append, Nat.succ_mul]
    omega
end Go.Proofs.Ytgemdjcadlejfaa
set_option linter.unusedVariables false
namespace Go.Proofs.Ytgemdjcadlejfaa
open Go.RowKit

structure BookD where
  nf : Nat
  f : Nat → TeamD
  win : Int
  draw : Int
  loss : Int
  nl : Nat
  l : Nat → Int
  again : Bool
  m : Nat
  g : Nat → GameD
  nfa : Nat
  fa : Nat → Int
  nta : Nat
  ta : Nat → Int
def BookRow (w : World) (vf vl vg vfa vta : Value) (b : BookD) : Prop :=
  TeamRow w vf b.nf b.f ∧ IntRow w vl b.nl b.l ∧ GameRow w vg b.m b.g ∧ IntRow w vfa b.nfa b.fa ∧ IntRow w vta b.nta b.ta
theorem BookRow.below {w w' : World} {B : Nat} {vf vl vg vfa vta : Value} {b : BookD} (h : BookRow w vf vl vg vfa vta b) (hb : Below B w w') (hB : w.heap.size ≤ B) : BookRow w' vf vl vg vfa vta b :=
  ⟨h.1.below hb hB, h.2.1.below hb hB, h.2.2.1.below hb hB, h.2.2.2.1.below hb hB, h.2.2.2.2.below hb hB⟩
theorem BookRow.form {w : World} {vf vl vg vfa vta : Value} {b : BookD} (h : BookRow w vf vl vg vfa vta b) :
    ∃ fa fc la lc ga gc qa qc ta tc, vf = .slice fa b.nf fc ∧ vl = .slice la b.nl lc ∧ vg = .slice ga b.m gc ∧ vfa = .slice qa b.nfa qc ∧ vta = .slice ta b.nta tc := by
  obtain ⟨fa, fc, h1, _⟩ := h.1.form
  obtain ⟨la, lc, h2, _⟩ := h.2.1.form
  obtain ⟨ga, gc, h3, _⟩ := h.2.2.1.form
  obtain ⟨qa, qc, h4, _⟩ := h.2.2.2.1.form
  obtain ⟨ta, tc, h5, _⟩ := h.2.2.2.2.form
  exact ⟨fa, fc, la, lc, ga, gc, qa, qc, ta, tc, h1, h2, h3, h4, h5⟩
def pensP (b : BookD) (i : Nat) : Prop := (0 ≤ b.fa i ∧ b.fa i ≤ 1000) ∧ (0 ≤ b.ta i ∧ b.ta i ≤ 1000)
def bookP (b : BookD) : Prop := fieldP b.nf b.f ∧ rulesP b.win b.draw b.loss b.nl b.l ∧ seasonP b.nf b.m b.g ∧ b.nfa = b.nf ∧ b.nta = b.nf ∧ ∀ i, i < b.nf → pensP b i
theorem int_at {w : World} {a : Option Addr} {n c k : Nat} {g : Nat → Int} (h : IntRow w (.slice a n c) n g) (hk : k < n) : ∃ bo off, a = some ⟨bo, off, none⟩ ∧ n ≤ c ∧ w.cell? ⟨bo, off + k, none⟩ = some (.int .i64 (g k)) := by
  rcases h with ⟨_, _, _, h1⟩ | ⟨b', off, c', he, _, h3, hc, _⟩
  · omega
  · simp only [Value.slice.injEq, true_and] at he
    obtain ⟨rfl, rfl⟩ := he
    exact ⟨b', off, rfl, by omega, hc k hk⟩

end Go.Proofs.Ytgemdjcadlejfaa
set_option linter.unusedVariables false
namespace Go.Proofs.Ytgemdjcadlejfaa
open Go.RowKit

abbrev PairL := List tPair.D
def hm (p : tPair.D) : Int := p.1
def aw (p : tPair.D) : Int := p.2
def venueL : PairL → Int → Int
  | [], _ => 0
  | p :: r, x => if hm p = x then 1 else if aw p = x then 2 else venueL r x
theorem venueL_cons (p : tPair.D) (r : PairL) (x : Int) : venueL (p :: r) x = if hm p = x then 1 else if aw p = x then 2 else venueL r x := rfl
theorem drop_at {α : Type} {L : List α} {i : Nat} {x : α} (h : L[i]? = some x) : L.drop i = x :: L.drop (i + 1) := by
  obtain ⟨hl, rfl⟩ := List.getElem?_eq_some_iff.1 h
  exact List.drop_eq_getElem_cons hl
theorem pair_cells {w : World} {a : Option Addr} {c : Nat} {r : PairL} (h : RdA tPairS w [.slice a (List.length (α := tPair.D) r) c] r) {i : Nat} {p : tPair.D} (hp : r[i]? = some p) :
    ∃ b off, a = some ⟨b, off, none⟩ ∧ r.length ≤ c ∧ w.cell? ⟨b, off + i * 2, none⟩ = some (.int .i64 (hm p)) ∧ w.cell? ⟨b, off + i * 2 + 1, none⟩ = some (.int .i64 (aw p)) := by
  have h1 := rd_PairS.1 h
  obtain ⟨a', cap, he, hn, hc⟩ := h1.form
  have hi : i < List.length (α := tPair.D) r := (List.getElem?_eq_some_iff.1 hp).1
  obtain ⟨b, off, rfl, hcap, hcc⟩ := hc (by omega)
  simp only [Value.slice.injEq] at he
  obtain ⟨rfl, _, rfl⟩ := he
  have hh := hcc i hi
  have e : atPair r i = ⟨hm p, aw p⟩ := by unfold atPair; rw [hp]; rfl
  rw [e] at hh
  exact ⟨b, off, rfl, hcap, hh.2 0 _ rfl, hh.2 1 _ rfl⟩
theorem pairs_form {w : World} {v : Value} {r : PairL} (h : RdA tPairS w [v] r) : ∃ a c, v = .slice a r.length c ∧ r.length ≤ 9223372036854775807 := rd_row_form h
theorem round_cells {w : World} {a : Option Addr} {c : Nat} {d : List PairL} (h : RdA tPairSS w [.slice a (List.length (α := PairL) d) c] d) {i : Nat} {r : PairL} (hr : d[i]? = some r) :
    ∃ b off x k, a = some ⟨b, off, none⟩ ∧ d.length ≤ c ∧ w.cell? ⟨b, off + i, none⟩ = some (.slice x r.length k) ∧ RdA tPairS w [.slice x r.length k] r ∧ r.length ≤ 9223372036854775807 := by
  obtain ⟨b, off, cap, u, h1, h2, h3, h4⟩ := rd_cell (e := tPairS) rfl h hr
  simp only [Value.slice.injEq] at h1
  obtain ⟨rfl, _, rfl⟩ := h1
  obtain ⟨x, k, rfl, h5⟩ := rd_row_form (e := tPair) h4
  exact ⟨b, off, x, k, rfl, h2, h3.2 0 _ rfl, h4, h5⟩
set_option maxRecDepth 100000 in
set_option maxHeartbeats 2000000 in
theorem l09Venue_spec (v : Value) (r : PairL) (x : Int) (w : World) (h : RdA tPairS w [v] r) :
    Calls Try.prog 67 #[v, .int .i64 x] w fun e w' => e = .returned (.int .i64 (venueL r x)) ∧ Below w.heap.size w w' := by
  obtain ⟨a, c, rfl, hn⟩ := pairs_form h
  have HR := Lib.hid h
  clear h
  obtain ⟨n, hd⟩ : ∃ n, List.length (α := tPair.D) r = n := ⟨_, rfl⟩
  have HD := Lib.hid hd
  rw [hd] at hn ⊢
  clear hd
  go_enter Try.func67, Try.ntmps67
  go_wp2
  go_loopw [9] (fun iv wr => ∃ i : Nat, i ≤ n ∧ iv = .int .i64 i ∧ Hid (venueL (r.drop i) x = venueL r x) ∧ Hid (Below w.heap.size w wr)) (fun iv _ => n - (RowKit.intOf iv).toNat)
  case atStart => exact ⟨0, Nat.zero_le _, rfl, rfl, Below.refl _ _⟩
  case round =>
    obtain ⟨i, hi9, rfl, HV, HB⟩ := hrel
    by_cases hlt : i < n
    · obtain ⟨p, hp⟩ : ∃ p : tPair.D, r[i]? = some p := ⟨_, List.getElem?_eq_getElem (by rw [HD.out]; exact hlt)⟩
      have HV2 := HV.out
      rw [drop_at hp, venueL_cons] at HV2
      have HRr := HR.out.below HB.out
      obtain ⟨b, off, rfl, hcap, q0, q1⟩ := pair_cells HRr hp
      rw [HD.out] at hcap
      have hj1 : (i : Int) < (n : Int) := by omega
      have HBa : Hid (∀ o, Below w.heap.size w (wr.alloc o)) := fun o => HB.out.alloc HB.out.size o
      have HV3 := Lib.hid HV2
      clear HV HV2 HRr hp
      generalize hm p = ph at *
      generalize aw p = pa at *
      by_cases h1 : ph = x
      · have g1 : (ph == x) = true := beq_iff_eq.2 h1
        have HVx : Hid (venueL r x = 1) := by show _ = _; rw [← HV3.out]; exact if_pos h1
        clear h1
        go_wp2
        go_ret
        exact ⟨by rw [HVx.out]; rfl, HBa.out _⟩
      have g1 : (ph == x) = false := beq_eq_false_iff_ne.2 h1
      by_cases h2 : pa = x
      · have g2 : (pa == x) = true := beq_iff_eq.2 h2
        have HVx : Hid (venueL r x = 2) := by show _ = _; rw [← HV3.out]; exact (if_neg h1).trans (if_pos h2)
        clear h1 h2
        go_wp2
        go_ret
        exact ⟨by rw [HVx.out]; rfl, HBa.out _⟩
      have g2 : (pa == x) = false := beq_eq_false_iff_ne.2 h2
      have HVx : Hid (venueL (r.drop (i + 1)) x = venueL r x) := by show _ = _; rw [← HV3.out]; exact ((if_neg h1).trans (if_neg h2)).symm
      clear h1 h2 HV3
      go_wp2
      go_roundw
      case rel => exact ⟨i + 1, by omega, by go_num, HVx, HBa.out _⟩
      case measure => simp [RowKit.intOf]; omega
    obtain rfl : i = n := by omega
    have HVx : Hid (venueL r x = 0) := by show _ = _; rw [← HV.out, List.drop_of_length_le (by have := HD.out; omega)]; rfl
    go_wp2
    go_ret
    exact ⟨by rw [HVx.out]; rfl, HB.out⟩
def cntR (h a : Int) : PairL → Nat
  | [] => 0
  | p :: r => cntR h a r + (if hm p = h ∧ aw p = a then 1 else 0)
def cntL (h a : Int) : List PairL → Nat
  | [] => 0
  | r :: d => cntR h a r + cntL h a d
theorem cntR_le (h a : Int) : ∀ r : PairL, cntR h a r ≤ List.length (α := tPair.D) r
  | [] => Nat.le_refl _
  | p :: r => by
    have := cntR_le h a r
    show cntR h a r + (if hm p = h ∧ aw p = a then 1 else 0) ≤ List.length (α := tPair.D) (p :: r)
    rw [List.length_cons]
    split <;> omega
theorem wt_PairSS_cons (r : PairL) (d : List PairL) : tPairSS.wt (r :: d) = List.length (α := tPair.D) r + 1 + tPairSS.wt d := by
  have key : ∀ A B C D : Nat, B = D → (A + 1) + (B + C) = D + 1 + (A + C) := by omega
  exact key _ _ _ _ (wt_PairS r)
theorem cntL_le (h a : Int) : ∀ d : List PairL, cntL h a d ≤ tPairSS.wt d
  | [] => Nat.zero_le _
  | r :: d => by
    have h1 := cntL_le h a d
    have h2 := cntR_le h a r
    refine Nat.le_trans ?_ (Nat.le_of_eq (wt_PairSS_cons r d).symm)
    show cntR h a r + cntL h a d ≤ _
    omega
theorem cntR_cons (h a : Int) (p : tPair.D) (r : PairL) : cntR h a (p :: r) = cntR h a r + (if hm p = h ∧ aw p = a then 1 else 0) := rfl
theorem cntL_cons (h a : Int) (r : PairL) (d : List PairL) : cntL h a (r :: d) = cntR h a r + cntL h a d := rfl
theorem schedule_form {w : World} {v : Value} {d : List PairL} (h : RdA tPairSS w [v] d) : ∃ a c, v = .slice a (List.length (α := PairL) d) c ∧ List.length (α := PairL) d ≤ 9223372036854775807 := rd_row_form h
set_option maxRecDepth 100000 in
set_option maxHeartbeats 4000000 in
theorem l09Count_spec (v : Value) (d : List PairL) (ho aw' : Int) (w : World) (h : RdA tPairSS w [v] d) (hw : tPairSS.wt d ≤ 1048576) :
    Calls Try.prog 66 #[v, .int .i64 ho, .int .i64 aw'] w fun e w' => e = .returned (.int .i64 (cntL ho aw' d)) ∧ Below w.heap.size w w' := by
  obtain ⟨a, c, rfl, hn⟩ := schedule_form h
  have HR := Lib.hid h
  clear h
  obtain ⟨n, hd⟩ : ∃ n, List.length (α := PairL) d = n := ⟨_, rfl⟩
  have HD := Lib.hid hd
  rw [hd] at hn ⊢
  clear hd
  obtain ⟨N, hN⟩ : ∃ N, cntL ho aw' d = N := ⟨_, rfl⟩
  have hN2 : N ≤ 1048576 := by have := cntL_le ho aw' d; omega
  have HN : Hid (0 + cntL ho aw' (d.drop 0) = N) := by show _ = _; rw [List.drop_zero, Nat.zero_add]; exact hN
  rw [hN]
  clear hN
  go_enter Try.func66, Try.ntmps66
  go_wp2
  go_loopw [7, 14] (fun cv iv wr => ∃ k z : Nat, k ≤ n ∧ cv = .int .i64 z ∧ iv = .int .i64 k ∧ Hid (z + cntL ho aw' (d.drop k) = N) ∧ Hid (Below w.heap.size w wr)) (fun _ iv _ => n - (RowKit.intOf iv).toNat)
  case atStart => exact ⟨0, 0, Nat.zero_le _, rfl, rfl, HN, Below.refl _ _⟩
  case round =>
    clear HN
    obtain ⟨k, z, hk9, rfl, rfl, HV, HB⟩ := hrel
    by_cases hlt : k < n
    · obtain ⟨r, hr⟩ : ∃ r : PairL, d[k]? = some r := ⟨_, List.getElem?_eq_getElem (by rw [HD.out]; exact hlt)⟩
      have HRr := HR.out.below HB.out
      obtain ⟨b, off, x, xc, rfl, hcap, q0, hrr, hm63⟩ := round_cells HRr hr
      rw [HD.out] at hcap
      have hj1 : (k : Int) < (n : Int) := by omega
      have HRW := Lib.hid hrr
      obtain ⟨m, hm⟩ : ∃ m, List.length (α := tPair.D) r = m := ⟨_, rfl⟩
      have HM := Lib.hid hm
      rw [hm] at q0 hm63
      clear hm hrr HRr
      have HV2 : Hid (z + cntR ho aw' (r.drop 0) + cntL ho aw' (d.drop (k + 1)) = N) := by show _ = _; rw [List.drop_zero, ← HV.out, drop_at hr, cntL_cons]; omega
      clear HV hr
      go_wp2
      generalize wr = w1 at *
      go_loopw [7, 20] (fun cv iv wi => ∃ j y : Nat, j ≤ m ∧ cv = .int .i64 y ∧ iv = .int .i64 j ∧ Hid (y + cntR ho aw' (r.drop j) + cntL ho aw' (d.drop (k + 1)) = N) ∧ Hid (Below w.heap.size w wi) ∧ Hid (Below w1.heap.size w1 wi)) (fun _ iv _ => m - (RowKit.intOf iv).toNat)
      case atStart => exact ⟨0, z, Nat.zero_le _, rfl, rfl, HV2, HB, Below.refl _ _⟩
      case round =>
        clear HV2 HB
        obtain ⟨j, y, hj9, rfl, rfl, HV, HB, HB2⟩ := hrel
        by_cases hlt2 : j < m
        · obtain ⟨p, hp⟩ : ∃ p : tPair.D, r[j]? = some p := ⟨_, List.getElem?_eq_getElem (by rw [HM.out]; exact hlt2)⟩
          have HRr := HRW.out.below HB2.out
          obtain ⟨bp, op, rfl, hcap2, e0, e1⟩ := pair_cells HRr hp
          rw [HM.out] at hcap2
          have hj2 : (j : Int) < (m : Int) := by omega
          have HV2 := HV.out
          rw [drop_at hp, cntR_cons] at HV2
          have hy2 : y < 1048577 := by omega
          have HBa : Hid (∀ o, Below w.heap.size w (wr.alloc o)) := fun o => HB.out.alloc HB.out.size o
          have HBb : Hid (∀ o, Below w1.heap.size w1 (wr.alloc o)) := fun o => HB2.out.alloc HB2.out.size o
          generalize hm p = ph at *
          generalize aw p = pa at *
          have HV3 := Lib.hid HV2
          clear HV HV2 HRr hp
          by_cases h1 : ph = ho ∧ pa = aw'
          · obtain ⟨h1a, h1b⟩ := h1
            have g1 : (ph == ho) = true := beq_iff_eq.2 h1a
            have g2 : (pa == aw') = true := beq_iff_eq.2 h1b
            have HVx : Hid ((y + 1) + cntR ho aw' (r.drop (j + 1)) + cntL ho aw' (d.drop (k + 1)) = N) := by have h9 := HV3.out; rw [if_pos ⟨h1a, h1b⟩] at h9; show _ = _; omega
            clear h1a h1b HV3
            go_wp2
            go_roundw
            case rel => exact ⟨j + 1, y + 1, by omega, by go_num, by go_num, HVx, HBa.out _, HBb.out _⟩
            case measure => simp [RowKit.intOf]; omega
          have HVx : Hid (y + cntR ho aw' (r.drop (j + 1)) + cntL ho aw' (d.drop (k + 1)) = N) := by have h9 := HV3.out; rw [if_neg h1] at h9; show _ = _; omega
          clear HV3
          by_cases h2 : ph = ho
          · have g1 : (ph == ho) = true := beq_iff_eq.2 h2
            have g2 : (pa == aw') = false := beq_eq_false_iff_ne.2 (fun e => h1 ⟨h2, e⟩)
            clear h1 h2
            go_wp2
            go_roundw
            case rel => exact ⟨j + 1, y, by omega, by go_num, by go_num, HVx, HBa.out _, HBb.out _⟩
            case measure => simp [RowKit.intOf]; omega
          have g1 : (ph == ho) = false := beq_eq_false_iff_ne.2 h2
          clear h1 h2
          go_wp2
          go_roundw
          case rel => exact ⟨j + 1, y, by omega, by go_num, by go_num, HVx, HBa.out _, HBb.out _⟩
          case measure => simp [RowKit.intOf]; omega
        obtain rfl : j = m := by omega
        have HVx : Hid (y + cntL ho aw' (d.drop (k + 1)) = N) := by have h9 := HV.out; rw [List.drop_of_length_le (by have := HM.out; omega)] at h9; exact h9
        clear HV
        go_wp2
        go_roundw
        case rel => exact ⟨k + 1, y, by omega, by go_num, by go_num, HVx, HB⟩
        case measure => simp [RowKit.intOf]; omega
    obtain rfl : k = n := by omega
    have HVx : Hid (z = N) := by have h9 := HV.out; rw [List.drop_of_length_le (by have := HD.out; omega)] at h9; exact h9
    clear HV
    go_wp2
    go_ret
    exact ⟨by rw [← HVx.out]; rfl, HB.out⟩
def ixL (h a : Int) : List PairL → Nat → Int
  | [], _ => -1
  | r :: d, k => if 0 < cntR h a r then k else ixL h a d (k + 1)
theorem ixL_cons (h a : Int) (r : PairL) (d : List PairL) (k : Nat) : ixL h a (r :: d) k = if 0 < cntR h a r then (k : Int) else ixL h a d (k + 1) := rfl
set_option maxRecDepth 100000 in
set_option maxHeartbeats 4000000 in
theorem roundOf_spec (v : Value) (d : List PairL) (ho aw' : Int) (w : World) (h : RdA tPairSS w [v] d) :
    Calls Try.prog 43 #[v, .int .i64 ho, .int .i64 aw'] w fun e w' => e = .returned (.int .i64 (ixL ho aw' d 0)) ∧ Below w.heap.size w w' := by
  obtain ⟨a, c, rfl, hn⟩ := schedule_form h
  have HR := Lib.hid h
  clear h
  obtain ⟨n, hd⟩ : ∃ n, List.length (α := PairL) d = n := ⟨_, rfl⟩
  have HD := Lib.hid hd
  rw [hd] at hn ⊢
  clear hd
  go_enter Try.func43, Try.ntmps43
  go_wp2
  go_loopw [13] (fun iv wr => ∃ k : Nat, k ≤ n ∧ iv = .int .i64 k ∧ Hid (ixL ho aw' (d.drop k) k = ixL ho aw' d 0) ∧ Hid (Below w.heap.size w wr)) (fun iv _ => n - (RowKit.intOf iv).toNat)
  case atStart => exact ⟨0, Nat.zero_le _, rfl, rfl, Below.refl _ _⟩
  case round =>
    obtain ⟨k, hk9, rfl, HV, HB⟩ := hrel
    by_cases hlt : k < n
    · obtain ⟨r, hr⟩ : ∃ r : PairL, d[k]? = some r := ⟨_, List.getElem?_eq_getElem (by rw [HD.out]; exact hlt)⟩
      have HRr := HR.out.below HB.out
      obtain ⟨b, off, x, xc, rfl, hcap, q0, hrr, hm63⟩ := round_cells HRr hr
      rw [HD.out] at hcap
      have hj1 : (k : Int) < (n : Int) := by omega
      have HRW := Lib.hid hrr
      obtain ⟨m, hm⟩ : ∃ m, List.length (α := tPair.D) r = m := ⟨_, rfl⟩
      have HM := Lib.hid hm
      rw [hm] at q0 hm63
      clear hm hrr HRr
      have HV2 := Lib.hid HV.out
      rw [drop_at hr, ixL_cons] at HV2
      clear HV hr
      go_wp2
      generalize wr = w1 at *
      go_loopw [20] (fun iv wi => ∃ j : Nat, j ≤ m ∧ iv = .int .i64 j ∧ Hid (cntR ho aw' (r.drop j) = cntR ho aw' r) ∧ Hid (Below w.heap.size w wi) ∧ Hid (Below w1.heap.size w1 wi)) (fun iv _ => m - (RowKit.intOf iv).toNat)
      case atStart => exact ⟨0, Nat.zero_le _, rfl, rfl, HB, Below.refl _ _⟩
      case round =>
        clear HB
        obtain ⟨j, hj9, rfl, HV, HB, HB2⟩ := hrel
        by_cases hlt2 : j < m
        · obtain ⟨p, hp⟩ : ∃ p : tPair.D, r[j]? = some p := ⟨_, List.getElem?_eq_getElem (by rw [HM.out]; exact hlt2)⟩
          have HRr := HRW.out.below HB2.out
          obtain ⟨bp, op, rfl, hcap2, e0, e1⟩ := pair_cells HRr hp
          rw [HM.out] at hcap2
          have hj2 : (j : Int) < (m : Int) := by omega
          have HV3 := HV.out
          rw [drop_at hp, cntR_cons] at HV3
          have HBa : Hid (∀ o, Below w.heap.size w (wr.alloc o)) := fun o => HB.out.alloc HB.out.size o
          have HBb : Hid (∀ o, Below w1.heap.size w1 (wr.alloc o)) := fun o => HB2.out.alloc HB2.out.size o
          generalize hm p = ph at *
          generalize aw p = pa at *
          have HV4 := Lib.hid HV3
          clear HV HV3 HRr hp
          by_cases h1 : ph = ho ∧ pa = aw'
          · obtain ⟨h1a, h1b⟩ := h1
            have g1 : (ph == ho) = true := beq_iff_eq.2 h1a
            have g2 : (pa == aw') = true := beq_iff_eq.2 h1b
            have HVx : Hid (ixL ho aw' d 0 = k) := by have h9 := HV4.out; have h8 := HV2.out; rw [if_pos ⟨h1a, h1b⟩] at h9; rw [if_pos (by omega)] at h8; exact h8.symm
            clear h1a h1b HV4 HV2
            go_wp2
            go_ret
            exact ⟨by rw [HVx.out]; rfl, HBa.out _⟩
          have HVx : Hid (cntR ho aw' (r.drop (j + 1)) = cntR ho aw' r) := by have h9 := HV4.out; rw [if_neg h1] at h9; exact h9
          clear HV4
          by_cases h2 : ph = ho
          · have g1 : (ph == ho) = true := beq_iff_eq.2 h2
            have g2 : (pa == aw') = false := beq_eq_false_iff_ne.2 (fun e => h1 ⟨h2, e⟩)
            clear h1 h2
            go_wp2
            go_roundw
            case rel => exact ⟨j + 1, by omega, by go_num, HVx, HBa.out _, HBb.out _⟩
            case measure => simp [RowKit.intOf]; omega
          have g1 : (ph == ho) = false := beq_eq_false_iff_ne.2 h2
          clear h1 h2
          go_wp2
          go_roundw
          case rel => exact ⟨j + 1, by omega, by go_num, HVx, HBa.out _, HBb.out _⟩
          case measure => simp [RowKit.intOf]; omega
        obtain rfl : j = m := by omega
        have HVx : Hid (ixL ho aw' (d.drop (k + 1)) (k + 1) = ixL ho aw' d 0) := by have h9 := HV.out; rw [List.drop_of_length_le (by have := HM.out; omega)] at h9; have h8 := HV2.out; rw [if_neg (by rw [← h9]; exact Nat.lt_irrefl 0)] at h8; exact h8
        clear HV HV2
        go_wp2
        go_roundw
        case rel => exact ⟨k + 1, by omega, by go_num, HVx, HB⟩
        case measure => simp [RowKit.intOf]; omega
    obtain rfl : k = n := by omega
    have HVx : Hid (ixL ho aw' d 0 = -1) := by have h9 := HV.out; rw [List.drop_of_length_le (by have := HD.out; omega)] at h9; exact h9.symm
    clear HV
    go_wp2
    go_ret
    exact ⟨by rw [HVx.out]; rfl, HB.out⟩
set_option maxRecDepth 100000 in
set_option maxHeartbeats 4000000 in
theorem venuesOf_spec (v : Value) (d : List PairL) (tm : Int) (w : World) (h : RdA tPairSS w [v] d) (hw : tPairSS.wt d ≤ 1048576) :
    Calls Try.prog 33 #[v, .int .i64 tm] w (IntsL w (d.map fun r => venueL r tm)) := by
  obtain ⟨i0, hi, hz0, hz1, hz2⟩ := info_parts Try.infoI
  obtain ⟨a, c, rfl, hn⟩ := schedule_form h
  have HR := Lib.hid h
  clear h
  obtain ⟨n, hd⟩ : ∃ n, List.length (α := PairL) d = n := ⟨_, rfl⟩
  have HD := Lib.hid hd
  rw [hd] at hn ⊢
  clear hd
  have hn6 : n ≤ 1048576 := by have e : tPairSS.wt d = List.length (α := PairL) d + (d.map tPairS.wt).sum := rfl; rw [HD.out] at e; omega
  have CV := Lib.hid (fun v r wa h => l09Venue_spec v r tm wa h)
  have ON : Hid ((w.alloc (.cells #[] 3)).ownsRow w.heap.size 3 1 (.slice (some ⟨w.heap.size, 0, none⟩) 0 0) 0 []) := World.ownsRow_lit (e := 3) (size := 1) w #[] 0 (Nat.le_refl _) (by decide) rfl
  have HB0 : Hid (Below w.heap.size w (w.alloc (.cells #[] 3))) := (Below.refl _ _).alloc (Nat.le_refl _) _
  go_enter Try.func33, Try.ntmps33
  go_wp2
  go_loopw [5, 11] (fun ov iv wr => ∃ k : Nat, k ≤ n ∧ iv = .int .i64 k ∧ Hid (wr.ownsRow w.heap.size 3 1 ov k ((d.take k).map fun r => .int .i64 (venueL r tm))) ∧ Hid (Below w.heap.size w wr)) (fun _ iv _ => n - (RowKit.intOf iv).toNat)
  case atStart => exact ⟨0, Nat.zero_le _, rfl, ON, HB0⟩
  case round =>
    clear ON HB0
    obtain ⟨k, hk9, rfl, HO, HB⟩ := hrel
    obtain ⟨oa, oc, hof⟩ := owns_form HO.out
    subst hof
    by_cases hlt : k < n
    · obtain ⟨r, hr⟩ : ∃ r : PairL, d[k]? = some r := ⟨_, List.getElem?_eq_getElem (by rw [HD.out]; exact hlt)⟩
      have HRr := HR.out.below HB.out
      obtain ⟨b, off, x, xc, rfl, hcap, q0, hrr, hm63⟩ := round_cells HRr hr
      rw [HD.out] at hcap
      have hj1 : (k : Int) < (n : Int) := by omega
      have HRW := Lib.hid hrr
      obtain ⟨m, hm⟩ : ∃ m, List.length (α := tPair.D) r = m := ⟨_, rfl⟩
      have HM := Lib.hid hm
      rw [hm] at q0 hm63
      clear hm hrr HRr
      have HTK : Hid ((d.take (k + 1)).map (fun r => Value.int .i64 (venueL r tm)) = (d.take k).map (fun r => Value.int .i64 (venueL r tm)) ++ [.int .i64 (venueL r tm)]) := by show _ = _; simp [List.take_add_one, hr]
      clear hr
      go_wp2_with fail
      rw [← HM.out]
      refine (CV.out _ r _ HRW.out).mono ?_
      rintro e w2 ⟨rfl, b2⟩
      have HO2 := Lib.hid (owns_below HO.out b2 (Nat.le_refl _))
      have HB2 := Lib.hid (HB.out.trans (b2.mono HB.out.size))
      have hs2 := HB2.out.size
      clear b2 HO HB HRW
      generalize venueL r tm = z at *
      go_wp2_with (at_builtin; refine wpList_pushL rfl (.tmp 15) (.tmp 19) 32 rfl w.heap.size 3 Try.underlying32 hi hz0 hz1 hz2 rfl (by decide) [.int .i64 z] rfl (by intro u hu; simp at hu; subst hu; rfl) rfl (by show Value.slice (some ⟨_, 0, none⟩) 1 1 = _; simp) HO2.out (by unfold maxLen; omega) (by omega) hs2 ?_; intro gg5 cc5 w5 o5 g5 at5 lt5; have O5 := Lib.hid o5; have HB5 := Lib.hid (HB2.out.grown g5 hs2 (fun q hq => (HO2.out.lt q hq).1)); clear o5 g5 at5 lt5)
      go_roundw
      case rel => exact ⟨k + 1, by omega, by go_num, by rw [HTK.out]; exact O5, HB5⟩
      case measure => simp [RowKit.intOf]; omega
    obtain rfl : k = n := by omega
    have HL : Hid (d.take k = d) := List.take_of_length_le (by have := HD.out; omega)
    rw [HL.out] at HO
    go_wp2
    go_ret
    refine ⟨_, rfl, ?_, HB.out⟩
    have h9 := HO.out
    rw [List.length_map, List.map_map]
    show World.ownsRow _ _ _ _ _ (List.length (α := PairL) d) _
    rw [HD.out]
    exact h9
def brkN (L : List Int) : Nat → Nat
  | 0 => 0
  | k + 1 => brkN L k + (if 0 < k ∧ 0 < getI L k ∧ getI L k = getI L (k - 1) then 1 else 0)
theorem brkN_le (L : List Int) : ∀ k, brkN L k ≤ k
  | 0 => Nat.le_refl _
  | k + 1 => by have := brkN_le L k; unfold brkN; split <;> omega
def venL (d : List PairL) (tm : Int) : List Int := d.map fun r => venueL r tm
def breaksL (d : List PairL) (tm : Int) : Nat := brkN (venL d tm) (List.length (α := PairL) d)
set_option maxRecDepth 100000 in
set_option maxHeartbeats 4000000 in
theorem breaksOf_spec (v : Value) (d : List PairL) (tm : Int) (w : World) (h : RdA tPairSS w [v] d) (hw : tPairSS.wt d ≤ 1048576) :
    Calls Try.prog 37 #[v, .int .i64 tm] w fun e w' => e = .returned (.int .i64 (breaksL d tm)) ∧ Below w.heap.size w w' := by
  have hdl : List.length (α := PairL) d ≤ 1048576 := by have e : tPairSS.wt d = List.length (α := PairL) d + (d.map tPairS.wt).sum := rfl; omega
  obtain ⟨a, c, rfl, hn⟩ := schedule_form h
  have CV := Lib.hid (venuesOf_spec (.slice a (List.length (α := PairL) d) c) d tm w h hw)
  clear h hw
  obtain ⟨n, hd⟩ : ∃ n, List.length (α := PairL) d = n := ⟨_, rfl⟩
  have HL : Hid ((venL d tm).length = n) := by show _ = _; rw [← hd]; exact List.length_map ..
  unfold breaksL
  rw [hd] at hdl ⊢
  change Hid (Calls _ _ _ _ (IntsL w (venL d tm))) at CV
  generalize venL d tm = L at *
  rw [hd] at CV
  clear hd
  go_enter Try.func37, Try.ntmps37
  go_wp2_with fail
  refine CV.out.mono ?_
  rintro e w1 h3
  obtain ⟨vv, rfl, hVR, _, b1⟩ := h3.made (by rw [HL.out]; omega)
  rw [HL.out] at hVR
  obtain ⟨va, vc, rfl, h63, _⟩ := hVR.form
  have HVR := Lib.hid hVR
  have HB := Lib.hid b1
  clear h3 hVR b1 CV
  go_wp2
  go_loop [5, 14] (fun cv iv => ∃ k : Nat, k ≤ n ∧ iv = .int .i64 k ∧ cv = .int .i64 (brkN L k)) (fun _ iv => n - (RowKit.intOf iv).toNat)
  case atStart => exact ⟨0, Nat.zero_le _, rfl, rfl⟩
  case round =>
    obtain ⟨k, hk9, rfl, rfl⟩ := hrel
    by_cases hlt : k < n
    · obtain ⟨bo, oo, rfl, hcap, q0⟩ := int_at HVR.out hlt
      have hj1 : (k : Int) < (n : Int) := by omega
      have hle := brkN_le L k
      have hsucc : brkN L (k + 1) = brkN L k + (if 0 < k ∧ 0 < getI L k ∧ getI L k = getI L (k - 1) then 1 else 0) := rfl
      have HS := Lib.hid hsucc
      clear hsucc
      generalize brkN L k = z at *
      obtain ⟨z', hz'⟩ : ∃ z', brkN L (k + 1) = z' := ⟨_, rfl⟩
      have HZ := Lib.hid hz'
      rw [hz'] at HS
      clear hz'
      have HZ0 : Hid (¬ (0 < k ∧ 0 < getI L k ∧ getI L k = getI L (k - 1)) → z' = z) := fun h => by rw [HS.out, if_neg h]; rfl
      have HZ1 : Hid ((0 < k ∧ 0 < getI L k ∧ getI L k = getI L (k - 1)) → z' = z + 1) := fun h => by rw [HS.out, if_pos h]
      clear HS
      cases k with
      | zero =>
        obtain rfl := HZ0.out (fun h => absurd h.1 (Nat.lt_irrefl _))
        clear HZ0 HZ1
        generalize getI L 0 = x0 at *
        simp only [Nat.add_zero] at q0
        go_wp2
        go_round
        case rel => exact ⟨1, by omega, by go_num, by rw [HZ.out]⟩
        case measure => simp [RowKit.intOf]; omega
      | succ j =>
        obtain ⟨_, _, he, _, q1⟩ := int_at HVR.out (show j < n by omega)
        simp only [Option.some.injEq, Addr.mk.injEq, and_true] at he
        obtain ⟨rfl, rfl⟩ := he
        simp only [Nat.add_sub_cancel] at HZ0 HZ1
        have g0 : decide ((0 : Int) < ((j + 1 : Nat) : Int)) = true := decide_eq_true (by omega)
        have s3 : ((j + 1 : Nat) : Int) - 1 = (j : Int) := by omega
        generalize getI L (j + 1) = x at *
        generalize getI L j = y at *
        by_cases h1 : 0 < x
        · have g1 : decide (0 < x) = true := decide_eq_true h1
          by_cases h2 : x = y
          · have g2 : (x == y) = true := beq_iff_eq.2 h2
            obtain rfl := HZ1.out ⟨by omega, h1, h2⟩
            clear HZ0 HZ1 h2
            go_wp2
            go_round
            case rel => exact ⟨j + 1 + 1, by omega, by go_num, by rw [HZ.out]; go_num⟩
            case measure => simp [RowKit.intOf]; omega
          · have g2 : (x == y) = false := beq_eq_false_iff_ne.2 h2
            obtain rfl := HZ0.out (fun h => h2 h.2.2)
            clear HZ0 HZ1 h2
            go_wp2
            go_round
            case rel => exact ⟨j + 1 + 1, by omega, by go_num, by rw [HZ.out]⟩
            case measure => simp [RowKit.intOf]; omega
        · have g1 : decide (0 < x) = false := decide_eq_false h1
          obtain rfl := HZ0.out (fun h => h1 h.2.1)
          clear HZ0 HZ1
          go_wp2
          go_round
          case rel => exact ⟨j + 1 + 1, by omega, by go_num, by rw [HZ.out]⟩
          case measure => simp [RowKit.intOf]; omega
    obtain rfl : k = n := by omega
    go_wp2
    go_ret
    exact ⟨rfl, HB.out⟩
end Go.Proofs.Ytgemdjcadlejfaa
set_option linter.unusedVariables false
namespace Go.Proofs.Ytgemdjcadlejfaa
open Go.RowKit

def SeenN (K : Nat) (w : World) (B : Nat) (S : Nat → Bool) : Prop := B < w.heap.size ∧ ∀ j, j < K → w.cell? ⟨B, j, none⟩ = some (.bool (S j)) ∧ w.frozen? ⟨B, j, none⟩ = false
theorem SeenN.made (K : Nat) (w : World) (cs : Array Value) (t : TypeId) (h : ∀ j, j < K → cs[j]? = some (.bool false)) : SeenN K (w.alloc (.cells cs t)) w.heap.size (fun _ => false) := by
  refine ⟨by simp, fun j hj => ⟨?_, ?_⟩⟩
  · rw [cell_of_row _ w.heap.size j _ t (0, 0) (heap_alloc_new w _)]
    exact h j hj
  · exact frozen_of_row _ w.heap.size j _ t (heap_alloc_new w _)
theorem SeenN.set {K : Nat} {w : World} {B : Nat} {S : Nat → Bool} (h : SeenN K w B S) (m : Nat) (hm : m < K) : SeenN K (w.setCell ⟨B, m, none⟩ (.bool true)) B (fun j => S j || decide (j = m)) := by
  refine ⟨by simpa [World.setCell] using h.1, fun j hj => ⟨?_, (World.frozen?_setCell _ _ _ _).trans (h.2 j hj).2⟩⟩
  by_cases hjm : j = m
  · subst hjm
    rw [World.cell?_setCell_same' _ _ _ (by rw [(h.2 j hj).1]; rfl)]
    simp
  · rw [World.cell?_setCell_other _ _ _ _ (by intro e; simp only [Addr.mk.injEq] at e; omega), (h.2 j hj).1]
    simp [hjm]
theorem pigeon (m : Nat) : ∀ (k : Nat) (g : Nat → Int), (∀ i, i < k → 1 ≤ g i ∧ g i ≤ m) → (∀ i j, i < j → j < k → g i ≠ g j) → k ≤ m := by
  induction m with
  | zero => intro k g h _; by_cases h0 : k = 0; · omega
            · have := h 0 (by omega); omega
  | succ m ih =>
    intro k g h hd
    by_cases hx : ∃ i, i < k ∧ g i = m + 1
    · obtain ⟨i0, hi0, he⟩ := hx
      have hk1 := ih (k - 1) (fun i => if i = i0 then g (k - 1) else g i) (fun i hi => by
          by_cases e : i = i0
          · simp only [e, if_true]
            have h1 := h (k - 1) (by omega)
            have h2 := hd i0 (k - 1) (by omega) (by omega)
            omega
          · simp only [e, if_false]
            have h1 := h i (by omega)
            have h2 : g i ≠ g i0 := by
              by_cases hlt : i < i0
              · exact hd i i0 hlt hi0
              · exact fun hh => hd i0 i (by omega) (by omega) hh.symm
            omega)
        (fun i j hij hj => by
          by_cases e : i = i0
          · by_cases e2 : j = i0
            · omega
            · simp only [e, e2, if_true, if_false]
              exact fun hh => hd j (k - 1) (by omega) (by omega) hh.symm
          · by_cases e2 : j = i0
            · simp only [e, e2, if_true, if_false]
              exact hd i (k - 1) (by omega) (by omega)
            · simp only [e, e2, if_false]
              exact hd i j hij (by omega))
      omega
    · have := ih k g (fun i hi => by
        have h1 := h i hi
        have h2 : g i ≠ m + 1 := fun he => hx ⟨i, hi, he⟩
        omega) hd
      omega
theorem pigeon8 {k : Nat} {g : Nat → Int} (h : ∀ i, i < k → (1 ≤ g i ∧ g i ≤ 8) ∧ ¬ hasP g (g i) i) : k ≤ 8 :=
  pigeon 8 k g (fun i hi => by have := (h i hi).1; omega) (fun i j hij hj he => (h j hj).2 ⟨i, hij, he⟩)
theorem knm_ne (m : Nat) (h1 : 1 ≤ m) (h8 : m ≤ 8) : (knm m).toList.isEmpty = false ∧ (knm m).toList ≠ [] := by
  have : m = 1 ∨ m = 2 ∨ m = 3 ∨ m = 4 ∨ m = 5 ∨ m = 6 ∨ m = 7 ∨ m = 8 := by omega
  rcases this with rfl | rfl | rfl | rfl | rfl | rfl | rfl | rfl <;> exact ⟨by decide +kernel, by decide +kernel⟩
end Go.Proofs.Ytgemdjcadlejfaa
set_option linter.unusedVariables false
namespace Go.Proofs.Ytgemdjcadlejfaa
open Go.RowKit

theorem bool_of {R : Bool} {p : Prop} (h : R = true ↔ p) (hp : p) : R = true := h.2 hp
theorem bool_not {R : Bool} {p : Prop} (h : R = true ↔ p) (hp : ¬ p) : R = false := by
  cases R with
  | false => rfl
  | true => exact absurd (h.1 rfl) hp

theorem areOpp_impl (n a b : Int) (R : Bool) (w : World) (hR : R = true ↔ (0 ≤ a ∧ a < n ∧ 0 ≤ b ∧ b < n ∧ a ≠ b)) :
    Calls Try.prog 70 #[.int .i64 n, .int .i64 a, .int .i64 b] w fun e w' => e = .returned (.bool R) ∧ w = w' := by
  have HN := Lib.hid (bool_not hR)
  have HY := Lib.hid (bool_of hR)
  clear hR
  by_cases h1 : 0 ≤ a
  case neg =>
    have g1 : decide (0 ≤ a) = false := decide_eq_false h1
    obtain rfl := HN.out fun h => h1 h.1
    clear HN HY h1
    go_enter Try.func70, Try.ntmps70
    go_wp2
    go_ret
    exact ⟨by first | rfl | exact congrArg (fun q => Ending.returned (Value.bool q)) (by unfold bne; rw [g5]; rfl), rfl⟩
  have g1 : decide (0 ≤ a) = true := decide_eq_true h1
  by_cases h2 : a < n
  case neg =>
    have g2 : decide (a < n) = false := decide_eq_false h2
    obtain rfl := HN.out fun h => h2 h.2.1
    clear HN HY h2
    go_enter Try.func70, Try.ntmps70
    go_wp2
    go_ret
    exact ⟨by first | rfl | exact congrArg (fun q => Ending.returned (Value.bool q)) (by unfold bne; rw [g5]; rfl), rfl⟩
  have g2 : decide (a < n) = true := decide_eq_true h2
  by_cases h3 : 0 ≤ b
  case neg =>
    have g3 : decide (0 ≤ b) = false := decide_eq_false h3
    obtain rfl := HN.out fun h => h3 h.2.2.1
    clear HN HY h3
    go_enter Try.func70, Try.ntmps70
    go_wp2
    go_ret
    exact ⟨by first | rfl | exact congrArg (fun q => Ending.returned (Value.bool q)) (by unfold bne; rw [g5]; rfl), rfl⟩
  have g3 : decide (0 ≤ b) = true := decide_eq_true h3
  by_cases h4 : b < n
  case neg =>
    have g4 : decide (b < n) = false := decide_eq_false h4
    obtain rfl := HN.out fun h => h4 h.2.2.2.1
    clear HN HY h4
    go_enter Try.func70, Try.ntmps70
    go_wp2
    go_ret
    exact ⟨by first | rfl | exact congrArg (fun q => Ending.returned (Value.bool q)) (by unfold bne; rw [g5]; rfl), rfl⟩
  have g4 : decide (b < n) = true := decide_eq_true h4
  by_cases h5 : a ≠ b
  case neg =>
    have g5 : (a == b) = true := by simpa using h5
    obtain rfl := HN.out fun h => h5 h.2.2.2.2
    clear HN HY h5
    go_enter Try.func70, Try.ntmps70
    go_wp2
    go_ret
    exact ⟨by first | rfl | exact congrArg (fun q => Ending.returned (Value.bool q)) (by unfold bne; rw [g5]; rfl), rfl⟩
  have g5 : (a == b) = false := beq_eq_false_iff_ne.2 h5
  obtain rfl := HY.out ⟨h1, h2, h3, h4, h5⟩
  clear HN HY h5
  go_enter Try.func70, Try.ntmps70
  go_wp2
  go_ret
  exact ⟨congrArg (fun q => Ending.returned (Value.bool q)) (by unfold bne; rw [g5]; rfl), rfl⟩
theorem exists_impl (st : Int) (R : Bool) (w : World) (hR : R = true ↔ (0 ≤ st ∧ st ≤ 4)) :
    Calls Try.prog 71 #[.int .i64 st] w fun e w' => e = .returned (.bool R) ∧ w = w' := by
  have HN := Lib.hid (bool_not hR)
  have HY := Lib.hid (bool_of hR)
  clear hR
  by_cases h1 : 0 ≤ st
  case neg =>
    have g1 : decide (0 ≤ st) = false := decide_eq_false h1
    obtain rfl := HN.out fun h => h1 h.1
    clear HN HY h1
    go_enter Try.func71, Try.ntmps71
    go_wp2
    go_ret
    exact ⟨rfl, rfl⟩
  have g1 : decide (0 ≤ st) = true := decide_eq_true h1
  by_cases h2 : st ≤ 4
  case neg =>
    have g2 : decide (st ≤ 4) = false := decide_eq_false h2
    obtain rfl := HN.out fun h => h2 h.2
    clear HN HY h2
    go_enter Try.func71, Try.ntmps71
    go_wp2
    go_ret
    exact ⟨rfl, rfl⟩
  have g2 : decide (st ≤ 4) = true := decide_eq_true h2
  obtain rfl := HY.out ⟨h1, h2⟩
  clear HN HY
  go_enter Try.func71, Try.ntmps71
  go_wp2
  go_ret
  exact ⟨rfl, rfl⟩
theorem allows_impl (st q : Int) (R : Bool) (w : World) (hR : R = true ↔ ((st = 1 ∧ 0 ≤ q ∧ q ≤ 99) ∨ (st ≠ 1 ∧ q = 0))) :
    Calls Try.prog 72 #[.int .i64 st, .int .i64 q] w fun e w' => e = .returned (.bool R) ∧ w = w' := by
  have HN := Lib.hid (bool_not hR)
  have HY := Lib.hid (bool_of hR)
  clear hR
  by_cases h0 : st = 1
  · have HN2 := Lib.hid (fun (h : ¬ (0 ≤ q ∧ q ≤ 99)) => HN.out fun h1 => h1.elim (fun h2 => h h2.2) fun h2 => h2.1 h0)
    have HY2 := Lib.hid (fun (h : 0 ≤ q ∧ q ≤ 99) => HY.out (.inl ⟨h0, h⟩))
    clear HN HY
    subst h0
    by_cases h1 : 0 ≤ q
    case neg =>
      have g1 : decide (0 ≤ q) = false := decide_eq_false h1
      obtain rfl := HN2.out fun h => h1 h.1
      clear HN2 HY2 h1
      go_enter Try.func72, Try.ntmps72
      go_wp2
      go_ret
      exact ⟨rfl, rfl⟩
    have g1 : decide (0 ≤ q) = true := decide_eq_true h1
    by_cases h2 : q ≤ 99
    case neg =>
      have g2 : decide (q ≤ 99) = false := decide_eq_false h2
      obtain rfl := HN2.out fun h => h2 h.2
      clear HN2 HY2 h2
      go_enter Try.func72, Try.ntmps72
      go_wp2
      go_ret
      exact ⟨rfl, rfl⟩
    have g2 : decide (q ≤ 99) = true := decide_eq_true h2
    obtain rfl := HY2.out ⟨h1, h2⟩
    clear HN2 HY2
    go_enter Try.func72, Try.ntmps72
    go_wp2
    go_ret
    exact ⟨rfl, rfl⟩
  · have g0 : (st == 1) = false := beq_eq_false_iff_ne.2 h0
    by_cases h1 : q = 0
    · obtain rfl := HY.out (.inr ⟨h0, h1⟩)
      have g1 : (q == 0) = true := by simpa using h1
      clear HN HY h0 h1
      go_enter Try.func72, Try.ntmps72
      go_wp2
      go_ret
      exact ⟨rfl, rfl⟩
    · obtain rfl := HN.out fun h => h.elim (fun h2 => h0 h2.1) fun h2 => h1 h2.2
      have g1 : (q == 0) = false := beq_eq_false_iff_ne.2 h1
      clear HN HY h0 h1
      go_enter Try.func72, Try.ntmps72
      go_wp2
      go_ret
      exact ⟨rfl, rfl⟩
theorem bool_ex (p : Prop) : ∃ R : Bool, R = true ↔ p := by
  by_cases h : p
  · exact ⟨true, fun _ => h, fun _ => rfl⟩
  · exact ⟨false, (fun e => by cases e), fun e => absurd e h⟩
set_option maxHeartbeats 1000000 in
theorem gameOk_impl (n : Int) (home away hg ag st : Int) (R : Bool) (w : World) (hR : R = true ↔ gameP n ⟨home, away, hg, ag, st⟩) :
    Calls Try.prog 50 #[.int .i64 n, .agg #[.int .i64 home, .int .i64 away, .int .i64 hg, .int .i64 ag, .int .i64 st]] w fun e w' => e = .returned (.bool R) ∧ Below w.heap.size w w' := by
  obtain ⟨ro, hro⟩ := bool_ex (0 ≤ home ∧ home < n ∧ 0 ≤ away ∧ away < n ∧ home ≠ away)
  obtain ⟨re, hre⟩ := bool_ex (0 ≤ st ∧ st ≤ 4)
  obtain ⟨rh, hrh⟩ := bool_ex ((st = 1 ∧ 0 ≤ hg ∧ hg ≤ 99) ∨ (st ≠ 1 ∧ hg = 0))
  obtain ⟨ra, hra⟩ := bool_ex ((st = 1 ∧ 0 ≤ ag ∧ ag ≤ 99) ∨ (st ≠ 1 ∧ ag = 0))
  have hall : R = true ↔ (2 ≤ n ∧ n ≤ 8 ∧ ro = true ∧ re = true ∧ rh = true ∧ ra = true) := by
    rw [hR, hro, hre, hrh, hra]
    unfold gameP
    constructor
    · rintro ⟨⟨a1, a2⟩, ⟨b1, b2⟩, ⟨c1, c2⟩, d, ⟨e1, e2⟩, f⟩
      rcases f with ⟨f1, f2, f3⟩ | ⟨f1, f2, f3⟩
      · exact ⟨a1, a2, ⟨b1, by simp only at *; omega, c1, by simp only at *; omega, d⟩, ⟨e1, e2⟩, .inl ⟨f1, f2⟩, .inl ⟨f1, f3⟩⟩
      · exact ⟨a1, a2, ⟨b1, by simp only at *; omega, c1, by simp only at *; omega, d⟩, ⟨e1, e2⟩, .inr ⟨f1, f2⟩, .inr ⟨f1, f3⟩⟩
    · rintro ⟨a1, a2, ⟨b1, b2, c1, c2, d⟩, ⟨e1, e2⟩, f, f'⟩
      refine ⟨⟨a1, a2⟩, ⟨b1, by simp only at *; omega⟩, ⟨c1, by simp only at *; omega⟩, d, ⟨e1, e2⟩, ?_⟩
      rcases f with ⟨f1, f2⟩ | ⟨f1, f2⟩
      · rcases f' with ⟨f3, f4⟩ | ⟨f3, f4⟩
        · exact .inl ⟨f1, f2, f4⟩
        · exact absurd f1 f3
      · rcases f' with ⟨f3, f4⟩ | ⟨f3, f4⟩
        · exact absurd f3 f1
        · exact .inr ⟨f1, f2, f4⟩
  have CO := Lib.hid (fun w1 => areOpp_impl n home away ro w1 hro)
  have CE := Lib.hid (fun w1 => exists_impl st re w1 hre)
  have CH := Lib.hid (fun w1 => allows_impl st hg rh w1 hrh)
  have CA := Lib.hid (fun w1 => allows_impl st ag ra w1 hra)
  have HN := Lib.hid (bool_not hall)
  have HY := Lib.hid (bool_of hall)
  clear hR hro hre hrh hra hall
  by_cases h1 : 2 ≤ n
  case neg =>
    have g1 : decide (2 ≤ n) = false := decide_eq_false h1
    obtain rfl := HN.out fun h => h1 h.1
    clear HN HY h1
    go_enter Try.func50, Try.ntmps50
    go_wp2
    go_ret
    exact ⟨rfl, (Below.refl _ _).alloc (Nat.le_refl _) _⟩
  have g1 : decide (2 ≤ n) = true := decide_eq_true h1
  by_cases h2 : n ≤ 8
  case neg =>
    have g2 : decide (n ≤ 8) = false := decide_eq_false h2
    obtain rfl := HN.out fun h => h2 h.2.1
    clear HN HY h2
    go_enter Try.func50, Try.ntmps50
    go_wp2
    go_ret
    exact ⟨rfl, (Below.refl _ _).alloc (Nat.le_refl _) _⟩
  have g2 : decide (n ≤ 8) = true := decide_eq_true h2
  cases ro with
  | false =>
    obtain rfl := HN.out fun h => by have := h.2.2.1; cases this
    clear HN HY
    go_enter Try.func50, Try.ntmps50
    go_wp2_with fail
    refine (CO.out _).mono ?_
    rintro e w' ⟨rfl, rfl⟩
    go_wp2
    go_ret
    exact ⟨rfl, (Below.refl _ _).alloc (Nat.le_refl _) _⟩
  | true =>
  cases re with
  | false =>
    obtain rfl := HN.out fun h => by have := h.2.2.2.1; cases this
    clear HN HY
    go_enter Try.func50, Try.ntmps50
    go_wp2_with fail
    refine (CO.out _).mono ?_
    rintro e w' ⟨rfl, rfl⟩
    go_wp2_with fail
    refine (CE.out _).mono ?_
    rintro e w' ⟨rfl, rfl⟩
    go_wp2
    go_ret
    exact ⟨rfl, (Below.refl _ _).alloc (Nat.le_refl _) _⟩
  | true =>
  cases rh with
  | false =>
    obtain rfl := HN.out fun h => by have := h.2.2.2.2.1; cases this
    clear HN HY
    go_enter Try.func50, Try.ntmps50
    go_wp2_with fail
    refine (CO.out _).mono ?_
    rintro e w' ⟨rfl, rfl⟩
    go_wp2_with fail
    refine (CE.out _).mono ?_
    rintro e w' ⟨rfl, rfl⟩
    go_wp2_with fail
    refine (CH.out _).mono ?_
    rintro e w' ⟨rfl, rfl⟩
    go_wp2
    go_ret
    exact ⟨rfl, (Below.refl _ _).alloc (Nat.le_refl _) _⟩
  | true =>
  cases ra with
  | false =>
    obtain rfl := HN.out fun h => by have := h.2.2.2.2.2; cases this
    clear HN HY
    go_enter Try.func50, Try.ntmps50
    go_wp2_with fail
    refine (CO.out _).mono ?_
    rintro e w' ⟨rfl, rfl⟩
    go_wp2_with fail
    refine (CE.out _).mono ?_
    rintro e w' ⟨rfl, rfl⟩
    go_wp2_with fail
    refine (CH.out _).mono ?_
    rintro e w' ⟨rfl, rfl⟩
    go_wp2_with fail
    refine (CA.out _).mono ?_
    rintro e w' ⟨rfl, rfl⟩
    go_wp2
    go_ret
    exact ⟨rfl, (Below.refl _ _).alloc (Nat.le_refl _) _⟩
  | true =>
  obtain rfl := HY.out ⟨h1, h2, rfl, rfl, rfl, rfl⟩
  clear HN HY
  go_enter Try.func50, Try.ntmps50
  go_wp2_with fail
  refine (CO.out _).mono ?_
  rintro e w' ⟨rfl, rfl⟩
  go_wp2_with fail
  refine (CE.out _).mono ?_
  rintro e w' ⟨rfl, rfl⟩
  go_wp2_with fail
  refine (CH.out _).mono ?_
  rintro e w' ⟨rfl, rfl⟩
  go_wp2_with fail
  refine (CA.out _).mono ?_
  rintro e w' ⟨rfl, rfl⟩
  go_wp2
  go_ret
  exact ⟨rfl, (Below.refl _ _).alloc (Nat.le_refl _) _⟩
end Go.Proofs.Ytgemdjcadlejfaa
set_option linter.unusedVariables false
namespace Go.Proofs.Ytgemdjcadlejfaa
open Go.RowKit

def venueP (h a x : Int) : Int := if h = x then 1 else if a = x then 2 else 0
theorem venueOf_impl (h a x : Int) (w : World) :
    Calls Try.prog 73 #[.agg #[.int .i64 h, .int .i64 a], .int .i64 x] w fun e w' => e = .returned (.int .i64 (venueP h a x)) ∧ Below w.heap.size w w' := by
  have b1 : Below w.heap.size w (w.alloc (.cells #[.int .i64 h, .int .i64 a] 38)) := (Below.refl _ _).alloc (Nat.le_refl _) _
  have HB := Lib.hid b1
  clear b1
  by_cases h1 : h = x
  · have g1 : (x == h) = true := beq_iff_eq.2 h1.symm
    have e : venueP h a x = 1 := if_pos h1
    rw [e]
    clear h1 e
    go_enter Try.func73, Try.ntmps73
    go_wp2
    go_ret
    exact ⟨rfl, HB.out⟩
  have g1 : (x == h) = false := beq_eq_false_iff_ne.2 fun e => h1 e.symm
  by_cases h2 : a = x
  · have g2 : (x == a) = true := beq_iff_eq.2 h2.symm
    have e : venueP h a x = 2 := (if_neg h1).trans (if_pos h2)
    rw [e]
    clear h1 h2 e
    go_enter Try.func73, Try.ntmps73
    go_wp2
    go_ret
    exact ⟨rfl, HB.out⟩
  have g2 : (x == a) = false := beq_eq_false_iff_ne.2 fun e => h2 e.symm
  have e : venueP h a x = 0 := (if_neg h1).trans (if_neg h2)
  rw [e]
  clear h1 h2 e
  go_enter Try.func73, Try.ntmps73
  go_wp2
  go_ret
  exact ⟨rfl, HB.out⟩
set_option maxRecDepth 100000 in
set_option maxHeartbeats 2000000 in
theorem venueIn_impl (v : Value) (r : PairL) (x : Int) (w : World) (h : RdA tPairS w [v] r) :
    Calls Try.prog 51 #[v, .int .i64 x] w fun e w' => e = .returned (.int .i64 (venueL r x)) ∧ Below w.heap.size w w' := by
  obtain ⟨a, c, rfl, hn⟩ := pairs_form h
  have HR := Lib.hid h
  clear h
  obtain ⟨n, hd⟩ : ∃ n, List.length (α := tPair.D) r = n := ⟨_, rfl⟩
  have HD := Lib.hid hd
  rw [hd] at hn ⊢
  clear hd
  go_enter Try.func51, Try.ntmps51
  go_wp2
  go_loopw [10] (fun iv wr => ∃ i : Nat, i ≤ n ∧ iv = .int .i64 i ∧ Hid (venueL (r.drop i) x = venueL r x) ∧ Hid (Below w.heap.size w wr)) (fun iv _ => n - (RowKit.intOf iv).toNat)
  case atStart => exact ⟨0, Nat.zero_le _, rfl, rfl, Below.refl _ _⟩
  case round =>
    obtain ⟨i, hi9, rfl, HV, HB⟩ := hrel
    by_cases hlt : i < n
    · obtain ⟨p, hp⟩ : ∃ p : tPair.D, r[i]? = some p := ⟨_, List.getElem?_eq_getElem (by rw [HD.out]; exact hlt)⟩
      have HV2 := HV.out
      rw [drop_at hp, venueL_cons] at HV2
      have HRr := HR.out.below HB.out
      obtain ⟨b, off, rfl, hcap, q0, q1⟩ := pair_cells HRr hp
      rw [HD.out] at hcap
      have hj1 : (i : Int) < (n : Int) := by omega
      have HV3 := Lib.hid HV2
      clear HV HV2 HRr hp
      generalize hm p = ph at *
      generalize aw p = pa at *
      have C := Lib.hid (venueOf_impl ph pa x)
      have HB2 : Hid (Below w.heap.size w (wr.alloc (.cells #[.int .i64 ph, .int .i64 pa] 38))) := HB.out.alloc HB.out.size _
      have h0 : Hid (venueP ph pa x = 0 → venueL (r.drop (i + 1)) x = venueL r x) := fun e => by
        rw [← HV3.out]
        unfold venueP at e
        by_cases h1 : ph = x
        · rw [if_pos h1] at e; cases e
        · rw [if_neg h1] at e
          by_cases h2 : pa = x
          · rw [if_pos h2] at e; cases e
          · rw [if_neg h1, if_neg h2]
      have h1 : Hid (venueP ph pa x ≠ 0 → venueL r x = venueP ph pa x) := fun e => by
        rw [← HV3.out]
        unfold venueP at e ⊢
        by_cases h1 : ph = x
        · rw [if_pos h1, if_pos h1]
        · rw [if_neg h1] at e ⊢
          rw [if_neg h1]
          by_cases h2 : pa = x
          · rw [if_pos h2, if_pos h2]
          · rw [if_neg h2] at e; exact absurd rfl e
      clear HV3
      generalize venueP ph pa x = z at *
      by_cases hz : z = 0
      · have HVx := Lib.hid (h0.out hz)
        have gz : (z == 0) = true := beq_iff_eq.2 hz
        clear h0 h1 hz
        go_wp2_with fail
        refine (C.out _).mono ?_
        rintro e w1 ⟨rfl, b1⟩
        have HB3 := Lib.hid (HB2.out.trans (b1.mono HB2.out.size))
        clear b1 C HB2
        go_wp2
        go_roundw
        case rel => exact ⟨i + 1, by omega, by go_num, HVx, HB3⟩
        case measure => simp [RowKit.intOf]; omega
      · have HVx := Lib.hid (h1.out hz)
        have gz : (z == 0) = false := beq_eq_false_iff_ne.2 hz
        clear h0 h1 hz
        go_wp2_with fail
        refine (C.out _).mono ?_
        rintro e w1 ⟨rfl, b1⟩
        have HB3 := Lib.hid (HB2.out.trans (b1.mono HB2.out.size))
        clear b1 C HB2
        go_wp2
        go_ret
        exact ⟨by rw [HVx.out]; rfl, HB3.out⟩
    obtain rfl : i = n := by omega
    have HVx : Hid (venueL r x = 0) := by show _ = _; rw [← HV.out, List.drop_of_length_le (by have := HD.out; omega)]; rfl
    go_wp2
    go_ret
    exact ⟨by rw [HVx.out]; rfl, HB.out⟩
end Go.Proofs.Ytgemdjcadlejfaa
set_option linter.unusedVariables false
namespace Go.Proofs.Ytgemdjcadlejfaa
open Go.RowKit

set_option maxRecDepth 100000 in
set_option maxHeartbeats 4000000 in
theorem venuesOf_impl (v : Value) (d : List PairL) (tm : Int) (w : World) (h : RdA tPairSS w [v] d) (hw : tPairSS.wt d ≤ 1048576) :
    Calls Try.prog 19 #[v, .int .i64 tm] w (IntsL w (d.map fun r => venueL r tm)) := by
  obtain ⟨i0, hi, hz0, hz1, hz2⟩ := info_parts Try.infoI
  obtain ⟨a, c, rfl, hn⟩ := schedule_form h
  have HR := Lib.hid h
  clear h
  obtain ⟨n, hd⟩ : ∃ n, List.length (α := PairL) d = n := ⟨_, rfl⟩
  have HD := Lib.hid hd
  rw [hd] at hn ⊢
  clear hd
  have hn6 : n ≤ 1048576 := by have e : tPairSS.wt d = List.length (α := PairL) d + (d.map tPairS.wt).sum := rfl; rw [HD.out] at e; omega
  have CV := Lib.hid (fun v r wa h => venueIn_impl v r tm wa h)
  clear hw
  go_enter Try.func19, Try.ntmps19
  go_wp2_with (at_make; refine wpList_make_full _ rfl _ _ 32 rfl w.heap.size 3 i0 (.int .i64 0) 1 Try.underlying32 hi hz0 hz1 .i64 .i64 n n n rfl rfl rfl rfl (by rw [hz2]; omega) (by unfold maxLen; omega) (Nat.le_refl _) ?_; intro w1 hown hg1)
  have HO1 := Lib.hid hown
  have HB1 : Hid (Below w.heap.size w w1) := (Below.refl _ _).grown hg1 (Nat.le_refl _) (fun k hk => by cases hk)
  clear hown hg1
  go_loopw [13] (fun iv wr => ∃ (k : Nat) (ys : List Value), k ≤ n ∧ iv = .int .i64 k ∧ Hid (wr.ownsRow w.heap.size 3 1 (.slice (some ⟨w.heap.size, 0, none⟩) n n) n ys) ∧ Hid (∀ t, t < k → ys[t]? = some (.int .i64 (venueL (((d[t]?).getD [])) tm))) ∧ Hid (Below w.heap.size w wr)) (fun iv _ => n - (RowKit.intOf iv).toNat)
  case atStart => exact ⟨0, _, Nat.zero_le _, rfl, HO1.out, fun t ht => absurd ht (by omega), HB1.out⟩
  case round =>
    clear HO1 HB1
    obtain ⟨k, ys, hk9, rfl, HO, HY, HB⟩ := hrel
    by_cases hlt : k < n
    · obtain ⟨r, hr⟩ : ∃ r : PairL, d[k]? = some r := ⟨_, List.getElem?_eq_getElem (by rw [HD.out]; exact hlt)⟩
      have HRr := HR.out.below HB.out
      obtain ⟨b, off, x, xc, rfl, hcap, q0, hrr, hm63⟩ := round_cells HRr hr
      rw [HD.out] at hcap
      have hj1 : (k : Int) < (n : Int) := by omega
      have HRW := Lib.hid hrr
      have HYN : Hid (∀ z, z = venueL r tm → venueL ((d[k]?).getD []) tm = z) := fun z e => by rw [hr, e]; rfl
      clear hrr HRr hr
      go_wp2_with fail
      refine (CV.out _ r _ HRW.out).mono ?_
      rintro e w2 ⟨rfl, b2⟩
      have HO2 := Lib.hid (owns_below HO.out b2 (Nat.le_refl _))
      have HB2 := Lib.hid (HB.out.trans (b2.mono HB.out.size))
      have hs2 := HB2.out.size
      have HYN2 := Lib.hid (HYN.out _ rfl)
      clear b2 HO HB HRW HYN
      generalize venueL r tm = z at *
      obtain ⟨u, hu⟩ := owns_some HO2.out k hlt
      have HU := Lib.hid hu
      have hcl := owns_cell HO2.out k hlt HU
      have hfr := HO2.out.frozenAt k
      clear hu
      go_wp2
      go_roundw
      case rel =>
        refine ⟨k + 1, ys.set k (.int .i64 z), by omega, by go_num, (HO2.out.stored k _).1, fun t ht => ?_, HB2.out.setCell (Nat.le_refl _) _⟩
        have hlen := HO2.out.1
        by_cases htk : t = k
        · subst htk
          rw [List.getElem?_set_self (by omega), HYN2.out]
        · rw [List.getElem?_set_ne (by omega)]
          exact HY.out t (by omega)
      case measure => simp [RowKit.intOf]; omega
    obtain rfl : k = n := by omega
    have HE : Hid (ys = (d.map fun r => venueL r tm).map (Value.int .i64)) := by
      show _ = _
      have hlen := HO.out.1
      rw [List.map_map]
      apply List.ext_getElem?
      intro t
      by_cases ht : t < k
      · rw [HY.out t ht, List.getElem?_map]
        obtain ⟨r, hr⟩ : ∃ r : PairL, d[t]? = some r := ⟨_, List.getElem?_eq_getElem (by rw [HD.out]; exact ht)⟩
        rw [hr]; rfl
      · rw [List.getElem?_eq_none (by omega), List.getElem?_eq_none (by rw [List.length_map, HD.out]; omega)]
    clear HY
    go_wp2
    go_ret
    refine ⟨_, rfl, ?_, HB.out⟩
    have h9 := HO.out
    rw [HE.out] at h9
    rw [List.length_map]
    show World.ownsRow _ _ _ _ _ (List.length (α := PairL) d) _
    rw [HD.out]
    exact h9
set_option maxRecDepth 100000 in
set_option maxHeartbeats 4000000 in
theorem breaksOf_impl (v : Value) (d : List PairL) (tm : Int) (w : World) (h : RdA tPairSS w [v] d) (hw : tPairSS.wt d ≤ 1048576) :
    Calls Try.prog 20 #[v, .int .i64 tm] w fun e w' => e = .returned (.int .i64 (breaksL d tm)) ∧ Below w.heap.size w w' := by
  have hdl : List.length (α := PairL) d ≤ 1048576 := by have e : tPairSS.wt d = List.length (α := PairL) d + (d.map tPairS.wt).sum := rfl; omega
  obtain ⟨a, c, rfl, hn⟩ := schedule_form h
  have CV := Lib.hid (venuesOf_impl (.slice a (List.length (α := PairL) d) c) d tm w h hw)
  clear h hw
  obtain ⟨n, hd⟩ : ∃ n, List.length (α := PairL) d = n := ⟨_, rfl⟩
  have HL : Hid ((venL d tm).length = n) := by show _ = _; rw [← hd]; exact List.length_map ..
  have HNN : Hid (∀ k, k < n → 0 ≤ getI (venL d tm) k) := fun k hk => by
    have hk2 : k < (venL d tm).length := by rw [HL.out]; exact hk
    have e : getI (venL d tm) k = (venL d tm)[k] := by unfold getI; exact (List.getElem_eq_getD 0).symm
    rw [e]
    obtain ⟨r, hr, e2⟩ := List.mem_map.1 (List.getElem_mem hk2)
    rw [← e2]
    have key : ∀ r : PairL, 0 ≤ venueL r tm := by
      intro r
      induction r with
      | nil => exact Int.le_refl _
      | cons p r ih => rw [venueL_cons]; split <;> (try split) <;> first | omega | exact ih
    exact key r
  unfold breaksL
  rw [hd] at hdl ⊢
  change Hid (Calls _ _ _ _ (IntsL w (venL d tm))) at CV
  generalize venL d tm = L at *
  rw [hd] at CV
  clear hd
  go_enter Try.func20, Try.ntmps20
  go_wp2_with fail
  refine CV.out.mono ?_
  rintro e w1 h3
  obtain ⟨vv, rfl, hVR, _, b1⟩ := h3.made (by rw [HL.out]; omega)
  rw [HL.out] at hVR
  obtain ⟨va, vc, rfl, h63, _⟩ := hVR.form
  have HVR := Lib.hid hVR
  have HB := Lib.hid b1
  clear h3 hVR b1 CV
  have HG : Hid ((0 : Int) = if 0 = 0 then 0 else getI L (0 - 1)) := rfl
  go_wp2
  go_loop [5, 6, 13] (fun cv pv iv => ∃ (k : Nat) (q : Int), k ≤ n ∧ iv = .int .i64 k ∧ cv = .int .i64 (brkN L k) ∧ pv = .int .i64 q ∧ Hid (q = if k = 0 then 0 else getI L (k - 1))) (fun _ _ iv => n - (RowKit.intOf iv).toNat)
  case atStart => exact ⟨0, 0, Nat.zero_le _, rfl, rfl, rfl, HG⟩
  case round =>
    clear HG
    obtain ⟨k, q, hk9, rfl, rfl, rfl, HQ⟩ := hrel
    by_cases hlt : k < n
    · obtain ⟨bo, oo, rfl, hcap, q0⟩ := int_at HVR.out hlt
      have hj1 : (k : Int) < (n : Int) := by omega
      have hle := brkN_le L k
      have hx0 := HNN.out k hlt
      have HZ0 : Hid ((getI L k = 0 ∨ getI L k ≠ q) → brkN L (k + 1) = brkN L k) := fun h => by
        show brkN L k + (if 0 < k ∧ 0 < getI L k ∧ getI L k = getI L (k - 1) then 1 else 0) = _
        rw [if_neg]; rfl
        rintro ⟨h1, h2, h3⟩
        have h4 := HQ.out
        rw [if_neg (by omega)] at h4
        rcases h with h | h
        · omega
        · exact h (h3.trans h4.symm)
      have HZ1 : Hid (getI L k ≠ 0 → getI L k = q → brkN L (k + 1) = brkN L k + 1) := fun h1 h2 => by
        show brkN L k + (if 0 < k ∧ 0 < getI L k ∧ getI L k = getI L (k - 1) then 1 else 0) = _
        have h4 := HQ.out
        by_cases hk0 : k = 0
        · rw [if_pos hk0] at h4; omega
        · rw [if_neg hk0] at h4
          rw [if_pos ⟨by omega, by omega, by omega⟩]
      have HG : Hid (getI L k = if k + 1 = 0 then 0 else getI L (k + 1 - 1)) := by show _ = _; rw [if_neg (by omega), Nat.add_sub_cancel]
      clear HQ
      obtain ⟨z', hz'⟩ : ∃ z', brkN L (k + 1) = z' := ⟨_, rfl⟩
      have HZ := Lib.hid hz'
      rw [hz'] at HZ0 HZ1
      clear hz'
      generalize brkN L k = z at *
      generalize getI L k = x at *
      by_cases h1 : x = 0
      · obtain rfl := HZ0.out (.inl h1)
        clear HZ0 HZ1
        subst h1
        go_wp2
        go_round
        case rel => exact ⟨k + 1, 0, by omega, by go_num, by rw [HZ.out], rfl, HG⟩
        case measure => simp [RowKit.intOf]; omega
      have g1 : (x == 0) = false := beq_eq_false_iff_ne.2 h1
      have g1n : (x != 0) = true := by unfold bne; rw [g1]; rfl
      by_cases h2 : x = q
      · have g2 : (x == q) = true := beq_iff_eq.2 h2
        obtain rfl := HZ1.out h1 h2
        clear HZ0 HZ1 h2
        go_wp2
        go_round
        case rel => exact ⟨k + 1, x, by omega, by go_num, by rw [HZ.out]; go_num, rfl, HG⟩
        case measure => simp [RowKit.intOf]; omega
      have g2 : (x == q) = false := beq_eq_false_iff_ne.2 h2
      obtain rfl := HZ0.out (.inr h2)
      clear HZ0 HZ1 h2
      go_wp2
      go_round
      case rel => exact ⟨k + 1, x, by omega, by go_num, by rw [HZ.out], rfl, HG⟩
      case measure => simp [RowKit.intOf]; omega
    obtain rfl : k = n := by omega
    go_wp2
    go_ret
    exact ⟨rfl, HB.out⟩
end Go.Proofs.Ytgemdjcadlejfaa
