/-
  Fields: the program's TeamNamed, over a map of teams to their first indices, ranged over in whatever order.
-/
import Derived.Test.YtmghnhjfkecaaaaField
import Derived.Test.YtmghnhjfkecaaaaMaps
import Derived.Test.YtmghnhjfkecaaaaOpenTeams
import Derived.DeepKeys4
set_option linter.unusedVariables false
namespace Go.Proofs.Ytmghnhjfkecaaaa
open Go.RowKit Go.Maps

theorem run_makeMapN {P : Program} {t k e : TypeId} (ht : P.underlying t = some (.map k e)) (n : Int) (w : World) : (Instr.makeMap t (some (.int .i64 n))).run P w = .ok (.map (some w.heap.size)) (w.alloc (.map #[] 0)) := by
  simp [Instr.makeMap, run_underlying ht, asInt, Result.andThen]
  try rfl
theorem laidOutT : laidOutB Try.prog = true := by kernel_rfl
theorem kTeam : Keyed Try.prog 31 :=
  Keyed.of_law (deep_law_laid laidOutT (m := 3) (by omega) (of_decide_eq_true (by kernel_rfl)) (by kernel_rfl) (by kernel_rfl))
theorem keyTypeTeam : Try.prog.keyType 31 = true := by kernel_rfl
theorem cellsTeam : Try.prog.cellsOf 31 = 3 := by kernel_rfl
theorem cellsStr : Try.prog.cellsOf 9 = 1 := by kernel_rfl
theorem cellsInt : Try.prog.cellsOf 3 = 1 := by kernel_rfl
theorem typesSize : ∃ m, Try.prog.types.size = m + 1 := ⟨Try.prog.types.size - 1, by have : 0 < Try.prog.types.size := of_decide_eq_true (by kernel_rfl); omega⟩
def tk (t : TeamD) : Lit := .string (keyBytes [.string t.nm.data.toList, .int .i64 t.club, .int .i64 t.seed])
theorem keyTeam (t : TeamD) (h : TeamFit t) : keyOf Try.prog 31 (.agg #[.string t.nm, .int .i64 t.club, .int .i64 t.seed]) = some (tk t) := by
  obtain ⟨h1, h2, h3⟩ := h
  obtain ⟨m, hm⟩ := typesSize
  unfold keyOf
  simp only [Try.underlying31, keyTypeTeam, Value.formed, cellsTeam, Value.cells]
  rw [hm]
  simp [Program.keyLits, Try.underlying31, Try.underlying9, Try.underlying3, cellsTeam, cellsStr, cellsInt, h1, h2, h3, tk]
theorem keyLits_str {P : Program} {d : Nat} {t : TypeId} {v : Value} {ls : List Lit} (hu : P.underlying t = some .string) (h : P.keyLits d t [v] = some ls) : ∃ s, v = .string s := by
  cases d with
  | zero => simp [Program.keyLits] at h
  | succ d =>
    simp only [Program.keyLits, hu] at h
    cases v <;> simp at h
    exact ⟨_, rfl⟩
theorem keyLits_int {P : Program} {d : Nat} {t : TypeId} {v : Value} {ls : List Lit} (hu : P.underlying t = some (.int .i64)) (h : P.keyLits d t [v] = some ls) : ∃ x, v = .int .i64 x := by
  cases d with
  | zero => simp [Program.keyLits] at h
  | succ d =>
    simp only [Program.keyLits, hu] at h
    cases v <;> simp at h
    obtain ⟨⟨rfl, _⟩, _⟩ := h
    exact ⟨_, rfl⟩
theorem keyTeam_inv {v : Value} {kl : Lit} (h : keyOf Try.prog 31 v = some kl) : ∃ t : TeamD, v = .agg #[.string t.nm, .int .i64 t.club, .int .i64 t.seed] := by
  obtain ⟨m, hm⟩ := typesSize
  unfold keyOf at h
  simp only [Try.underlying31, keyTypeTeam] at h
  rw [hm] at h
  cases v with
  | agg cs =>
    simp only [Value.formed, Try.underlying31, cellsTeam, Value.cells] at h
    by_cases hs : cs.size = 3
    · obtain ⟨l⟩ := cs
      match l, hs with
      | [a, b, c], _ =>
        unfold Program.keyLits at h
        simp [Try.underlying31, cellsTeam, cellsStr, cellsInt, Option.bind_eq_some_iff] at h
        obtain ⟨_, e0, _, ⟨_, e1, _, ⟨_, e2, _⟩, _⟩, _⟩ := h
        obtain ⟨s, rfl⟩ := keyLits_str Try.underlying9 e0
        obtain ⟨x, rfl⟩ := keyLits_int Try.underlying3 e1
        obtain ⟨y, rfl⟩ := keyLits_int Try.underlying3 e2
        exact ⟨⟨s, x, y⟩, rfl⟩
    · simp [hs] at h
  | _ => simp [Value.formed, Try.underlying31] at h
theorem team_ext {a b : TeamD} (h0 : a.nm = b.nm) (h1 : a.club = b.club) (h2 : a.seed = b.seed) : a = b := by
  cases a; cases b; simp_all
theorem tk_inj {a b : TeamD} (ha : TeamFit a) (hb : TeamFit b) (h : tk a = tk b) : a = b := by
  have h1 := keyTeam a ha
  have h2 := keyTeam b hb
  rw [h] at h1
  have e := kTeam.inj h1 h2
  simp only [Value.agg.injEq, Array.mk.injEq, List.cons.injEq, Value.string.injEq, Value.int.injEq, true_and, and_true] at e
  exact team_ext e.1 e.2.1 e.2.2

/-- D holds, for each of the first n teams, the index at which it stands first -/
def firstMap (g : Nat → TeamD) (n : Nat) (D : DataW Unit) : Prop :=
  (∀ kl, has D kl = true → ∃ j : Nat, j < n ∧ kl = tk (g j) ∧ (∀ z, D.atKey kl z = .lit (.int .i64 (j : Int))) ∧ ∀ i, i < j → tk (g i) ≠ kl) ∧ ∀ j, j < n → has D (tk (g j)) = true
theorem firstMap.keep {g : Nat → TeamD} {n : Nat} {D : DataW Unit} (h : firstMap g n D) (hh : has D (tk (g n)) = true) : firstMap g (n + 1) D :=
  ⟨fun kl hk => by obtain ⟨j, hj, r⟩ := h.1 kl hk; exact ⟨j, by omega, r⟩, fun j hj => by
    by_cases hjn : j = n
    · subst hjn; exact hh
    · exact h.2 j (by omega)⟩
theorem firstMap.put {g : Nat → TeamD} {n : Nat} {D : DataW Unit} (h : firstMap g n D) (ht : Tidy D) (hh : has D (tk (g n)) = false) : firstMap g (n + 1) (D.put (tk (g n)) (.lit (.int .i64 (n : Int)))) := by
  have hno : ∀ i, i < n → tk (g i) ≠ tk (g n) := fun i hi e => by
    have := h.2 i hi
    rw [e, hh] at this
    exact absurd this (by decide)
  refine ⟨fun kl hk => ?_, fun j hj => ?_⟩
  · by_cases e : kl = tk (g n)
    · subst e
      exact ⟨n, by omega, rfl, fun z => atKey_put_same ht.isMap (show WideAt.IsKeyLit (tk (g n)) from trivial) _ _, hno⟩
    · rw [has_put_other e] at hk
      obtain ⟨j, hj, h1, h2, h3⟩ := h.1 kl hk
      exact ⟨j, by omega, h1, fun z => by rw [atKey_put_other e]; exact h2 z, h3⟩
  · by_cases e : tk (g j) = tk (g n)
    · rw [e]; exact has_put_same ht.isMap (show WideAt.IsKeyLit (tk (g n)) from trivial) _
    · rw [has_put_other e]
      exact h.2 j (by
        by_cases hjn : j = n
        · subst hjn; exact absurd rfl e
        · omega)
/-- the call makes a map of the first n teams to their first indices -/
def FirstMade (w : World) (g : Nat → TeamD) (n : Nat) (e : Ending) (w' : World) : Prop :=
  ∃ (b : Nat) (D : DataW Unit), e = .returned (.map (some b)) ∧ w.heap.size ≤ b ∧ w'.ownsMap Try.prog 31 (plainElem Try.prog 3) b n D ∧ firstMap g n D ∧ Below w.heap.size w w'
theorem zIntV (w : World) : (zeroValue 3).run Try.prog w = .ok (.int .i64 0) w := by kernel_rfl
theorem firstIndices_any (v : Value) (n : Nat) (g : Nat → TeamD) (w : World) (h : TeamRow w v n g) (hf : ∀ i, TeamFit (g i)) (hn2 : n ≤ 1048576) :
    Calls Try.prog 45 #[v] w (FirstMade w g n) := by
  obtain ⟨a, cap, rfl, hn, hv⟩ := h.form
  have HV := Lib.hid hv
  have HF := Lib.hid hf
  clear hv h hf
  have hmm := @run_makeMapN Try.prog _ _ _ Try.underlying60
  go_enter Try.func45, Try.ntmps45
  go_wp2
  have m1 : (w.alloc (.map #[] 0)).ownsMap Try.prog 31 (plainElem (H := Unit) Try.prog 3) w.heap.size 0 (.map []) := World.ownsMap_made _ _ _ _
  go_loopw [13] (fun i wr => ∃ (k : Nat) (D : DataW Unit), k ≤ n ∧ i = .int .i64 k ∧ wr.ownsMap Try.prog 31 (plainElem Try.prog 3) w.heap.size k D ∧ Hid (firstMap g k D) ∧ Below w.heap.size w wr) (fun i _ => n - (intOf i).toNat)
  case atStart => exact ⟨0, _, Nat.zero_le _, rfl, m1, ⟨fun kl h => by simp [Maps.has_eq] at h, fun j hj => absurd hj (by omega)⟩, (Below.refl _ _).alloc (Nat.le_refl _) _⟩
  case round =>
    clear m1
    obtain ⟨k, D, hk, rfl, m1, hD, hb⟩ := hrel
    have hsz := hb.size
    by_cases hlt : k < n
    · obtain ⟨b, off, rfl, hc⟩ := HV.out (by omega)
      obtain ⟨c0, c1, c2⟩ := cells_below hb (hc k hlt)
      have HK := Lib.hid (keyTeam (g k) (HF.out k))
      have hti := Lib.hid (m1.tidy kTeam)
      clear hc HV HF
      by_cases hh : has D (tk (g k)) = true
      · have HD := Lib.hid (hD.out.keep hh)
        clear hD hti
        generalize tk (g k) = kl at *
        generalize g k = x at *
        have M := Lib.hid (m1.alloc (.cells #[.string x.nm, .int .i64 x.club, .int .i64 x.seed] 31))
        have hb2 := hb.alloc hsz (.cells #[.string x.nm, .int .i64 x.club, .int .i64 x.seed] 31)
        have M2 := m1.mono (Nat.le_succ k)
        clear hb
        go_wp2_with (at_lookup; refine wpList_lookup_own_ok_int _ rfl (.tmp 19) (.tmp 20) 60 rfl 31 3 .i64 kTeam Try.underlying60 Try.underlying3 (zIntV _) w.heap.size k D rfl M.out _ kl rfl HK.out ?_; intro c hat hwc; clear hat hwc; rw [hh])
        go_roundw
        case rel => exact ⟨k + 1, D, by omega, by go_num, M.out.mono (Nat.le_succ k), HD.out, hb2⟩
        case measure => simp [intOf]; omega
      · have hh2 : has D (tk (g k)) = false := by simpa using hh
        have HD := Lib.hid (hD.out.put hti.out hh2)
        clear hD hti hh
        generalize tk (g k) = kl at *
        generalize g k = x at *
        have M := Lib.hid (m1.alloc (.cells #[.string x.nm, .int .i64 x.club, .int .i64 x.seed] 31))
        have hb2 := hb.alloc hsz (.cells #[.string x.nm, .int .i64 x.club, .int .i64 x.seed] 31)
        clear hb
        go_wp2_with (first
          | (at_lookup; refine wpList_lookup_own_ok_int _ rfl (.tmp 19) (.tmp 20) 60 rfl 31 3 .i64 kTeam Try.underlying60 Try.underlying3 (zIntV _) w.heap.size k D rfl M.out _ kl rfl HK.out ?_; intro c hat hwc; clear hat hwc; rw [hh2])
          | (at_mapUpdate; refine wpList_mapUpdate_own _ rfl (.tmp 26) (.tmp 27) (.tmp 28) 60 rfl 31 3 kTeam Try.underlying60 _ w.heap.size k D rfl M.out (by unfold maxLen; omega) _ _ kl rfl rfl HK.out (.lit (.int .i64 k)) [] (plainElem_int Try.underlying3 (WalkArith.wf_i64 (by omega))) ?_; intro w3 m3 g3))
        go_roundw
        case rel => exact ⟨k + 1, _, by omega, by go_num, m3, HD.out, hb2.grown g3 hb2.size (fun q hq => by cases hq; omega)⟩
        case measure => simp [intOf]; omega
    · obtain rfl : k = n := by omega
      go_wp2
      go_ret
      exact ⟨_, _, rfl, Nat.le_refl _, m1, hD.out, hb⟩

/-- the step of a range over such a map: some team, with the index at which it stands first -/
theorem wpList_firstNext {w : World} {ops : Array Oper} {rest : List Oper} {o : Oper} {a : Act} {Q : Exit → Act → World → Prop} (hg : o.guard = none) (it : Operand) (hop : o.op = Op.next it false)
    (b r n0 n : Nat) (g : Nat → TeamD) (hf : ∀ i, TeamFit (g i)) (D : DataW Unit) (hD : firstMap g n D) (left : Lit → Bool) (hl : ∀ kl, left kl = true → has D kl = true) (cnt : Nat) (hit : a.eval it = .pointer (some ⟨r, 0, none⟩))
    (h : w.ranges Try.prog 31 (plainElem Try.prog 3) b r n0 D left cnt)
    (hDone : (∀ kl, left kl = false) → wpList Try.prog ops Q rest (a.put o.dst (.tuple #[.bool false])) w)
    (hMore : ∀ (j : Nat) (w' : World) (cnt' : Nat), j < n → left (tk (g j)) = true → (∀ i, i < j → tk (g i) ≠ tk (g j)) →
      w'.ranges Try.prog 31 (plainElem Try.prog 3) b r n0 D (fun z => left z && !z.sameKey (tk (g j))) cnt' → cnt' < cnt → w.grownBy w' (some r) →
      (Instr.entry (.pointer (some ⟨r, 0, none⟩))).run Try.prog w' = .ok (.tuple #[.agg #[.string (g j).nm, .int .i64 (g j).club, .int .i64 (g j).seed], .int .i64 (j : Int)]) w' →
      wpList Try.prog ops Q rest (a.put o.dst (.tuple #[.bool true, .agg #[.string (g j).nm, .int .i64 (g j).club, .int .i64 (g j).seed], .int .i64 (j : Int)])) w') :
    wpList Try.prog ops Q (o :: rest) a w := by
  refine wpList_next_ranges w hg it hop 31 kTeam (plainElem Try.prog 3) (fun t : TeamD => .agg #[.string t.nm, .int .i64 t.club, .int .i64 t.seed]) (Value.int .i64)
    (fun key kl hk => keyTeam_inv hk) (fun v y hv => by obtain ⟨c, rfl, _⟩ := plainElem_int_inv Try.underlying3 hv; exact ⟨c, rfl⟩) b r n0 D left cnt hit h (fun _ h => hDone h) ?_
  intro t c kl y w' cnt' hkey hlk hv hat hrg hlt hgr _ hen
  obtain ⟨j, hj, rfl, hja, hjf⟩ := hD.1 kl (hl kl hlk)
  have e := kTeam.inj hkey (keyTeam (g j) (hf j))
  have et : t = g j := by
    simp only [Value.agg.injEq, Array.mk.injEq, List.cons.injEq, Value.string.injEq, Value.int.injEq, true_and, and_true] at e
    exact team_ext e.1 e.2.1 e.2.2
  subst et
  obtain ⟨c', ec, hy, _⟩ := plainElem_int_inv Try.underlying3 hv
  cases ec
  have hc : c = (j : Int) := by
    have h1 := hat (.lit (.int .i64 0))
    rw [hja, hy] at h1
    simpa using h1.symm
  subst hc
  exact hMore j w' cnt' hj hlk hjf hrg hlt hgr hen
/-- what has been found when 'left' is still to come -/
def namedInv (g : Nat → TeamD) (n : Nat) (x : ByteArray) (left : Lit → Bool) (F : Int) : Prop :=
  (F = -1 ∨ ∃ m : Nat, F = m ∧ m < n ∧ (g m).nm = x) ∧ ∀ i, i < n → left (tk (g i)) = false → (g i).nm = x → 0 ≤ F ∧ F ≤ i
theorem left_off {left : Lit → Bool} {a b : Lit} (h : (left a && !a.sameKey b) = false) (hk : WideAt.IsKeyLit b) : left a = false ∨ a = b := by
  cases hl : left a
  · exact .inl rfl
  · rw [hl] at h
    simp only [Bool.true_and, Bool.not_eq_false'] at h
    exact .inr ((WideAt.sameKey_iff (b := b) hk).1 h)
theorem namedInv.skip {g : Nat → TeamD} {n : Nat} {x : ByteArray} {left : Lit → Bool} {F : Int} {j : Nat} (h : namedInv g n x left F) (hf : ∀ i, TeamFit (g i)) (hx : (g j).nm ≠ x) : namedInv g n x (fun z => left z && !z.sameKey (tk (g j))) F :=
  ⟨h.1, fun i hi hl hn => by
    rcases left_off hl trivial with h1 | h1
    · exact h.2 i hi h1 hn
    · have := tk_inj (hf i) (hf j) h1
      rw [this] at hn
      exact absurd hn hx⟩
theorem namedInv.take {g : Nat → TeamD} {n : Nat} {x : ByteArray} {left : Lit → Bool} {F : Int} {j : Nat} (h : namedInv g n x left F) (hf : ∀ i, TeamFit (g i)) (hj : j < n) (hx : (g j).nm = x) (hF : F < 0 ∨ (j : Int) < F) (hfirst : ∀ i, i < j → tk (g i) ≠ tk (g j)) :
    namedInv g n x (fun z => left z && !z.sameKey (tk (g j))) j :=
  ⟨.inr ⟨j, rfl, hj, hx⟩, fun i hi hl hn => by
    rcases left_off hl trivial with h1 | h1
    · have := h.2 i hi h1 hn
      omega
    · have : ¬ i < j := fun hij => hfirst i hij h1
      omega⟩
theorem namedInv.stay {g : Nat → TeamD} {n : Nat} {x : ByteArray} {left : Lit → Bool} {F : Int} {j : Nat} (h : namedInv g n x left F) (hf : ∀ i, TeamFit (g i)) (hF : 0 ≤ F ∧ F ≤ j) (hfirst : ∀ i, i < j → tk (g i) ≠ tk (g j)) :
    namedInv g n x (fun z => left z && !z.sameKey (tk (g j))) F :=
  ⟨h.1, fun i hi hl hn => by
    rcases left_off hl trivial with h1 | h1
    · exact h.2 i hi h1 hn
    · have : ¬ i < j := fun hij => hfirst i hij h1
      omega⟩
theorem namedI_none {g : Nat → TeamD} {x : ByteArray} : ∀ r k, (∀ i, k ≤ i → i < k + r → (g i).nm ≠ x) → namedI g x r k = -1
  | 0, _, _ => rfl
  | r + 1, k, h => by
    unfold namedI
    rw [if_neg (h k (Nat.le_refl _) (by omega))]
    exact namedI_none r (k + 1) fun i h1 h2 => h i (by omega) (by omega)
theorem namedI_at {g : Nat → TeamD} {x : ByteArray} {m : Nat} (hm : (g m).nm = x) : ∀ r k, k ≤ m → m < k + r → (∀ i, k ≤ i → i < m → (g i).nm ≠ x) → namedI g x r k = m
  | 0, k, h1, h2, _ => absurd h2 (by omega)
  | r + 1, k, h1, h2, h => by
    unfold namedI
    by_cases hk : k = m
    · subst hk; rw [if_pos hm]
    · rw [if_neg (h k (Nat.le_refl _) (by omega))]
      exact namedI_at hm r (k + 1) (by omega) (by omega) fun i h3 h4 => h i (by omega) h4
theorem namedInv.result {g : Nat → TeamD} {n : Nat} {x : ByteArray} {left : Lit → Bool} {F : Int} (h : namedInv g n x left F) (hl : ∀ kl, left kl = false) : F = namedI g x n 0 := by
  rcases h.1 with rfl | ⟨m, rfl, hm, hx⟩
  · refine (namedI_none n 0 fun i _ hi hn => ?_).symm
    have := h.2 i (by omega) (hl _) hn
    omega
  · refine (namedI_at hx n 0 (Nat.zero_le _) (by omega) fun i _ hi hn => ?_).symm
    have := h.2 i (by omega) (hl _) hn
    omega
theorem teamNamed_impl (v : Value) (n : Nat) (g : Nat → TeamD) (x : ByteArray) (w : World) (h : TeamRow w v n g) (hf : ∀ i, TeamFit (g i)) (hn2 : n ≤ 1048576) :
    Calls Try.prog 18 #[v, .string x] w fun e w' => e = .returned (.int .i64 (namedI g x n 0)) ∧ Below w.heap.size w w' := by
  have H := Lib.hid (firstIndices_any v n g w h hf hn2)
  have HF := Lib.hid hf
  clear h hf
  generalize hr : namedI g x n 0 = R
  have HR := Lib.hid hr
  clear hr
  go_enter Try.func18, Try.ntmps18
  go_wp2_with (first
    | (go_at_call 45; refine H.out.mono ?_; rintro e w1 ⟨b, D, rfl, hbw, m1, hD, b1⟩; have HD := Lib.hid hD; clear hD; have hsz1 := b1.size)
    | (at_range; refine wpList_range_own _ rfl (.tmp 9) 60 rfl 31 3 kTeam Try.underlying60 _ b n D rfl m1 ?_; intro w2 hr hg2 hs2))
  go_frame
  have hb2 : Below w.heap.size w w2 := b1.grown hg2 hsz1 (fun q hq => by cases hq)
  have hrw : w.heap.size ≤ w1.heap.size := hsz1
  clear b1 m1 hg2 hs2 hsz1 H
  generalize w1.heap.size = r at *
  go_loopw [5] (fun F wr => ∃ (z : Int) (left : Lit → Bool) (cnt : Nat), F = .int .i64 z ∧ Hid (namedInv g n x left z) ∧ Hid (∀ kl, left kl = true → has D kl = true) ∧
      wr.ranges Try.prog 31 (plainElem Try.prog 3) b r n D left cnt ∧ Below w.heap.size w wr) (fun _ wr => wr.rangeLeft b r)
  case atStart =>
    exact ⟨-1, _, _, rfl, ⟨.inl rfl, fun i hi hl _ => by rw [HD.out.2 i hi] at hl; exact absurd hl (by decide)⟩, fun kl h => h, hr, hb2⟩
  case round =>
    clear hr hb2
    obtain ⟨z, left, cnt, rfl, hinv, hlh, hr, hb⟩ := hrel
    have hbs := hb.size
    go_wp2_with (at_next; refine wpList_firstNext rfl (.tmp 10) rfl b r n n g HF.out D HD.out left hlh.out cnt rfl hr ?_ ?_)
    · intro hno
      have he : z = R := (hinv.out.result hno).trans HR.out
      subst he
      clear hinv hlh hr HD HF HR hno
      go_wp2
      go_ret
      exact ⟨rfl, hb⟩
    · intro j w4 cnt' hj hlj hfirst hr4 hlt hg4 hen
      have hb4 : Below w.heap.size w w4 := hb.grown hg4 hbs (fun q hq => by cases hq; exact hrw)
      have HM := Lib.hid (show w4.rangeLeft b r < wr.rangeLeft b r by rw [hr4.left_eq, hr.left_eq]; exact hlt)
      have HLH : Hid (∀ kl, (fun y : Lit => left y && !y.sameKey (tk (g j))) kl = true → has D kl = true) := fun kl h => hlh.out kl (by
        simp only [Bool.and_eq_true] at h
        exact h.1)
      have HR4 : Hid (∀ o, (w4.alloc o).ranges Try.prog 31 (plainElem Try.prog 3) b r n D (fun y => left y && !y.sameKey (tk (g j))) cnt') := fun o => hr4.alloc o
      have HMA : Hid (∀ o, (w4.alloc o).rangeLeft b r < wr.rangeLeft b r) := fun o => by rw [(HR4.out o).left_eq, hr.left_eq]; exact hlt
      by_cases hx : (g j).nm = x
      · have hzc : z = -1 ∨ ∃ m : Nat, z = m := by
          rcases hinv.out.1 with h | ⟨m, h, _⟩
          · exact .inl h
          · exact .inr ⟨m, h⟩
        rcases hzc with rfl | ⟨m, rfl⟩
        · have HI := Lib.hid (hinv.out.take HF.out hj hx (.inl (by decide)) hfirst)
          clear hinv hlh hr hlt hg4 hlj hfirst HR HD HF hr4 HM
          generalize (fun y : Lit => left y && !y.sameKey (tk (g j))) = left' at *
          generalize g j = t at *
          obtain ⟨nm, club, seed⟩ := t
          simp only at hx hen
          subst hx
          go_wp2
          go_roundw
          case rel => exact ⟨j, left', cnt', by go_num, HI.out, HLH.out, HR4.out _, hb4.alloc hb4.size _⟩
          case measure => exact HMA.out _
        · by_cases hjm : j < m
          · have HI := Lib.hid (hinv.out.take HF.out hj hx (.inr (by omega)) hfirst)
            have g1 : decide ((m : Int) < 0) = false := decide_eq_false (by omega)
            have g2 : decide ((j : Int) < (m : Int)) = true := decide_eq_true (by omega)
            have g3 : decide (j < m) = true := decide_eq_true hjm
            clear hinv hlh hr hlt hg4 hlj hfirst HR HD HF hr4 HM
            generalize (fun y : Lit => left y && !y.sameKey (tk (g j))) = left' at *
            generalize g j = t at *
            obtain ⟨nm, club, seed⟩ := t
            simp only at hx hen
            subst hx
            go_wp2
            go_roundw
            case rel => exact ⟨j, left', cnt', by go_num, HI.out, HLH.out, HR4.out _, hb4.alloc hb4.size _⟩
            case measure => exact HMA.out _
          · have HI := Lib.hid (hinv.out.stay HF.out (j := j) ⟨by omega, by omega⟩ hfirst)
            have g1 : decide ((m : Int) < 0) = false := decide_eq_false (by omega)
            have g2 : decide ((j : Int) < (m : Int)) = false := decide_eq_false (by omega)
            have g3 : decide (j < m) = false := decide_eq_false hjm
            clear hinv hlh hr hlt hg4 hlj hfirst HR HD HF hr4 HM
            generalize (fun y : Lit => left y && !y.sameKey (tk (g j))) = left' at *
            generalize g j = t at *
            obtain ⟨nm, club, seed⟩ := t
            simp only at hx hen
            subst hx
            go_wp2
            go_roundw
            case rel => exact ⟨m, left', cnt', by go_num, HI.out, HLH.out, HR4.out _, hb4.alloc hb4.size _⟩
            case measure => exact HMA.out _
      · have HI := Lib.hid (hinv.out.skip HF.out hx)
        clear hinv hlh hr hlt hg4 hlj hfirst HR HD HF hr4 HM
        generalize (fun y : Lit => left y && !y.sameKey (tk (g j))) = left' at *
        generalize g j = t at *
        have g1 : (t.nm.toList == x.toList) = false := bytes_ne hx
        clear hx
        go_wp2
        go_roundw
        case rel => exact ⟨z, left', cnt', rfl, HI.out, HLH.out, HR4.out _, hb4.alloc hb4.size _⟩
        case measure => exact HMA.out _
end Go.Proofs.Ytmghnhjfkecaaaa
