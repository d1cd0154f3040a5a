/-
  Packed: DrwImplJ, SeatMap.
-/
import Derived.DeepKeys4
import Derived.WideKeyEntry
import Derived.Test.YtmhkkdnopcdibaaQ24
import Derived.Test.YtmhkkdnopcdibaaQ29
import Derived.Test.YtmhkkdnopcdibaaQ30
set_option linter.unusedVariables false
namespace Go.Proofs.Ytmhkkdnopcdibaa
open Go.RowKit

def seatC (S : Nat → Nat) : Array Value := (Array.range 28).map fun j => .int .i8 (S j : Int)
theorem seatC_is (S : Nat → Nat) : SeatA (seatC S) S := ⟨by simp [seatC], fun j hj => by simp [seatC, hj]⟩
theorem SeatA.eqC {cs : Array Value} {S : Nat → Nat} (h : SeatA cs S) : cs = seatC S := h.eq (seatC_is S)
theorem seatC_len (S : Nat → Nat) : (seatC S).toList.length = 28 := by simp [seatC]
def seatsR (Ss : List (Nat → Nat)) : List Value := flatR (fun k => (seatC (Ss.getD k fun _ => 0)).toList) Ss.length
theorem seatsR_push (Ss : List (Nat → Nat)) (S : Nat → Nat) : seatsR (Ss ++ [S]) = seatsR Ss ++ (seatC S).toList := by
  unfold seatsR flatR
  rw [List.length_append, List.length_singleton, List.range_succ, List.flatMap_append]
  congr 1
  · rw [List.flatMap_def, List.flatMap_def]
    congr 1
    refine List.map_congr_left fun k hk => ?_
    have hk2 : k < Ss.length := List.mem_range.1 hk
    rw [List.getD_eq_getElem?_getD, List.getD_eq_getElem?_getD, List.getElem?_append_left hk2]
  · simp
theorem Try.infoSeats : (Try.prog.info? 114).map (fun i => (i.zero, i.size, i.bytes)) = some (some (.agg zeroSeat), 28, 28) := by kernel_rfl
theorem wpList_pushA {P : Program} {w : World} {ops : Array Oper} {rest : List Oper} {o : Oper} {a : Act} {Q : Exit → Act → World → Prop} (hgd : o.guard = none) (s x : Operand) (t : TypeId)
    (ho : o.op = .call { callee := .builtin .append, args := #[s, x], argTypes := #[t, t] })
    (base : Nat) (e : TypeId) {i : TypeInfo} {z : Value} {size bytes : Nat} (ht : P.underlying t = some (.slice e)) (hi : P.info? e = some i) (hz : i.zero = some z)
    (hsize : i.size = size) (hby : i.bytes = bytes) (hzs : z.cells.size = size) (hsz : 0 < size)
    (cs : Array Value) (hcs : cs.size = size) (h1 : cs.all (·.oneCell') = true)
    {v : Value} {n : Nat} {xs : List Value} (hs : a.eval s = v) (hx : a.eval x = .slice (some ⟨w.heap.size, 0, none⟩) 1 1) (hown : w.ownsRow base e size v n xs)
    (h63 : n + 1 ≤ maxLen) (hbytes : (n + 1) * bytes ≤ 140737488355328) (hbase : base ≤ w.heap.size)
    (h : ∀ g cap w', w'.ownsRow base e size (.slice (some ⟨g, 0, none⟩) (n + 1) cap) (n + 1) (xs ++ cs.toList) → w.grownBy w' v.ownBlock → (v.ownBlock = some g ∨ w.heap.size ≤ g) → g < w'.heap.size →
      wpList P ops Q rest (a.put o.dst (.slice (some ⟨g, 0, none⟩) (n + 1) cap)) w') : wpList P ops Q (o :: rest) a (w.alloc (.cells cs e)) := by
  have h9 := wpList_pushL (w := w) (Q := Q) (rest := rest) (ops := ops) hgd s x t ho base e ht hi hz hsize hby hzs hsz cs.toList (by simpa using hcs) (fun u hu => by
    have h2 := Array.all_eq_true_iff_forall_mem.1 h1 u (by simpa using hu)
    exact h2) hs hx hown h63 hbytes hbase h
  rwa [Array.toArray_toList] at h9
theorem zF_succ (d : DrwD) (f : Nat) (S : Nat → Nat) (i : Nat) : zF d (f + 1) S i = if i = d.N then 1 else sumNN (fun g => if fitS d S i g = true then zF d f (nxtSe d S i g) (i + 1) else 0) d.G := rfl
theorem own_apart {v : Value} {X D : Nat} (h : ∀ q, v.ownBlock = some q → X ≤ q ∧ q < D) : v.ownBlock = none ∨ v.ownBlock ≠ some D := by
  cases hob : v.ownBlock with
  | none => exact .inl rfl
  | some q =>
    right
    intro e
    have h1 := h q hob
    simp only [Option.some.injEq] at e
    omega
theorem fill_list : ∀ (l : List Value) (k : Nat) (a : Array Value) (j : Nat), k + l.length ≤ a.size → ((l.zipIdx k).foldl (fun (cs : Array Value) (x : Value × Nat) => cs.setIfInBounds x.2 x.1) a)[j]? = if k ≤ j ∧ j < k + l.length then l[j - k]? else a[j]?
  | [], k, a, j, h => by
    rw [if_neg (fun h9 => by have := h9.2; simp at this; omega)]
    rfl
  | v :: l, k, a, j, h => by
    rw [List.zipIdx_cons, List.foldl_cons, fill_list l (k + 1) _ j (by simp at h ⊢; omega)]
    have hl : (v :: l).length = l.length + 1 := rfl
    by_cases h1 : k + 1 ≤ j ∧ j < k + 1 + l.length
    · rw [if_pos h1, if_pos (by omega), show j - k = (j - (k + 1)) + 1 by omega, List.getElem?_cons_succ]
    · rw [if_neg h1, Array.getElem?_setIfInBounds]
      by_cases h2 : k = j
      · subst h2
        rw [if_pos rfl, if_pos (by omega), if_pos (by omega), Nat.sub_self]
        rfl
      · rw [if_neg h2, if_neg (by omega)]
theorem fill_all (z cs : Array Value) (h : z.size = cs.size) : Array.foldl (fun cs x => cs.setIfInBounds x.snd x.fst) z cs.zipIdx 0 cs.size = cs := by
  have e : Array.foldl (fun (cs : Array Value) (x : Value × Nat) => cs.setIfInBounds x.snd x.fst) z cs.zipIdx 0 cs.size = (cs.toList.zipIdx 0).foldl (fun (cs : Array Value) (x : Value × Nat) => cs.setIfInBounds x.2 x.1) z := by
    have e1 : cs.size = cs.zipIdx.size := by simp
    rw [e1, ← Array.foldl_toList, Array.toList_zipIdx]
  rw [e]
  apply Array.ext_getElem?
  intro j
  rw [fill_list cs.toList 0 z j (by simp [h])]
  by_cases hj : j < cs.size
  · rw [if_pos ⟨Nat.zero_le _, by simpa using hj⟩, Nat.sub_zero, Array.getElem?_toList]
  · rw [if_neg (fun h9 => hj (by simpa using h9.2)), Array.getElem?_eq_none (by omega), Array.getElem?_eq_none (by omega)]
def FolM (w : World) (d : DrwD) (S : Nat → Nat) (i n : Nat) (e : Ending) (w' : World) : Prop :=
  ∃ (v : Value) (Ss : List (Nat → Nat)), e = .returned v ∧ w'.ownsRow w.heap.size 114 28 v Ss.length (seatsR Ss) ∧ Ss.length ≤ 4 ∧ (∀ S' ∈ Ss, SmallS S' (n + 1)) ∧
    (∀ f, i + 1 + f = d.N → (Ss.map fun S' => zF d f S' (i + 1)).sum = zF d (f + 1) S i) ∧ Below w.heap.size w w'
structure FoW (w W : World) (tv : Value) (d : DrwD) (cs : Array Value) (c : Nat) (ep ec : Bool) : Prop where
  bx : BoxN W w.heap.size [tv, .int .i64 d.G, .int .i64 d.most]
  s : Whole W (w.heap.size + 1) cs 114
  t : BoxN W (w.heap.size + 1 + 1) [.int .i64 c, .bool ep, .bool ec]
  b : Below w.heap.size w W
theorem FoW.keep {w W W' : World} {tv : Value} {d : DrwD} {cs : Array Value} {c : Nat} {ep ec : Bool} (h : FoW w W tv d cs c ep ec) (b : Below W.heap.size W W') : FoW w W' tv d cs c ep ec :=
  ⟨h.bx.below b, h.s.below b, h.t.below b, h.b.trans (b.mono h.b.size)⟩
theorem FoW.grown {w W W' : World} {tv : Value} {d : DrwD} {cs : Array Value} {c : Nat} {ep ec : Bool} {row : Option Nat} (h : FoW w W tv d cs c ep ec) (hg : W.grownBy W' row) (hr : ∀ q, row = some q → w.heap.size + 1 + 1 < q) : FoW w W' tv d cs c ep ec :=
  ⟨h.bx.grown hg (fun e => by have := hr _ e; omega), h.s.grown hg (fun e => by have := hr _ e; omega), h.t.grown hg (fun e => by have := hr _ e; omega), h.b.grown hg h.b.size fun q hq => by have := hr q hq; omega⟩
theorem fo_made (w : World) (tv : Value) (d : DrwD) (cs : Array Value) (c : Nat) (ep ec : Bool) :
    FoW w (((w.alloc (.cells #[tv, .int .i64 d.G, .int .i64 d.most] 61)).alloc (.cells cs 114)).alloc (.cells #[.int .i64 c, .bool ep, .bool ec] 108)) tv d cs c ep ec := by
  have b : ∀ (u : World) (o : Obj), Below u.heap.size u (u.alloc o) := fun u o => (Below.refl _ _).alloc (Nat.le_refl _) _
  have w1 := Whole.made (w.alloc (.cells #[tv, .int .i64 d.G, .int .i64 d.most] 61)) cs 114
  have w2 : BoxN (((w.alloc (.cells #[tv, .int .i64 d.G, .int .i64 d.most] 61)).alloc (.cells cs 114)).alloc (.cells #[.int .i64 c, .bool ep, .bool ec] 108)) (w.heap.size + 1 + 1) [.int .i64 c, .bool ep, .bool ec] := BoxN.made (Below.refl _ _) (by simp)
  have w0 : BoxN (w.alloc (.cells #[tv, .int .i64 d.G, .int .i64 d.most] 61)) w.heap.size [tv, .int .i64 d.G, .int .i64 d.most] := BoxN.made (Below.refl _ _) rfl
  simp only [World.size_alloc] at w1
  exact ⟨(w0.below (b _ _)).below (b _ _), w1.below (b _ _), w2, (((Below.refl w.heap.size w).alloc (Nat.le_refl _) _).alloc (by simp) _).alloc (by simp; omega) _⟩
set_option maxRecDepth 100000 in
set_option maxHeartbeats 8000000 in
theorem follow_impl (ta : Option Addr) (tn tc : Nat) (d : DrwD) (ok : DrwOk d) (i : Nat) (hiN : i < d.N) (n : Nat) (hn : n ≤ 90) (cs : Array Value) (S : Nat → Nat) (w : World) (hS : SeatA cs S) (hs : SmallS S n) :
    Calls Try.prog 80 #[.agg #[.slice ta tn tc, .int .i64 d.G, .int .i64 d.most], .agg cs, .agg #[.int .i64 (d.cl i), .bool (epB d i), .bool (ecB d i)]] w (FolM w d S i n) := by
  obtain ⟨i0, hi, hz0, hz1, hz2⟩ := info_parts Try.infoSeats
  obtain ⟨W, hW⟩ : ∃ W, ((w.alloc (.cells #[.slice ta tn tc, .int .i64 d.G, .int .i64 d.most] 61)).alloc (.cells cs 114)).alloc (.cells #[.int .i64 (d.cl i), .bool (epB d i), .bool (ecB d i)] 108) = W := ⟨_, rfl⟩
  have HF : Hid (FoW w W (.slice ta tn tc) d cs (d.cl i) (epB d i) (ecB d i)) := by rw [← hW]; exact fo_made w _ d cs _ _ _
  have HW := Lib.hid hW
  have HOK := Lib.hid ok
  have HSE := Lib.hid hS
  have HSM := Lib.hid hs
  have HSZ : Hid ((Try.prog.info? 114).map (·.size) = some cs.size) := by show _ = _; rw [hS.1]; exact seat_info
  have hG4 := ok.G
  have CA : Hid (∀ (g : Nat) (wa : World), Calls Try.prog 91 #[.agg #[.slice ta tn tc, .int .i64 d.G, .int .i64 d.most], .agg cs, .agg #[.int .i64 (d.cl i), .bool (epB d i), .bool (ecB d i)], .int .i64 g] wa (AftM d S i g wa)) := fun g wa => after_any ta tn tc d ok i hiN g cs S wa hS fun j => Nat.le_trans (hs j) (by omega)
  have HZP : Hid (∀ (f : Nat) (S1 S2 : Nat → Nat), i + 1 + f = d.N → (chunks S1 d.G).Perm (chunks S2 d.G) → zF d f S1 (i + 1) = zF d f S2 (i + 1)) := fun f S1 S2 hf hp => zF_perm ok.cl hf hp
  clear hW ok hS hs
  obtain ⟨cl, hcl⟩ : ∃ cl, d.cl i = cl := ⟨_, rfl⟩
  obtain ⟨ep, hep⟩ : ∃ ep, epB d i = ep := ⟨_, rfl⟩
  obtain ⟨ec, hec⟩ : ∃ ec, ecB d i = ec := ⟨_, rfl⟩
  rw [hcl, hep, hec] at HF HW CA
  rw [hcl, hep, hec]
  clear hcl hep hec
  go_enter Try.func80, Try.ntmps80
  go_upto_region 1 with fail
  rw [HW.out]
  clear HW
  have c1 := HF.out.bx.2 1 _ rfl
  have z1 := HF.out.bx.1
  go_wp2_with (at_make; refine wpList_make_own _ rfl _ _ 119 rfl W.heap.size 114 i0 (.agg zeroSeat) 28 Try.underlying119 hi hz0 hz1 .i64 .i64 4 4 rfl rfl rfl (by rw [hz2]; decide) (by unfold maxLen; decide) (Nat.le_refl _) ?_; intro w2 hown hg2; have HF2 := Lib.hid (HF.out.grown hg2 (fun q hq => by cases hq)); have HO2 := Lib.hid hown; have c1' := HF2.out.bx.2 1 _ rfl; have z1' := HF2.out.bx.1; have hz2' := hg2.size; clear hown hg2)
  have hWz : w.heap.size + 1 + 1 < W.heap.size := HF.out.t.1
  clear c1 c1' z1 z1' HF
  generalize W.heap.size = X at *
  obtain ⟨G, hG⟩ : ∃ G, d.G = G := ⟨_, rfl⟩
  have HG := Lib.hid hG
  rw [hG] at hG4 ⊢
  have HSN : Hid (∀ f, i + 1 + f = d.N → zF d (f + 1) S i = sumNN (fun g => if fitS d S i g = true then zF d f (nxtSe d S i g) (i + 1) else 0) G) := fun f hf => by show zF d (f + 1) S i = _; rw [zF_succ, if_neg (by omega), hG]
  clear hG
  go_loopw [7, 14] (fun lv iv wr => ∃ (g : Nat) (v : Value) (Ss : List (Nat → Nat)), g ≤ G ∧ iv = .int .i64 g ∧ lv = v ∧ Hid (wr.ownsRow X 114 28 v Ss.length (seatsR Ss)) ∧ Ss.length ≤ g ∧ Hid (∀ S' ∈ Ss, SmallS S' (n + 1)) ∧ Hid (∀ f, i + 1 + f = d.N → (Ss.map fun S' => zF d f S' (i + 1)).sum = sumNN (fun g => if fitS d S i g = true then zF d f (nxtSe d S i g) (i + 1) else 0) g) ∧ Hid (FoW w wr (.slice ta tn tc) d cs cl ep ec) ∧ X ≤ wr.heap.size) (fun _ iv _ => G - (RowKit.intOf iv).toNat)
  case atStart => exact ⟨0, _, [], Nat.zero_le _, rfl, rfl, HO2, Nat.le_refl _, (fun S' h => by cases h), (fun f _ => rfl), HF2, hz2'⟩
  case round =>
    clear HO2 HF2 hz2'
    obtain ⟨g, v, Ss, hg9, rfl, rfl, HO, hl9, HSL, HSU, HF, hXr⟩ := hrel
    obtain ⟨oa, oc, hof⟩ := owns_form HO.out
    subst hof
    by_cases hlt : g < G
    · have hj1 : (g : Int) < (G : Int) := by omega
      have m0 := HF.out.bx.2 0 _ rfl
      have m1 := HF.out.bx.2 1 _ rfl
      have m2 := HF.out.bx.2 2 _ rfl
      have n0 := HF.out.t.2 0 _ rfl
      have n1 := HF.out.t.2 1 _ rfl
      have n2 := HF.out.t.2 2 _ rfl
      have z0 := HF.out.bx.1
      have z1 := HF.out.s.lt
      have z2 := HF.out.t.1
      have CA1 := Lib.hid (CA.out g wr)
      go_wp2_with (refine wpList_load_row rfl 114 (.tmp 4) rfl (w.heap.size + 1) rfl 114 cs (0, 0) _ HF.out.s Try.underlying114 rfl HSZ.out ?_)
      refine CA1.out.mono ?_
      rintro e w3 ⟨cs1, S1, b, rfl, hs1, hy, hno, bb⟩
      have HF3 := Lib.hid (HF.out.keep bb)
      have HO3 := Lib.hid (owns_below HO.out bb (Nat.le_refl _))
      have HS1 := Lib.hid hs1
      have HY := Lib.hid hy
      have HN := Lib.hid hno
      have HSZ1 : Hid ((Try.prog.info? 114).map (·.size) = some cs1.size) := by show _ = _; rw [hs1.1]; exact seat_info
      have HSE1 : Hid (zeroSeat.size = cs1.size) := by show _ = _; rw [hs1.1]; rfl
      have HAL1 : Hid (cs1.all (·.oneCell') = true) := hs1.all
      have HZ : Hid (Whole (w3.alloc (.cells zeroSeat 114)) w3.heap.size zeroSeat 114) := Whole.made _ _ _
      obtain ⟨w4, hw4⟩ : ∃ w4, (w3.alloc (.cells zeroSeat 114)).setRow w3.heap.size cs1 = w4 := ⟨_, rfl⟩
      have b4 : Below w3.heap.size w3 w4 := by rw [← hw4]; exact below_setRow ((Below.refl _ _).alloc (Nat.le_refl _) _) (Nat.le_refl _)
      have HF4 := Lib.hid (HF3.out.keep b4)
      have HO4 := Lib.hid (owns_below HO3.out b4 (Nat.le_refl _))
      have HW4 : Hid (Whole w4 w3.heap.size cs1 114) := by rw [← hw4]; exact HZ.out.setRow
      simp only [zeroSeat] at hw4
      have HWE := Lib.hid hw4
      have hX3 : X ≤ w3.heap.size := Nat.le_trans hXr bb.size
      have hX4 : w3.heap.size ≤ w4.heap.size := b4.size
      have HLD : Hid (∀ q, (Value.slice oa Ss.length oc).ownBlock = some q → X ≤ q ∧ q < w3.heap.size) := fun q hq => HO3.out.lt q hq
      clear hXr
      clear m0 m1 m2 n0 n1 n2 z0 z1 z2 hs1 hy hno bb CA1 HF HO hw4 b4
      go_upto_region 6 with (refine wpList_store_row rfl 114 (.tmp 9) (.tmp 23) rfl w3.heap.size cs1 rfl rfl 114 zeroSeat HZ.out HSZ1.out HSE1.out HAL1.out ?_)
      rw [HWE.out]
      clear HWE HZ HSE1 HF3 HO3
      generalize w3.heap.size = D at *
      cases b with
      | false =>
        have HSUN : Hid (∀ f, i + 1 + f = d.N → (Ss.map fun S' => zF d f S' (i + 1)).sum = sumNN (fun g => if fitS d S i g = true then zF d f (nxtSe d S i g) (i + 1) else 0) (g + 1)) := fun f hf => by
          rw [HSU.out f hf]
          show _ = _ + (if fitS d S i g = true then _ else 0)
          rw [if_neg (fun h9 => HN.out rfl ⟨⟨by omega, by rw [HG.out]; omega⟩, by rw [Int.toNat_natCast]; exact h9⟩)]
          rfl
        go_wp2
        go_roundw
        case rel => exact ⟨g + 1, _, Ss, by omega, by go_num, rfl, HO4, by omega, HSL, HSUN, HF4, by omega⟩
        case measure => simp [RowKit.intOf]; omega
      | true =>
        obtain ⟨hfit, hS1⟩ := HY.out rfl
        rw [Int.toNat_natCast] at hfit hS1
        have CS := Lib.hid (sortSeats D G cs1 S1 w4 HS1.out HW4.out (by omega))
        have HSM1 : Hid (SmallS S1 (n + 1)) := by show SmallS S1 (n + 1); rw [hS1]; exact HSM.out.next
        have HFT := Lib.hid hfit.2
        have HS1E := Lib.hid hS1
        clear hfit hS1 HY HN
        have m1 := HF4.out.bx.2 1 _ rfl
        rw [HG.out] at m1
        have z0 := HF4.out.bx.1
        have hG4' : (G : Int) ≤ 4 := by omega
        go_wp2_with fail
        refine CS.out.mono ?_
        rintro e w5 ⟨rfl, cs5, S5, hs5, hp5, hsm5, hw5, hg5⟩
        have HF5 := Lib.hid (HF4.out.grown hg5 (fun q hq => by simp only [Option.some.injEq] at hq; omega))
        have HO5 := Lib.hid (HO4.out.kept hg5 (own_apart HLD.out))
        have HW5 := Lib.hid hw5
        have HS5 := Lib.hid hs5
        have HSZ5 : Hid ((Try.prog.info? 114).map (·.size) = some cs5.size) := by show _ = _; rw [hs5.1]; exact seat_info
        have HP5 : Hid (∀ f, i + 1 + f = d.N → zF d f S5 (i + 1) = zF d f (nxtSe d S i g) (i + 1)) := fun f hf => by
          rw [← HS1E.out]
          refine HZP.out f S5 S1 hf ?_
          rw [HG.out]
          exact hp5
        have HSM5 : Hid (SmallS S5 (n + 1)) := hsm5 _ HSM1.out
        have hz5 : X ≤ w5.heap.size := Nat.le_trans (by omega) hg5.size
        have hff := fill_all zeroSeat cs5 (by rw [hs5.1]; rfl)
        simp only [zeroSeat] at hff
        have hs28 : cs5.size = 28 := hs5.1
        rw [hs28] at hff
        clear hs5 hp5 hsm5 hw5 hg5 CS m1 z0 HF4 HO4 HW4 hX4
        go_wp2_with (first | (refine wpList_load_row rfl 114 (.tmp 9) rfl D rfl 114 cs5 (0, 0) _ HW5.out Try.underlying114 rfl HSZ5.out ?_) | (at_builtin; refine wpList_pushA rfl (.tmp 30) (.tmp 32) 119 rfl X 114 Try.underlying119 hi hz0 hz1 hz2 rfl (by decide) cs5 HS5.out.1 HS5.out.all rfl (by show Value.slice (some ⟨_, 0, none⟩) 1 1 = _; simp) HO5.out (by unfold maxLen; omega) (by omega) hz5 ?_; intro gg6 cc6 w6 o6 g6 at6 lt6; have O6 := Lib.hid o6; have HF6 := Lib.hid (HF5.out.grown g6 (fun q hq => by have := HLD.out q hq; omega)); have hz6 : X ≤ w6.heap.size := Nat.le_trans hz5 g6.size; clear o6 g6 at6 lt6))
        have HON : Hid (w6.ownsRow X 114 28 (.slice (some ⟨gg6, 0, none⟩) (Ss.length + 1) cc6) (Ss ++ [S5]).length (seatsR (Ss ++ [S5]))) := by
          rw [seatsR_push, List.length_append, List.length_singleton, ← HS5.out.eqC]
          exact O6.out
        have HSUN : Hid (∀ f, i + 1 + f = d.N → ((Ss ++ [S5]).map fun S' => zF d f S' (i + 1)).sum = sumNN (fun g => if fitS d S i g = true then zF d f (nxtSe d S i g) (i + 1) else 0) (g + 1)) := fun f hf => by
          rw [List.map_append, List.sum_append, HSU.out f hf]
          show _ + ([zF d f S5 (i + 1)]).sum = _ + (if fitS d S i g = true then _ else 0)
          rw [if_pos HFT.out, HP5.out f hf]
          simp
        have HSLN : Hid (∀ S' ∈ Ss ++ [S5], SmallS S' (n + 1)) := fun S' h => by
          rcases List.mem_append.1 h with h | h
          · exact HSL.out S' h
          · rw [List.mem_singleton] at h; rw [h]; exact HSM5.out
        have hln : (Ss ++ [S5]).length ≤ g + 1 := by rw [List.length_append, List.length_singleton]; omega
        clear O6 HP5 HSU HSL
        go_roundw
        case rel => exact ⟨g + 1, _, Ss ++ [S5], by omega, by go_num, rfl, HON, hln, HSLN, HSUN, HF6, hz6⟩
        case measure => simp [RowKit.intOf]; omega
    obtain rfl : g = G := by omega
    go_wp2
    go_ret
    exact ⟨_, Ss, rfl, owns_mono HO.out (by omega), by omega, HSL.out, fun f hf => by rw [HSU.out f hf, HSN.out f hf], HF.out.b⟩
end Go.Proofs.Ytmhkkdnopcdibaa
set_option linter.unusedVariables false
namespace Go.Proofs.Ytmhkkdnopcdibaa
open Go.RowKit Go.Maps Go.MapKept

theorem laidOutS : laidOutB Try.prog = true := by kernel_rfl
theorem kLawSeats : Go.WideMaps.KeyLaw Try.prog 114 :=
  deep_law_laid laidOutS (m := 5) (by omega) (of_decide_eq_true (by kernel_rfl)) (by kernel_rfl) (by kernel_rfl)
theorem kSeats : Keyed Try.prog 114 := Keyed.of_law kLawSeats
theorem keyTypeSeats : Try.prog.keyType 114 = true := by kernel_rfl
theorem cellsSeats : Try.prog.cellsOf 114 = 28 := by kernel_rfl
theorem cellsSeating : Try.prog.cellsOf 112 = 7 := by kernel_rfl
theorem cellsClubs : Try.prog.cellsOf 110 = 6 := by kernel_rfl
theorem cellsI8 : Try.prog.cellsOf 109 = 1 := by kernel_rfl
theorem typesSize4 : ∃ m, Try.prog.types.size = m + 4 := ⟨Try.prog.types.size - 4, by have : 4 ≤ Try.prog.types.size := of_decide_eq_true (by kernel_rfl); omega⟩
theorem keyI8 (m : Nat) (x : Nat) (h : x ≤ 127) : Try.prog.keyLits (m + 1) 109 [.int .i8 (x : Int)] = some [.int .i8 (x : Int)] := by
  have e1 : IntKind.i8.min = -128 := by decide
  have e2 : IntKind.i8.max = 127 := by decide
  have hw : (Lit.int .i8 (x : Int)).wf = true := by
    simp [Lit.wf, e1, e2]
    omega
  simp [Program.keyLits, Try.underlying109, hw]
theorem keyClubs (m : Nat) (f : Nat → Nat) (b : Nat) (h : ∀ j, f j ≤ 127) : ∃ ls, Try.prog.keyLits (m + 2) 110 ((List.range 6).map fun k => .int .i8 (f (b + k) : Int)) = some ls := by
  have k1 := fun x => keyI8 m (f x) (h x)
  unfold Program.keyLits
  simp [Try.underlying110, cellsClubs, cellsI8, List.range_succ, k1]
theorem keySeating (m : Nat) (f : Nat → Nat) (b : Nat) (h : ∀ j, f j ≤ 127) : ∃ ls, Try.prog.keyLits (m + 3) 112 ((List.range 7).map fun k => .int .i8 (f (b + k) : Int)) = some ls := by
  have k1 := fun x => keyI8 (m + 1) (f x) (h x)
  obtain ⟨ls, k2⟩ := keyClubs m f (b + 1) h
  simp [List.range_succ, Nat.add_assoc] at k2
  unfold Program.keyLits
  simp [Try.underlying112, cellsSeating, cellsClubs, cellsI8, List.range_succ, k1, k2]
theorem keySeats (S : Nat → Nat) (h : ∀ j, S j ≤ 127) : ∃ kl, keyOf Try.prog 114 (.agg (seatC S)) = some kl := by
  obtain ⟨m, hm⟩ := typesSize4
  unfold keyOf
  simp only [Try.underlying114, keyTypeSeats, Value.formed, cellsSeats, Value.cells]
  rw [hm]
  obtain ⟨l0, k0⟩ := keySeating (m + 1) S 0 h
  obtain ⟨l1, k1⟩ := keySeating (m + 1) S 7 h
  obtain ⟨l2, k2⟩ := keySeating (m + 1) S 14 h
  obtain ⟨l3, k3⟩ := keySeating (m + 1) S 21 h
  simp [List.range_succ] at k0 k1 k2 k3
  unfold Program.keyLits
  simp [seatC, Try.underlying114, cellsSeats, cellsSeating, List.range_succ, Array.range_succ, k0, k1, k2, k3]
@[irreducible] noncomputable def sk (S : Nat → Nat) : Lit := (keyOf Try.prog 114 (.agg (seatC S))).getD (.bool true)
theorem sk_key (S : Nat → Nat) (h : ∀ j, S j ≤ 127) : keyOf Try.prog 114 (.agg (seatC S)) = some (sk S) := by
  obtain ⟨kl, e⟩ := keySeats S h
  unfold sk
  rw [e]
  rfl
theorem sk_inj {S S' : Nat → Nat} (h : ∀ j, S j ≤ 127) (h' : ∀ j, S' j ≤ 127) (e : sk S = sk S') : seatC S = seatC S' := by
  have h1 := sk_key S h
  have h2 := sk_key S' h'
  rw [e] at h1
  have := kSeats.inj h1 h2
  simpa using this
theorem seatC_eq {S S' : Nat → Nat} (e : seatC S = seatC S') : ∀ j, j < 28 → S j = S' j := fun j hj => by
  have h1 := (seatC_is S).2 j hj
  rw [e, (seatC_is S').2 j hj] at h1
  simp only [Option.some.injEq, Value.int.injEq, true_and] at h1
  omega

def cntL (L : List ((Nat → Nat) × Nat)) (sk : (Nat → Nat) → Lit) (kl : Lit) : Nat := (L.map fun p => if (sk p.1).sameKey kl = true then p.2 else 0).sum
def sumL (g : (Nat → Nat) → Nat) (L : List ((Nat → Nat) × Nat)) : Nat := (L.map fun p => p.2 * g p.1).sum
noncomputable def restL (g : (Nat → Nat) → Nat) (left : Lit → Bool) (L : List ((Nat → Nat) × Nat)) : Nat := (L.map fun p => if left (sk p.1) = true then p.2 * g p.1 else 0).sum
theorem sumL_cons (g : (Nat → Nat) → Nat) (S : Nat → Nat) (n : Nat) (L : List ((Nat → Nat) × Nat)) : sumL g ((S, n) :: L) = n * g S + sumL g L := by simp [sumL]
theorem sk_lit (S : Nat → Nat) (h : ∀ j, S j ≤ 127) : WideAt.IsKeyLit (sk S) := by
  have h1 := sk_key S h
  generalize sk S = kl at *
  exact kSeats.key h1
theorem same_sk {S S' : Nat → Nat} (h : ∀ j, S j ≤ 127) (h' : ∀ j, S' j ≤ 127) : (sk S).sameKey (sk S') = true ↔ ∀ j, j < 28 → S j = S' j := by
  rw [WideAt.sameKey_iff (sk_lit S' h')]
  refine ⟨fun e => seatC_eq (sk_inj h h' e), fun e => ?_⟩
  have : seatC S = seatC S' := (SeatA.congr (seatC_is S) e).eq (seatC_is S')
  unfold sk
  rw [this]
theorem cnt_le (L : List ((Nat → Nat) × Nat)) (kl : Lit) : cntL L sk kl ≤ sumL (fun _ => 1) L := by
  induction L with
  | nil => exact Nat.le_refl _
  | cons p L ih =>
    have e1 : cntL (p :: L) sk kl = (if (sk p.1).sameKey kl = true then p.2 else 0) + cntL L sk kl := by simp [cntL]
    have e2 : sumL (fun _ => 1) (p :: L) = p.2 * 1 + sumL (fun _ => 1) L := by simp [sumL]
    rw [e1, e2]
    split <;> omega
theorem len_le {L : List ((Nat → Nat) × Nat)} (h : ∀ p ∈ L, 0 < p.2) : L.length ≤ sumL (fun _ => 1) L := by
  induction L with
  | nil => exact Nat.le_refl _
  | cons p L ih =>
    have e2 : sumL (fun _ => 1) (p :: L) = p.2 * 1 + sumL (fun _ => 1) L := by simp [sumL]
    have h1 := h p (by simp)
    have h2 := ih fun q hq => h q (List.mem_cons_of_mem _ hq)
    rw [e2, List.length_cons]
    omega
theorem rest_none (g : (Nat → Nat) → Nat) {left : Lit → Bool} (h : ∀ kl, left kl = false) (L : List ((Nat → Nat) × Nat)) : restL g left L = 0 := by
  induction L with
  | nil => rfl
  | cons p L ih =>
    have e2 : restL g left (p :: L) = (if left (sk p.1) = true then p.2 * g p.1 else 0) + restL g left L := by simp [restL]
    rw [e2, ih, h, if_neg (by decide)]
theorem rest_all (g : (Nat → Nat) → Nat) {left : Lit → Bool} {L : List ((Nat → Nat) × Nat)} (h : ∀ p ∈ L, left (sk p.1) = true) : restL g left L = sumL g L := by
  induction L with
  | nil => rfl
  | cons p L ih =>
    have e2 : restL g left (p :: L) = (if left (sk p.1) = true then p.2 * g p.1 else 0) + restL g left L := by simp [restL]
    have e3 : sumL g (p :: L) = p.2 * g p.1 + sumL g L := by simp [sumL]
    rw [e2, e3, ih fun q hq => h q (List.mem_cons_of_mem _ hq), if_pos (h p (by simp))]
theorem cnt_pos {L : List ((Nat → Nat) × Nat)} {p : (Nat → Nat) × Nat} (hp : p ∈ L) (h0 : 0 < p.2) (h : ∀ j, p.1 j ≤ 127) : 0 < cntL L sk (sk p.1) := by
  induction L with
  | nil => cases hp
  | cons q L ih =>
    have e1 : cntL (q :: L) sk (sk p.1) = (if (sk q.1).sameKey (sk p.1) = true then q.2 else 0) + cntL L sk (sk p.1) := by simp [cntL]
    rw [e1]
    rcases List.mem_cons.1 hp with rfl | hp
    · rw [if_pos ((same_sk h h).2 fun _ _ => rfl)]; omega
    · have := ih hp; omega
theorem cnt_mem {L : List ((Nat → Nat) × Nat)} {kl : Lit} (h : 0 < cntL L sk kl) : ∃ p ∈ L, (sk p.1).sameKey kl = true := by
  induction L with
  | nil => exact absurd h (by simp [cntL])
  | cons q L ih =>
    have e1 : cntL (q :: L) sk kl = (if (sk q.1).sameKey kl = true then q.2 else 0) + cntL L sk kl := by simp [cntL]
    rw [e1] at h
    by_cases hq : (sk q.1).sameKey kl = true
    · exact ⟨q, by simp, hq⟩
    · rw [if_neg hq] at h
      obtain ⟨p, h1, h2⟩ := ih (by omega)
      exact ⟨p, List.mem_cons_of_mem _ h1, h2⟩
theorem rest_strike (g : (Nat → Nat) → Nat) {left : Lit → Bool} {L : List ((Nat → Nat) × Nat)} {S : Nat → Nat} (hl : left (sk S) = true) (hS : ∀ j, S j ≤ 127) (hL : ∀ p ∈ L, ∀ j, p.1 j ≤ 127)
    (hg : ∀ p ∈ L, (∀ j, j < 28 → p.1 j = S j) → g p.1 = g S) : restL g left L = cntL L sk (sk S) * g S + restL g (fun z => left z && !z.sameKey (sk S)) L := by
  induction L with
  | nil => simp [restL, cntL]
  | cons q L ih =>
    have e1 : cntL (q :: L) sk (sk S) = (if (sk q.1).sameKey (sk S) = true then q.2 else 0) + cntL L sk (sk S) := by simp [cntL]
    have e2 : ∀ left : Lit → Bool, restL g left (q :: L) = (if left (sk q.1) = true then q.2 * g q.1 else 0) + restL g left L := fun left => by simp [restL]
    have ih' := ih (fun p hp => hL p (List.mem_cons_of_mem _ hp)) (fun p hp => hg p (List.mem_cons_of_mem _ hp))
    rw [e1, e2, e2, ih', Nat.add_mul]
    by_cases hq : (sk q.1).sameKey (sk S) = true
    · have h1 := (same_sk (hL q (by simp)) hS).1 hq
      have h2 : sk q.1 = sk S := (WideAt.sameKey_iff (sk_lit S hS)).1 hq
      rw [if_pos hq, hg q (by simp) h1, h2, if_pos hl, if_neg (by rw [WideAt.sameKey_self (sk_lit S hS)]; simp)]
      omega
    · rw [if_neg hq]
      have hq' : (sk q.1).sameKey (sk S) = false := by simpa using hq
      simp only [hq', Bool.not_false, Bool.and_true]
      omega
def TabAt (w : World) (b k : Nat) (L : List ((Nat → Nat) × Nat)) : Prop :=
  CountMap Try.prog w 114 3 b L.length (cntL L sk) ∧ ∀ p ∈ L, 0 < p.2 ∧ SmallS p.1 k
theorem TabAt.grown {w w' : World} {b k : Nat} {L : List ((Nat → Nat) × Nat)} {row : Option Nat} (h : TabAt w b k L) (hg : w.grownBy w' row) (hne : some b ≠ row) : TabAt w' b k L := ⟨h.1.grown hg hne, h.2⟩
theorem TabAt.lt {w : World} {b k : Nat} {L : List ((Nat → Nat) × Nat)} (h : TabAt w b k L) : b < w.heap.size := h.1.lt
theorem TabAt.touch {lo hi : Nat} {w w' : World} {b k : Nat} {L : List ((Nat → Nat) × Nat)} (h : TabAt w b k L) (t : Touch lo hi w w') (ho : b < lo ∨ hi ≤ b) : TabAt w' b k L := by
  obtain ⟨⟨D, ⟨es, clock, hb, h2⟩, h3⟩, h4⟩ := h
  exact ⟨⟨D, ⟨es, clock, (t.block b (Array.getElem?_eq_some_iff.1 hb).1 ho).trans hb, h2⟩, h3⟩, h4⟩
theorem TabAt.made (w : World) (k : Nat) : TabAt (w.alloc (.map #[] 0)) w.heap.size k [] :=
  ⟨CountMap.made w Try.prog _ _, fun p h => by cases h⟩
theorem zInt12 (w : World) : (zeroValue 3).run Try.prog w = .ok (.int .i64 0) w := by kernel_rfl
theorem small127 {S : Nat → Nat} {k : Nat} (h : SmallS S k) (hk : k ≤ 90) : ∀ j, S j ≤ 127 := fun j => Nat.le_trans (h j) (by omega)
theorem cnt_same {L : List ((Nat → Nat) × Nat)} {S : Nat → Nat} (n : Nat) (hS : ∀ j, S j ≤ 127) : cntL ((S, n) :: L) sk (sk S) = cntL L sk (sk S) + n := by
  have e1 : cntL ((S, n) :: L) sk (sk S) = (if (sk S).sameKey (sk S) = true then n else 0) + cntL L sk (sk S) := by simp [cntL]
  rw [e1, if_pos (WideAt.sameKey_self (sk_lit S hS))]
  omega
theorem cnt_other {L : List ((Nat → Nat) × Nat)} {S : Nat → Nat} (n : Nat) {kl : Lit} (e : kl ≠ sk S) : cntL ((S, n) :: L) sk kl = cntL L sk kl := by
  have e1 : cntL ((S, n) :: L) sk kl = (if (sk S).sameKey kl = true then n else 0) + cntL L sk kl := by simp [cntL]
  rw [e1, if_neg (fun h9 => e (WideAt.sameKey_eq h9).symm)]
  omega
theorem TabAt.look {w : World} {b k : Nat} {L : List ((Nat → Nat) × Nat)} {S : Nat → Nat} (h : TabAt w b k L) (hS : ∀ j, S j ≤ 127) :
    (Instr.lookup 117 (.map (some b)) (.agg (seatC S)) false).run Try.prog w = .ok (.int .i64 (cntL L sk (sk S))) w := by
  obtain ⟨⟨D, ho, _, hD⟩, _⟩ := h
  obtain ⟨v, ps, hrun, hv⟩ := ho.lookup kSeats Try.underlying117 (zInt12 w) (plainElem_int Try.underlying3 (by decide)) (sk_key S hS)
  obtain ⟨x, rfl, hx, _⟩ := plainElem_int_inv Try.underlying3 hv
  simp only [Prod.mk.injEq] at hx
  have := hD (sk S)
  rw [hx.1] at this
  simp only [DataW.lit.injEq, Lit.int.injEq, true_and] at this
  rw [hrun, this]
theorem TabAt.put {w : World} {b k : Nat} {L : List ((Nat → Nat) × Nat)} {S : Nat → Nat} {n : Nat} (h : TabAt w b k L) (hS : SmallS S k) (hk : k ≤ 90) (hn : 0 < n) (hm : cntL L sk (sk S) + n < 1000000000) (hl : L.length < 1000000000) :
    ∃ w', (Instr.mapUpdate 117 (.map (some b)) (.agg (seatC S)) (.int .i64 ((cntL L sk (sk S) + n : Nat) : Int))).run Try.prog w = .ok () w' ∧ TabAt w' b k ((S, n) :: L) ∧ w.mapTurned w' b := by
  obtain ⟨⟨D, ho, hh, hD⟩, hp⟩ := h
  have hS7 := small127 hS hk
  have hL7 : ∀ p ∈ L, ∀ j, p.1 j ≤ 127 := fun p h => small127 (hp p h).2 hk
  have hk1 := sk_key S hS7
  have hk2 := sk_lit S hS7
  obtain ⟨c, hc⟩ : ∃ c, cntL L sk (sk S) + n = c := ⟨_, rfl⟩
  have hcs := cnt_same (L := L) n hS7
  have hco := fun kl => cnt_other (L := L) (S := S) n (kl := kl)
  rw [hc] at hm hcs ⊢
  generalize sk S = sS at *
  obtain ⟨w', h1, h2, h3⟩ := ho.store kSeats Try.underlying117 (by unfold maxLen; omega) hk1 (plainElem_int (H := Unit) Try.underlying3 (WalkArith.wf_i64 (n := (c : Int)) (by omega)))
  refine ⟨w', h1, ⟨⟨_, h2, fun kl => ?_, fun kl => ?_⟩, fun p hp2 => ?_⟩, h3⟩
  · by_cases e : kl = sS
    · subst e
      rw [Maps.has_put_same ho.isMap hk2, hcs]
      exact ⟨fun _ => by omega, fun _ => rfl⟩
    · rw [Maps.has_put_other e, hco kl e]
      exact hh kl
  · by_cases e : kl = sS
    · subst e
      rw [atKey_put_same ho.isMap hk2, hcs]
    · rw [atKey_put_other e, hco kl e]
      exact hD kl
  · rcases List.mem_cons.1 hp2 with rfl | hp2
    · exact ⟨hn, hS⟩
    · exact hp p hp2
theorem TabAt.clear {w : World} {b k : Nat} {L : List ((Nat → Nat) × Nat)} (h : TabAt w b k L) (k' : Nat) (ty : TypeId) :
    ∃ w', (Builtin.clear_ #[117] ty #[.map (some b)]).run Try.prog w = .ok (.tuple #[]) w' ∧ TabAt w' b k' [] ∧ w.mapTurned w' b := by
  obtain ⟨⟨D, ⟨es, clock, hb, F, _⟩, _⟩, _⟩ := h
  refine ⟨Go.ChangeMaps.setBlock w b (.map #[] clock), ?_, ⟨⟨.map [], ⟨#[], clock, Go.ChangeMaps.heap_setBlock_same hb _, ⟨Nat.zero_le _, stamped_empty _, fun x hx => by simp at hx⟩, Nat.le_refl _, rfl⟩, fun kl => ⟨fun h => by simp [Maps.has_eq] at h, fun h => by simp [cntL] at h⟩, fun kl => rfl⟩, fun p hp => by cases hp⟩, ⟨es, clock, #[], clock, hb, rfl⟩⟩
  simp [Builtin.clear_, run_underlying Try.underlying117, MapKept.run_getObj_map hb, MapKept.run_setObj_map _ hb, Result.andThen, Go.ChangeMaps.setBlock]
end Go.Proofs.Ytmhkkdnopcdibaa
