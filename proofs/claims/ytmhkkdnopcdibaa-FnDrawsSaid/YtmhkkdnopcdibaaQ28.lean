/-
  Packed: DrwImplG.
-/
import Derived.BigQuiet
import Derived.Test.YtmhkkdnopcdibaaQ27
set_option linter.unusedVariables false
namespace Go.Proofs.Ytmhkkdnopcdibaa
open Go.RowKit

theorem results_cell2 {fn : Func} {p q : Tmp} {ty : TypeId} (h : fn.results = #[.cell p ty, .tmp q]) {tmps : Array Value} {P : Program} {w : World} {B : Nat} {v u : Value} (ha : tmps.getD p undef = .pointer (some ⟨B, 0, none⟩)) (hq : tmps.getD q undef = u) (hl : (loadVar ty ⟨B, 0, none⟩).run P w = .ok v w) :
    (results fn tmps).run P w = .ok (.tuple #[v, u]) w := by
  simp only [results, h]
  simp [asAddr, -Array.getD_eq_getD_getElem?, ha, hl, hq]
def zeroSeat : Array Value := #[.int .i8 0, .int .i8 0, .int .i8 0, .int .i8 0, .int .i8 0, .int .i8 0, .int .i8 0, .int .i8 0, .int .i8 0, .int .i8 0, .int .i8 0, .int .i8 0, .int .i8 0, .int .i8 0, .int .i8 0, .int .i8 0, .int .i8 0, .int .i8 0, .int .i8 0, .int .i8 0, .int .i8 0, .int .i8 0, .int .i8 0, .int .i8 0, .int .i8 0, .int .i8 0, .int .i8 0, .int .i8 0]
theorem zero_seat : SeatA zeroSeat (fun _ => 0) := by
  refine ⟨rfl, fun j hj => ?_⟩
  have key : ∀ j : Fin 28, zeroSeat[j.val]? = some (.int .i8 0) := by
    intro j
    have : zeroSeat = Array.replicate 28 (.int .i8 0) := rfl
    rw [this, Array.getElem?_replicate, if_pos j.2]
  exact key ⟨j, hj⟩
theorem seat_info : (Try.prog.info? 114).map (·.size) = some 28 := by kernel_rfl
theorem seat_load {w : World} {B : Nat} {cs : Array Value} {S : Nat → Nat} (hS : SeatA cs S) (hW : Whole w B cs 114) : (loadVar 114 ⟨B, 0, none⟩).run Try.prog w = .ok (.agg cs) w :=
  run_loadVar_row w B 114 114 cs (0, 0) _ hW Try.underlying114 rfl (by rw [hS.1]; exact seat_info)
structure AfW (w W : World) (tv : Value) (G most : Int) (cs : Array Value) (c : Nat) (ep ec : Bool) : Prop where
  d : BoxN W w.heap.size [tv, .int .i64 G, .int .i64 most]
  s : Whole W (w.heap.size + 1) cs 114
  t : BoxN W (w.heap.size + 1 + 1) [.int .i64 c, .bool ep, .bool ec]
  z : Whole W (w.heap.size + 1 + 1 + 1) zeroSeat 114
  b : Below w.heap.size w W
theorem af_made (w : World) (tv : Value) (G most : Int) (cs : Array Value) (c : Nat) (ep ec : Bool) (tv1 : tv.cells = #[tv]) :
    AfW w ((((w.alloc (.cells #[tv, .int .i64 G, .int .i64 most] 61)).alloc (.cells cs 114)).alloc (.cells #[.int .i64 c, .bool ep, .bool ec] 108)).alloc (.cells zeroSeat 114)) tv G most cs c ep ec := by
  have b : ∀ (u : World) (o : Obj), Below u.heap.size u (u.alloc o) := fun u o => (Below.refl _ _).alloc (Nat.le_refl _) _
  have w1 := Whole.made (w.alloc (.cells #[tv, .int .i64 G, .int .i64 most] 61)) cs 114
  have w2 : BoxN (((w.alloc (.cells #[tv, .int .i64 G, .int .i64 most] 61)).alloc (.cells cs 114)).alloc (.cells #[.int .i64 c, .bool ep, .bool ec] 108)) (w.heap.size + 1 + 1) [.int .i64 c, .bool ep, .bool ec] := BoxN.made (Below.refl _ _) (by simp)
  have w3 := Whole.made (((w.alloc (.cells #[tv, .int .i64 G, .int .i64 most] 61)).alloc (.cells cs 114)).alloc (.cells #[.int .i64 c, .bool ep, .bool ec] 108)) zeroSeat 114
  have w0 : BoxN (w.alloc (.cells #[tv, .int .i64 G, .int .i64 most] 61)) w.heap.size [tv, .int .i64 G, .int .i64 most] := BoxN.made (Below.refl _ _) rfl
  simp only [World.size_alloc] at w1 w3
  exact ⟨((w0.below (b _ _)).below (b _ _)).below (b _ _), (w1.below (b _ _)).below (b _ _), w2.below (b _ _), w3, ((((Below.refl w.heap.size w).alloc (Nat.le_refl _) _).alloc (by simp) _).alloc (by simp; omega) _).alloc (by simp; omega) _⟩
set_option maxRecDepth 100000 in
set_option maxHeartbeats 4000000 in
theorem after_no (ta : Option Addr) (tn tc : Nat) (G most x : Int) (cs : Array Value) (S : Nat → Nat) (c : Nat) (ep ec : Bool) (w : World) (hS : SeatA cs S) (hc : c < 6) (hG : 1 ≤ G ∧ G ≤ 4) (hno : ¬ ((0 ≤ x ∧ x ≤ G - 1) ∧ S (x.toNat * 7) = 0 ∧ (S (x.toNat * 7 + 1 + c) : Int) < most)) (hs : ∀ j, S j ≤ 100) :
    Calls Try.prog 91 #[.agg #[.slice ta tn tc, .int .i64 G, .int .i64 most], .agg cs, .agg #[.int .i64 c, .bool ep, .bool ec], .int .i64 x] w fun e w' => (∃ cs', e = .returned (.tuple #[.agg cs', .bool false]) ∧ SeatA cs' (fun _ => 0)) ∧ Below w.heap.size w w' := by
  obtain ⟨W, hW⟩ : ∃ W, (((w.alloc (.cells #[.slice ta tn tc, .int .i64 G, .int .i64 most] 61)).alloc (.cells cs 114)).alloc (.cells #[.int .i64 c, .bool ep, .bool ec] 108)).alloc (.cells zeroSeat 114) = W := ⟨_, rfl⟩
  have HA : Hid (AfW w W (.slice ta tn tc) G most cs c ep ec) := by rw [← hW]; exact af_made w (.slice ta tn tc) G most cs c ep ec rfl
  simp only [zeroSeat] at hW
  have HW := Lib.hid hW
  have HS := Lib.hid hS
  have HSB := Lib.hid hs
  clear hW hS hs
  have m0 := HA.out.d.2 0 _ rfl
  have m1 := HA.out.d.2 1 _ rfl
  have m2 := HA.out.d.2 2 _ rfl
  have n0 := HA.out.t.2 0 _ rfl
  have n1 := HA.out.t.2 1 _ rfl
  have n2 := HA.out.t.2 2 _ rfl
  have z0 := HA.out.d.1
  have z1 := HA.out.s.lt
  have z2 := HA.out.t.1
  have z3 := HA.out.z.lt
  have hc6 : (c : Int) < 6 := by omega
  go_enter Try.func91, Try.ntmps91
  by_cases hx0 : 0 ≤ x
  case neg =>
    have g1 : decide (x < 0) = true := decide_eq_true (by omega)
    have HZ : ∀ q, Whole (W.drewN q) (w.heap.size + 1 + 1 + 1) zeroSeat 114 := fun q => HA.out.z.below (below_drewN (Below.refl _ _) q)
    have HZ9 := Lib.hid HZ
    have HBB : Hid (∀ q, Below w.heap.size w ((W.drewN q).setRow (w.heap.size + 1 + 1 + 1) zeroSeat)) := fun q => below_setRow (below_drewN HA.out.b q) (by omega)
    have HLD : Hid (∀ q, (loadVar 114 ⟨w.heap.size + 1 + 1 + 1, 0, none⟩).run Try.prog ((W.drewN q).setRow (w.heap.size + 1 + 1 + 1) zeroSeat) = .ok (.agg zeroSeat) ((W.drewN q).setRow (w.heap.size + 1 + 1 + 1) zeroSeat)) := fun q => seat_load zero_seat (HZ9.out q).setRow
    clear HZ
    go_upto_region 1 with fail
    rw [HW.out]
    clear HW
    go_quiet (fail)
    go_wp2_with (refine wpList_store_row rfl 114 (.tmp 8) (.tmp 38) rfl (w.heap.size + 1 + 1 + 1) zeroSeat rfl rfl 114 zeroSeat (HZ9.out _) (by kernel_rfl) rfl zero_seat.all ?_)
    exact bodyPost_ret (v := .tuple #[.agg zeroSeat, .bool false]) (results_cell2 Try.results91 rfl rfl (HLD.out _)) rfl ⟨⟨zeroSeat, rfl, zero_seat⟩, HBB.out _⟩
  have g1 : decide (x < 0) = false := decide_eq_false (by omega)
  by_cases hx1 : x < G
  case neg =>
    have g2 : decide (G ≤ x) = true := decide_eq_true (by omega)
    have HZ : ∀ q, Whole (W.drewN q) (w.heap.size + 1 + 1 + 1) zeroSeat 114 := fun q => HA.out.z.below (below_drewN (Below.refl _ _) q)
    have HZ9 := Lib.hid HZ
    have HBB : Hid (∀ q, Below w.heap.size w ((W.drewN q).setRow (w.heap.size + 1 + 1 + 1) zeroSeat)) := fun q => below_setRow (below_drewN HA.out.b q) (by omega)
    have HLD : Hid (∀ q, (loadVar 114 ⟨w.heap.size + 1 + 1 + 1, 0, none⟩).run Try.prog ((W.drewN q).setRow (w.heap.size + 1 + 1 + 1) zeroSeat) = .ok (.agg zeroSeat) ((W.drewN q).setRow (w.heap.size + 1 + 1 + 1) zeroSeat)) := fun q => seat_load zero_seat (HZ9.out q).setRow
    clear HZ
    go_upto_region 1 with fail
    rw [HW.out]
    clear HW
    go_quiet (fail)
    go_wp2_with (refine wpList_store_row rfl 114 (.tmp 8) (.tmp 38) rfl (w.heap.size + 1 + 1 + 1) zeroSeat rfl rfl 114 zeroSeat (HZ9.out _) (by kernel_rfl) rfl zero_seat.all ?_)
    exact bodyPost_ret (v := .tuple #[.agg zeroSeat, .bool false]) (results_cell2 Try.results91 rfl rfl (HLD.out _)) rfl ⟨⟨zeroSeat, rfl, zero_seat⟩, HBB.out _⟩
  have g2 : decide (G ≤ x) = false := decide_eq_false (by omega)
  obtain ⟨g, rfl⟩ : ∃ g : Nat, x = g := ⟨x.toNat, by omega⟩
  have hg4 : g < 4 := by omega
  have hg4' : (g : Int) < 4 := by omega
  have k0 := HA.out.s.cell (HS.out.2 (g * 7) (by omega))
  have k1 := HA.out.s.cell (HS.out.2 (g * 7 + 1 + c) (by omega))
  have hb0 := HSB.out (g * 7)
  have hb1 := HSB.out (g * 7 + 1 + c)
  rw [Int.toNat_natCast] at hno
  obtain ⟨y0, hy0⟩ : ∃ y0, S (g * 7) = y0 := ⟨_, rfl⟩
  obtain ⟨y1, hy1⟩ : ∃ y1, S (g * 7 + 1 + c) = y1 := ⟨_, rfl⟩
  rw [hy0] at k0 hno hb0
  rw [hy1] at k1 hno hb1
  clear hy0 hy1
  by_cases hy : y0 = 0
  case neg =>
    have g3 : decide ((0 : Int) < (y0 : Int)) = true := decide_eq_true (by omega)
    have g3' : decide (0 < y0) = true := decide_eq_true (by omega)
    clear hno
    have HZ : ∀ q, Whole (W.drewN q) (w.heap.size + 1 + 1 + 1) zeroSeat 114 := fun q => HA.out.z.below (below_drewN (Below.refl _ _) q)
    have HZ9 := Lib.hid HZ
    have HBB : Hid (∀ q, Below w.heap.size w ((W.drewN q).setRow (w.heap.size + 1 + 1 + 1) zeroSeat)) := fun q => below_setRow (below_drewN HA.out.b q) (by omega)
    have HLD : Hid (∀ q, (loadVar 114 ⟨w.heap.size + 1 + 1 + 1, 0, none⟩).run Try.prog ((W.drewN q).setRow (w.heap.size + 1 + 1 + 1) zeroSeat) = .ok (.agg zeroSeat) ((W.drewN q).setRow (w.heap.size + 1 + 1 + 1) zeroSeat)) := fun q => seat_load zero_seat (HZ9.out q).setRow
    clear HZ
    go_upto_region 1 with fail
    rw [HW.out]
    clear HW
    go_quiet (fail)
    go_wp2_with (refine wpList_store_row rfl 114 (.tmp 8) (.tmp 38) rfl (w.heap.size + 1 + 1 + 1) zeroSeat rfl rfl 114 zeroSeat (HZ9.out _) (by kernel_rfl) rfl zero_seat.all ?_)
    exact bodyPost_ret (v := .tuple #[.agg zeroSeat, .bool false]) (results_cell2 Try.results91 rfl rfl (HLD.out _)) rfl ⟨⟨zeroSeat, rfl, zero_seat⟩, HBB.out _⟩
  subst hy
  have g4 : decide (most ≤ (y1 : Int)) = true := decide_eq_true (by omega)
  clear hno
  have HZ : ∀ q, Whole (W.drewN q) (w.heap.size + 1 + 1 + 1) zeroSeat 114 := fun q => HA.out.z.below (below_drewN (Below.refl _ _) q)
  have HZ9 := Lib.hid HZ
  have HBB : Hid (∀ q, Below w.heap.size w ((W.drewN q).setRow (w.heap.size + 1 + 1 + 1) zeroSeat)) := fun q => below_setRow (below_drewN HA.out.b q) (by omega)
  have HLD : Hid (∀ q, (loadVar 114 ⟨w.heap.size + 1 + 1 + 1, 0, none⟩).run Try.prog ((W.drewN q).setRow (w.heap.size + 1 + 1 + 1) zeroSeat) = .ok (.agg zeroSeat) ((W.drewN q).setRow (w.heap.size + 1 + 1 + 1) zeroSeat)) := fun q => seat_load zero_seat (HZ9.out q).setRow
  clear HZ
  go_upto_region 1 with fail
  rw [HW.out]
  clear HW
  go_quiet (fail)
  go_wp2_with (refine wpList_store_row rfl 114 (.tmp 8) (.tmp 38) rfl (w.heap.size + 1 + 1 + 1) zeroSeat rfl rfl 114 zeroSeat (HZ9.out _) (by kernel_rfl) rfl zero_seat.all ?_)
  exact bodyPost_ret (v := .tuple #[.agg zeroSeat, .bool false]) (results_cell2 Try.results91 rfl rfl (HLD.out _)) rfl ⟨⟨zeroSeat, rfl, zero_seat⟩, HBB.out _⟩
theorem i8_in (n : Int) (h : -128 ≤ n ∧ n ≤ 127) : IntKind.i8.wrap n = n := by
  simp [IntKind.wrap, IntKind.bits, IntKind.signed]; omega
theorem AfW.keep {w W W' : World} {tv : Value} {G most : Int} {cs : Array Value} {c : Nat} {ep ec : Bool} (h : AfW w W tv G most cs c ep ec) (b : Below W.heap.size W W') : AfW w W' tv G most cs c ep ec :=
  ⟨h.d.below b, h.s.below b, h.t.below b, h.z.below b, h.b.trans (b.mono h.b.size)⟩
theorem AfW.put {w W : World} {tv : Value} {G most : Int} {cs : Array Value} {c : Nat} {ep ec : Bool} (h : AfW w W tv G most cs c ep ec) (j : Nat) (u : Value) : AfW w (W.setCell ⟨w.heap.size + 1, j, none⟩ u) tv G most (cs.setIfInBounds j u) c ep ec :=
  ⟨h.d.elsewhere j u (by omega), h.s.set j u, h.t.elsewhere j u (by omega), h.z.other _ u (by simp only; omega), below_setD h.b ⟨w.heap.size + 1, j, none⟩ u (by simp only; omega)⟩
set_option maxRecDepth 100000 in
set_option maxHeartbeats 4000000 in
theorem after_yes (ta : Option Addr) (tn tc : Nat) (G most : Int) (g : Nat) (cs : Array Value) (S : Nat → Nat) (c : Nat) (ep ec : Bool) (w : World) (hS : SeatA cs S) (hc : c < 6) (hG : 1 ≤ G ∧ G ≤ 4) (hx1 : (g : Int) < G) (hf0 : S (g * 7) = 0) (hf1 : (S (g * 7 + 1 + c) : Int) < most) (hs : ∀ j, S j ≤ 100) :
    Calls Try.prog 91 #[.agg #[.slice ta tn tc, .int .i64 G, .int .i64 most], .agg cs, .agg #[.int .i64 c, .bool ep, .bool ec], .int .i64 g] w fun e w' => (∃ cs', e = .returned (.tuple #[.agg cs', .bool true]) ∧ SeatA cs' (aftS c ep ec g S)) ∧ Below w.heap.size w w' := by
  obtain ⟨W, hW⟩ : ∃ W, (((w.alloc (.cells #[.slice ta tn tc, .int .i64 G, .int .i64 most] 61)).alloc (.cells cs 114)).alloc (.cells #[.int .i64 c, .bool ep, .bool ec] 108)).alloc (.cells zeroSeat 114) = W := ⟨_, rfl⟩
  have HA : Hid (AfW w W (.slice ta tn tc) G most cs c ep ec) := by rw [← hW]; exact af_made w (.slice ta tn tc) G most cs c ep ec rfl
  simp only [zeroSeat] at hW
  have HW := Lib.hid hW
  have HS := Lib.hid hS
  have HSB := Lib.hid hs
  clear hW hS hs
  have m0 := HA.out.d.2 0 _ rfl
  have m1 := HA.out.d.2 1 _ rfl
  have m2 := HA.out.d.2 2 _ rfl
  have n0 := HA.out.t.2 0 _ rfl
  have n1 := HA.out.t.2 1 _ rfl
  have n2 := HA.out.t.2 2 _ rfl
  have z0 := HA.out.d.1
  have z1 := HA.out.s.lt
  have z2 := HA.out.t.1
  have z3 := HA.out.z.lt
  have hc6 : (c : Int) < 6 := by omega
  have g1 : decide ((g : Int) < 0) = false := decide_eq_false (by omega)
  have g2 : decide (G ≤ (g : Int)) = false := decide_eq_false (by omega)
  have hg4 : g < 4 := by omega
  have hg4' : (g : Int) < 4 := by omega
  have k0 := HA.out.s.cell (HS.out.2 (g * 7) (by omega))
  have k1 := HA.out.s.cell (HS.out.2 (g * 7 + 1 + c) (by omega))
  have f0 := HA.out.s.free (g * 7)
  have hb1 := HSB.out (g * 7 + 1 + c)
  have HSM : Hid (SeatA ((cs.setIfInBounds (g * 7) (.int .i8 (1 : Int))).setIfInBounds (g * 7 + 1 + c) (.int .i8 ((S (g * 7 + 1 + c) : Int) + 1))) (moreS c g S)) := by
    have h1 := (HS.out.set (g * 7) 1 (by omega)).set (g * 7 + 1 + c) (S (g * 7 + 1 + c) + 1) (by omega)
    refine SeatA.congr (S := fun j => if j = g * 7 + 1 + c then S (g * 7 + 1 + c) + 1 else if j = g * 7 then 1 else S j) ?_ fun j hj => ?_
    · have e : (((S (g * 7 + 1 + c) + 1 : Nat) : Int)) = (S (g * 7 + 1 + c) : Int) + 1 := by push_cast; rfl
      rw [← e]
      exact h1
    · unfold moreS
      by_cases e1 : j = g * 7 + 1 + c
      · rw [if_pos e1, if_pos e1, e1]
      · rw [if_neg e1, if_neg e1]
        by_cases e2 : j = g * 7
        · rw [if_pos e2, if_pos e2, e2, hf0]
        · rw [if_neg e2, if_neg e2]
  have HQ1 : Hid ((cs.setIfInBounds (g * 7) (.int .i8 (1 : Int)))[g * 7 + 1 + c]? = some (.int .i8 (S (g * 7 + 1 + c) : Int))) := by
    have h1 : (cs.setIfInBounds (g * 7) (.int .i8 (1 : Int)))[g * 7 + 1 + c]? = some (.int .i8 ((if g * 7 + 1 + c = g * 7 then 1 else S (g * 7 + 1 + c) : Nat) : Int)) := (HS.out.set (g * 7) 1 (by omega)).2 (g * 7 + 1 + c) (by omega)
    rw [if_neg (by omega)] at h1
    exact h1
  obtain ⟨y1, hy1⟩ : ∃ y1, S (g * 7 + 1 + c) = y1 := ⟨_, rfl⟩
  rw [hf0] at k0
  rw [hy1] at k1 hf1 hb1 HSM HQ1
  clear hy1 hf0
  have g4 : decide (most ≤ (y1 : Int)) = false := decide_eq_false (by omega)
  have HA2 := Lib.hid (HA.out.put (g * 7) (.int .i8 1))
  clear hf1
  go_enter Try.func91, Try.ntmps91
  go_upto_region 1 with fail
  rw [HW.out]
  clear HW
  go_quiet (fail)
  go_upto_region 4 with fail
  have HA3 := Lib.hid ((HA.out.keep (below_drewN (Below.refl _ _) nq)).put (g * 7) (.int .i8 1))
  clear m0 m1 m2 n0 n1 n2 k0 k1 f0 HA HA2 z0 z1 z2 z3
  generalize (W.drewN nq).setCell ⟨w.heap.size + 1, g * 7, none⟩ (.int .i8 1) = W2 at *
  have hq1 := HQ1.out
  have k1 := HA3.out.s.cell hq1
  have f1 := HA3.out.s.free (g * 7 + 1 + c)
  have n0 := HA3.out.t.2 0 _ rfl
  have z1 := HA3.out.s.lt
  have z2 := HA3.out.t.1
  have hwr : IntKind.i8.wrap ((y1 : Int) + 1) = (y1 : Int) + 1 := i8_in _ (by omega)
  have HA4 := Lib.hid ((HA3.out.put (g * 7 + 1 + c) (.int .i8 ((y1 : Int) + 1))).keep (Below.refl _ _).drew)
  clear hq1 HA3
  go_wp2_with fail
  go_region
  clear k1 f1 n0 z1 z2 hwr g1 g2 g4
  generalize (W2.setCell ⟨w.heap.size + 1, g * 7 + 1 + c, none⟩ (.int .i8 ((y1 : Int) + 1))).drew = W3 at *
  have n0 := HA4.out.t.2 0 _ rfl
  have n1 := HA4.out.t.2 1 _ rfl
  have n2 := HA4.out.t.2 2 _ rfl
  have z2 := HA4.out.t.1
  have CF := Lib.hid (forget_impl (w.heap.size + 1) _ (moreS c g S) c ep ec W3 HSM.out HA4.out.s hc)
  go_wp2_with fail
  refine CF.out.mono ?_
  rintro e w4 ⟨rfl, ⟨cs4, hs4, hw4⟩, hg4⟩
  have HS4 := Lib.hid hs4
  have HW4 := Lib.hid hw4
  have hz4 : w.heap.size ≤ W3.heap.size := HA4.out.b.size
  have HB4 : Hid (Below w.heap.size w w4) := HA4.out.b.grown hg4 hz4 (fun q hq => by simp only [Option.some.injEq] at hq; omega)
  have HZ4 : Hid (Whole w4 (w.heap.size + 1 + 1 + 1) zeroSeat 114) := HA4.out.z.grown hg4 (by simp)
  have HLD : Hid ((loadVar 114 ⟨w.heap.size + 1 + 1 + 1, 0, none⟩).run Try.prog (w4.setRow (w.heap.size + 1 + 1 + 1) cs4) = .ok (.agg cs4) (w4.setRow (w.heap.size + 1 + 1 + 1) cs4)) := seat_load hs4 HZ4.out.setRow
  have HSZ : Hid ((Try.prog.info? 114).map (·.size) = some cs4.size) := by show _ = _; rw [hs4.1]; exact seat_info
  have HSE : Hid (zeroSeat.size = cs4.size) := by show _ = _; rw [hs4.1]; rfl
  have HAL : Hid (cs4.all (·.oneCell') = true) := hs4.all
  have HBE : Hid (Below w.heap.size w (w4.setRow (w.heap.size + 1 + 1 + 1) cs4)) := below_setRow HB4.out (by omega)
  clear hs4 hw4 hg4 CF HA4 HSM n0 n1 n2
  go_wp2_with (first | (refine wpList_load_row rfl 114 (.tmp 5) rfl (w.heap.size + 1) rfl 114 cs4 (0, 0) _ HW4.out Try.underlying114 rfl HSZ.out ?_) | (refine wpList_store_row rfl 114 (.tmp 8) (.tmp 59) rfl (w.heap.size + 1 + 1 + 1) cs4 rfl rfl 114 zeroSeat HZ4.out HSZ.out HSE.out HAL.out ?_))
  exact bodyPost_ret (v := .tuple #[.agg cs4, .bool true]) (results_cell2 Try.results91 rfl rfl HLD.out) rfl ⟨⟨cs4, rfl, HS4.out⟩, HBE.out⟩
end Go.Proofs.Ytmhkkdnopcdibaa
