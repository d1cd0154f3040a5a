/-
  Packed: SeatMap2, DrwImplK.
-/
import Derived.Test.YtmhkkdnopcdibaaQ1
import Derived.Test.YtmhkkdnopcdibaaQ31
set_option linter.unusedVariables false
namespace Go.Proofs.Ytmhkkdnopcdibaa
open Go.RowKit Go.Maps Go.MapKept

theorem own_entry {P : Program} {w : World} {t k e : TypeId} {R : Value → Option (DataW Unit × List MemPlace)} {b n : Nat} {D : DataW Unit} (h : w.ownsMap P k R b n D) (K : Go.WideMaps.KeyLaw P k) (ht : P.underlying t = some (.map k e))
    {z : Value} (hz : ∀ u : World, (zeroValue e).run P u = .ok z u) {zd : DataW Unit} {zp : List MemPlace} (hzd : R z = some (zd, zp)) (hn : n < maxLen) {key : Value} {kl : Lit} (hkey : keyOf P k key = some kl) :
    ∃ (v0 : Value) (st : Nat) (w1 : World) (D1 : DataW Unit), (Instr.mapEntry t (.map (some b)) key).run P w = .ok (.tuple #[v0, goInt st]) w1 ∧ w.mapTurned w1 b ∧ w1.ownsMap P k R b (n + 1) D1 ∧ (∀ kl', D1.atKey kl' zd = D.atKey kl' zd) ∧
      ∀ (val : Value) (d : DataW Unit) (ps : List MemPlace), R val = some (d, ps) → ∃ w3, (Instr.entryStore t (.map (some b)) (goInt st) val).run P w1 = .ok () w3 ∧ w3.ownsMap P k R b (n + 1) (D.put kl d) ∧ w1.mapTurned w3 b := by
  have KK : Keyed P k := Keyed.of_law K
  obtain ⟨es, clock, hb, F, hs, hDe⟩ := h
  have h0 : w.ownsMap P k R b n D := ⟨es, clock, hb, F, hs, hDe⟩
  obtain ⟨v0, st, es1, clock1, hE, _, hS⟩ := Go.WideElems.entry_then_store K ht hz hb F hkey
  have hb1 : (Go.ChangeMaps.setBlock w b (.map es1 clock1)).heap[b]? = some (.map es1 clock1) := Go.ChangeMaps.heap_setBlock_same hb _
  have hD1 : ∃ D1, (Go.ChangeMaps.setBlock w b (.map es1 clock1)).ownsMap P k R b (n + 1) D1 ∧ ∀ kl', D1.atKey kl' zd = D.atKey kl' zd := by
    rcases K.find w hkey es.toList F.keys with ⟨h1, h2⟩ | ⟨j, e0, h1, h2, h3⟩
    · have hE2 := hE
      simp [Instr.mapEntry, run_underlying ht, MapKept.run_getObj_map hb, K.check w false hkey, h1, hz, MapKept.run_setObj_map _ hb, Result.andThen] at hE2
      obtain ⟨w', hm, ho, _⟩ := h0.store KK ht hn hkey hzd
      have hm2 := hm
      simp [Instr.mapUpdate, run_underlying ht, MapKept.run_getObj_map hb, K.check w false hkey, h1, MapKept.run_setObj_map _ hb, Result.andThen] at hm2
      have e1 : Go.ChangeMaps.setBlock w b (.map es1 clock1) = w' := by
        unfold Go.ChangeMaps.setBlock
        first
          | exact hE2.2.symm.trans hm2
          | (rw [← hm2]; exact hE2.2.symm)
          | (obtain ⟨_, hE3⟩ := hE2; rw [← hm2, ← hE3])
      have hno : Maps.has D kl = false := by
        obtain ⟨v, ps, hr, _⟩ := h0.look_ok KK ht (hz w) hzd hkey
        simp [Instr.lookup, run_underlying ht, MapKept.run_getObj_map hb, K.check w es.isEmpty hkey, h1, hz, Result.andThen] at hr
        exact hr.2
      refine ⟨D.put kl zd, e1 ▸ ho, fun kl' => ?_⟩
      by_cases e : kl' = kl
      · subst e
        rw [atKey_put_same h0.isMap (KK.key hkey), atKey_of_not_has hno]
      · rw [atKey_put_other e]
    · have hj : es[j]? = some e0 := by simpa using h2
      have hsame : es.modify j (fun e => { e with key := key }) = es := by
        apply Array.ext'
        rw [Array.toList_modify, Go.ChangeMaps.modify_eq_set _ _ _ _ h2]
        have : ({ e0 with key := key } : MapEntry) = e0 := by rw [← h3]
        rw [this]
        exact Go.WideElems.set_self _ _ _ h2
      have hE2 := hE
      simp [Instr.mapEntry, run_underlying ht, MapKept.run_getObj_map hb, K.check w false hkey, h1, hj, h3, K.stays w hkey, hsame, MapKept.run_setObj_map _ hb, Result.andThen] at hE2
      have e1 : Go.ChangeMaps.setBlock w b (.map es1 clock1) = Go.ChangeMaps.setBlock w b (.map es clock) := hE2.2.symm
      refine ⟨D, ?_, fun _ => rfl⟩
      rw [e1]
      exact ⟨es, clock, Go.ChangeMaps.heap_setBlock_same hb _, F, by omega, hDe⟩
  obtain ⟨D1, hD1, hat⟩ := hD1
  refine ⟨v0, st, _, D1, hE, ⟨es, clock, es1, clock1, hb, rfl⟩, hD1, hat, fun val d ps hv => ?_⟩
  obtain ⟨es', clock', hs1, hm⟩ := hS _ val hb1
  obtain ⟨w', hm', ho, _⟩ := h0.store KK ht hn hkey hv
  rw [hm] at hm'
  have e1 : Go.ChangeMaps.setBlock w b (.map es' clock') = w' := by simpa using hm'
  obtain ⟨es2, clock2, hb2, F2, hs2, hD2⟩ := ho
  rw [← e1, Go.ChangeMaps.heap_setBlock_same hb _] at hb2
  simp only [Option.some.injEq, Obj.map.injEq] at hb2
  obtain ⟨rfl, rfl⟩ := hb2
  exact ⟨_, hs1, ⟨_, _, Go.ChangeMaps.heap_setBlock_same hb1 _, F2, hs2, hD2⟩, ⟨es1, clock1, _, _, hb1, rfl⟩⟩
theorem TabAt.entry {w : World} {b k : Nat} {L : List ((Nat → Nat) × Nat)} {S : Nat → Nat} {n : Nat} (h : TabAt w b k L) (hS : SmallS S k) (hk : k ≤ 90) (hn : 0 < n) (hm : cntL L sk (sk S) + n < 1000000000) (hl : L.length < 1000000000) :
    ∃ (v0 : Value) (st : Nat) (w1 : World), (Instr.mapEntry 117 (.map (some b)) (.agg (seatC S))).run Try.prog w = .ok (.tuple #[v0, goInt st]) w1 ∧ w.mapTurned w1 b ∧
      (Instr.lookup 117 (.map (some b)) (.agg (seatC S)) false).run Try.prog w1 = .ok (.int .i64 (cntL L sk (sk S))) w1 ∧
      ∃ w3, (Instr.entryStore 117 (.map (some b)) (goInt st) (.int .i64 ((cntL L sk (sk S) + n : Nat) : Int))).run Try.prog w1 = .ok () w3 ∧ TabAt w3 b k ((S, n) :: L) ∧ w1.mapTurned w3 b := by
  obtain ⟨⟨D, ho, hh, hD⟩, hp⟩ := h
  have hS7 := small127 hS hk
  have hk1 := sk_key S hS7
  have hk2 := sk_lit S hS7
  obtain ⟨c, hc⟩ : ∃ c, cntL L sk (sk S) + n = c := ⟨_, rfl⟩
  have hcs := cnt_same (L := L) n hS7
  have hco := fun kl => cnt_other (L := L) (S := S) n (kl := kl)
  rw [hc] at hm hcs ⊢
  generalize sk S = sS at *
  obtain ⟨v0, st, w1, D1, hrun, ht1, ho1, hat1, hst⟩ := own_entry ho kLawSeats Try.underlying117 zInt12 (plainElem_int (H := Unit) Try.underlying3 (by decide)) (by unfold maxLen; omega) hk1
  obtain ⟨w3, hs3, h2, h3⟩ := hst _ _ _ (plainElem_int (H := Unit) Try.underlying3 (WalkArith.wf_i64 (n := (c : Int)) (by omega)))
  refine ⟨v0, st, w1, hrun, ht1, ?_, w3, hs3, ⟨⟨_, h2, fun kl => ?_, fun kl => ?_⟩, fun p hp2 => ?_⟩, h3⟩
  · obtain ⟨v, ps, hrun, hv⟩ := ho1.lookup kSeats Try.underlying117 (zInt12 w1) (plainElem_int Try.underlying3 (by decide)) hk1
    obtain ⟨x, rfl, hx, _⟩ := plainElem_int_inv Try.underlying3 hv
    simp only [Prod.mk.injEq] at hx
    have := hx.1
    rw [hat1, hD] at this
    simp only [DataW.lit.injEq, Lit.int.injEq, true_and] at this
    rw [hrun, this]
  · by_cases e : kl = sS
    · subst e
      rw [Maps.has_put_same ho.isMap hk2, hcs]
      exact ⟨fun _ => by omega, fun _ => rfl⟩
    · rw [Maps.has_put_other e, hco kl e]
      exact hh kl
  · by_cases e : kl = sS
    · subst e
      rw [atKey_put_same ho.isMap hk2, hcs]
    · rw [atKey_put_other e, hco kl e]
      exact hD kl
  · rcases List.mem_cons.1 hp2 with rfl | hp2
    · exact ⟨hn, hS⟩
    · exact hp p hp2
def RngAt (w : World) (b r k : Nat) (L : List ((Nat → Nat) × Nat)) (left : Lit → Bool) (cnt : Nat) : Prop :=
  CountRange Try.prog w 114 3 b r L.length (cntL L sk) left cnt ∧ (∀ kl, left kl = true → 0 < cntL L sk kl) ∧ ∀ p ∈ L, 0 < p.2 ∧ SmallS p.1 k
theorem RngAt.grown {w w' : World} {b r k : Nat} {L : List ((Nat → Nat) × Nat)} {left : Lit → Bool} {cnt : Nat} {row : Option Nat} (h : RngAt w b r k L left cnt) (hg : w.grownBy w' row) (hb : some b ≠ row) (hr : some r ≠ row) : RngAt w' b r k L left cnt := by
  obtain ⟨⟨D, ho, hD⟩, h2⟩ := h
  exact ⟨⟨D, ho.kept hg hb hr, hD⟩, h2⟩
theorem RngAt.left_eq {w : World} {b r k : Nat} {L : List ((Nat → Nat) × Nat)} {left : Lit → Bool} {cnt : Nat} (h : RngAt w b r k L left cnt) : w.rangeLeft b r = cnt := h.1.left_eq
theorem RngAt.lt {w : World} {b r k : Nat} {L : List ((Nat → Nat) × Nat)} {left : Lit → Bool} {cnt : Nat} (h : RngAt w b r k L left cnt) : r < w.heap.size := by
  obtain ⟨⟨D, ho, hD⟩, h2⟩ := h
  exact ho.lt
theorem wpList_seatRange {w : World} {ops : Array Oper} {rest : List Oper} {o : Oper} {a : Act} {Q : Exit → Act → World → Prop} (hg : o.guard = none) (m : Operand) (hop : o.op = Op.range 117 m) (b k : Nat) (L : List ((Nat → Nat) × Nat))
    (hm : a.eval m = .map (some b)) (h : TabAt w b k L) (hk : k ≤ 90)
    (hK : ∀ w' left cnt, (∀ p ∈ L, left (sk p.1) = true) → RngAt w' b w.heap.size k L left cnt → w.grownBy w' none → wpList Try.prog ops Q rest (a.put o.dst (.pointer (some ⟨w.heap.size, 0, none⟩))) w') :
    wpList Try.prog ops Q (o :: rest) a w := by
  refine wpList_countRange hg m _ hop _ _ kSeats Try.underlying117 b _ _ hm h.1 fun w' left cnt hl hr hg => hK w' left cnt ?_ ⟨hr, fun kl h9 => (hl kl).1 h9, h.2⟩ hg
  intro p hp
  exact (hl _).2 (cnt_pos hp (h.2 p hp).1 (small127 (h.2 p hp).2 hk))
theorem wpList_seatNext {w : World} {ops : Array Oper} {rest : List Oper} {o : Oper} {a : Act} {Q : Exit → Act → World → Prop} (hg : o.guard = none) (it : Operand) (hop : o.op = Op.next it false) (b r k : Nat) (L : List ((Nat → Nat) × Nat)) (left : Lit → Bool) (cnt : Nat)
    (hit : a.eval it = .pointer (some ⟨r, 0, none⟩)) (h : RngAt w b r k L left cnt) (hk : k ≤ 90)
    (hDone : (∀ kl, left kl = false) → wpList Try.prog ops Q rest (a.put o.dst (.tuple #[.bool false])) w)
    (hMore : ∀ (S : Nat → Nat) (w' : World) (cnt' : Nat), SmallS S k → 0 < cntL L sk (sk S) → left (sk S) = true → RngAt w' b r k L (fun z => left z && !z.sameKey (sk S)) cnt' → cnt' < cnt → w.grownBy w' (some r) →
      (Instr.entry (.pointer (some ⟨r, 0, none⟩))).run Try.prog w' = .ok (.tuple #[.agg (seatC S), .int .i64 (cntL L sk (sk S))]) w' →
      wpList Try.prog ops Q rest (a.put o.dst (.tuple #[.bool true, .agg (seatC S), .int .i64 (cntL L sk (sk S))])) w') :
    wpList Try.prog ops Q (o :: rest) a w := by
  obtain ⟨⟨D, ho, hD⟩, hl, hp⟩ := h
  refine wpList_next_ranges w hg it hop 114 kSeats (plainElem Try.prog 3) (fun v : Value => v) (Value.int .i64) (fun key kl _ => ⟨key, rfl⟩)
    (fun v y hv => by obtain ⟨c, rfl, _⟩ := plainElem_int_inv Try.underlying3 hv; exact ⟨c, rfl⟩) b r L.length D left cnt hit ho (fun _ h => hDone h) ?_
  intro key c kl y w' cnt' hkey hlk hv hat hrg hlt hgr _ hen
  obtain ⟨p, hpL, hpk⟩ := cnt_mem (hl kl hlk)
  have hkl : WideAt.IsKeyLit kl := kSeats.key hkey
  have e1 : sk p.1 = kl := WideAt.sameKey_eq hpk
  have hk1 := sk_key p.1 (small127 (hp p hpL).2 hk)
  rw [e1] at hk1
  have e2 : key = .agg (seatC p.1) := kSeats.inj hkey hk1
  obtain ⟨c', ec, hy, _⟩ := plainElem_int_inv Try.underlying3 hv
  cases ec
  have hc : c = (cntL L sk kl : Int) := by
    have h1 := hat (.lit (.int .i64 0))
    rw [hD kl, hy] at h1
    simpa using h1.symm
  subst hc
  rw [e2] at hen
  show wpList Try.prog ops Q rest (a.put o.dst (.tuple #[.bool true, key, .int .i64 (cntL L sk kl)])) w'
  rw [e2]
  have hpos := hl kl hlk
  have := hMore p.1 w' cnt' (hp p hpL).2
  rw [e1] at this
  exact this hpos hlk ⟨⟨D, hrg, hD⟩, fun kl' h9 => hl kl' (by simp only [Bool.and_eq_true] at h9; exact h9.1), hp⟩ hlt hgr hen
theorem sum_cntL {L : List ((Nat → Nat) × Nat)} (S : Nat → Nat) : cntL L sk (sk S) ≤ sumL (fun _ => 1) L := cnt_le L _
end Go.Proofs.Ytmhkkdnopcdibaa
set_option linter.unusedVariables false
namespace Go.Proofs.Ytmhkkdnopcdibaa
open Go.RowKit Go.Maps

theorem Touch.grownR {lo hi : Nat} {w wr w' : World} {row : Option Nat} (h : Touch lo hi w wr) (g : wr.grownBy w' row) (hr : ∀ q, row = some q → w.heap.size ≤ q ∨ (lo ≤ q ∧ q < hi)) : Touch lo hi w w' :=
  ⟨g.os.trans h.os, g.tape.trans h.tape, g.output.trans h.output, Nat.le_trans h.size g.size, fun k hk ho => (g.block k (Nat.lt_of_lt_of_le hk h.size) (fun e => by have := hr k e.symm; omega)).trans (h.block k hk ho)⟩
theorem wpList_load_midA {P : Program} {ops : Array Oper} {rest : List Oper} {op : Oper} {a : Act} {w : World} {Q : Exit → Act → World → Prop} (hgd : op.guard = none) (ty : TypeId) (x : Operand) (ho : op.op = .load ty x)
    (b o : Nat) (hx : a.eval x = .pointer (some ⟨b, o, none⟩)) (cs : Array Value) (d : TypeDesc) (hc : w.rangeAt b o cs.toList)
    (hu : P.underlying ty = some d) (hd : d.isRow = true) (hi : (P.info? ty).map (·.size) = some cs.size)
    (h : wpList P ops Q rest (a.put op.dst (.agg cs)) w) : wpList P ops Q (op :: rest) a w :=
  wpList_load_mid hgd ty x ho b o hx cs.toList d hc hu hd (by rw [hi, Array.length_toList]) (by rwa [Array.toArray_toList])
theorem wp_look {P : Program} {o : Oper} {a : Act} {w : World} {K : Act → World → Prop} {Q : Exit → Act → World → Prop} {t : TypeId} {x y : Operand} {m key v : Value} (ho : o.op = .lookup t x y false) (hx : a.eval x = m) (hy : a.eval y = key)
    (hrun : (Instr.lookup t m key false).run P w = .ok v w) (hK : K (a.put o.dst v) w) : Oper.wp P o a w K Q := by
  unfold Oper.wp
  simp [execOp, ho, hx, hy, hrun, Result.andThen]
  exact hK
theorem wp_entry {P : Program} {o : Oper} {a : Act} {w w' : World} {K : Act → World → Prop} {Q : Exit → Act → World → Prop} {t : TypeId} {x y : Operand} {m key v : Value} (ho : o.op = .mapEntry t x y) (hx : a.eval x = m) (hy : a.eval y = key)
    (hrun : (Instr.mapEntry t m key).run P w = .ok v w') (hK : K (a.put o.dst v) w') : Oper.wp P o a w K Q := by
  unfold Oper.wp
  simp [execOp, ho, hx, hy, hrun, Result.andThen]
  exact hK
theorem wp_entryStore {P : Program} {o : Oper} {a : Act} {w w' : World} {K : Act → World → Prop} {Q : Exit → Act → World → Prop} {t : TypeId} {x y z : Operand} {m s v : Value} (ho : o.op = .entryStore t x y z) (hx : a.eval x = m) (hy : a.eval y = s) (hz : a.eval z = v)
    (hrun : (Instr.entryStore t m s v).run P w = .ok () w') (hK : K (a.put o.dst undef) w') : Oper.wp P o a w K Q := by
  unfold Oper.wp
  simp [execOp, ho, hx, hy, hz, hrun, Result.andThen]
  exact hK
theorem RngAt.clear {w : World} {b r k : Nat} {L : List ((Nat → Nat) × Nat)} {left : Lit → Bool} {cnt : Nat} (h : RngAt w b r k L left cnt) (k' : Nat) (ty : TypeId) :
    ∃ w', (Builtin.clear_ #[117] ty #[.map (some b)]).run Try.prog w = .ok (.tuple #[]) w' ∧ TabAt w' b k' [] ∧ w.mapTurned w' b := by
  obtain ⟨⟨D, ho, _⟩, _⟩ := h
  obtain ⟨es, clock, hb, F, _⟩ := ho.owns
  refine ⟨Go.ChangeMaps.setBlock w b (.map #[] clock), ?_, ⟨⟨.map [], ⟨#[], clock, Go.ChangeMaps.heap_setBlock_same hb _, ⟨Nat.zero_le _, Go.MapKept.stamped_empty _, fun x hx => by simp at hx⟩, Nat.le_refl _, rfl⟩, fun kl => ⟨fun h => by simp [Maps.has_eq] at h, fun h => by simp [cntL] at h⟩, fun kl => rfl⟩, fun p hp => by cases hp⟩, ⟨es, clock, #[], clock, hb, rfl⟩⟩
  simp [Builtin.clear_, run_underlying Try.underlying117, Go.MapKept.run_getObj_map hb, Go.MapKept.run_setObj_map _ hb, Result.andThen, Go.ChangeMaps.setBlock]
theorem wpList_seatClear {w : World} {ops : Array Oper} {rest : List Oper} {o : Oper} {a : Act} {Q : Exit → Act → World → Prop} (hg : o.guard = none) (m : Operand) (hop : o.op = Op.call { callee := Callee.builtin Builtin.clear, args := #[m], argTypes := #[117] })
    (b r k k' : Nat) (L : List ((Nat → Nat) × Nat)) (left : Lit → Bool) (cnt : Nat) (hm : a.eval m = .map (some b)) (h : RngAt w b r k L left cnt)
    (hK : ∀ w', TabAt w' b k' [] → w.mapTurned w' b → wpList Try.prog ops Q rest (a.put o.dst (.tuple #[])) w') :
    wpList Try.prog ops Q (o :: rest) a w := by
  refine wpList_plain hg fun K' hK' => ?_
  obtain ⟨w', hrun, r1, r2⟩ := h.clear k' o.type
  unfold Oper.wp
  simp [execOp, hop, resolve, invoke, builtin, hm, hrun, Result.andThen]
  exact hK' _ _ (hK w' r1 r2)
theorem zF_cells {d : DrwD} (ok : DrwOk d) {f i : Nat} {S S' : Nat → Nat} (hi : i + f = d.N) (h : ∀ j, j < 28 → S j = S' j) : zF d f S i = zF d f S' i :=
  zF_perm ok.cl hi (by rw [chunks_congr ok.G.2 h])
theorem seats_mid {w : World} {base : Nat} {v : Value} {Ss : List (Nat → Nat)} (h : w.ownsRow base 114 28 v Ss.length (seatsR Ss)) (j : Nat) (hj : j < Ss.length) :
    ∃ g oc, v = .slice (some ⟨g, 0, none⟩) Ss.length oc ∧ Ss.length ≤ oc ∧ base ≤ g ∧ g < w.heap.size ∧ w.rangeAt g (j * 28) (seatC (Ss.getD j fun _ => 0)).toList := by
  have hl := flatR_len 28 (fun k => (seatC (Ss.getD k fun _ => 0)).toList) Ss.length fun i _ => seatC_len _
  rcases h.2 with ⟨_, h0⟩ | ⟨g, cap, cur, rfl, hb, hg, hnc, rest⟩
  · omega
  · refine ⟨g, cap, rfl, hnc, hb, (Array.getElem?_eq_some_iff.1 hg).1, fun k u hu => ?_⟩
    have hk : k < 28 := by
      have := (List.getElem?_eq_some_iff.1 hu).1
      rw [seatC_len] at this
      exact this
    have h1 := flatR_cells 28 (fun k => (seatC (Ss.getD k fun _ => 0)).toList) Ss.length (fun i _ => seatC_len _) j hj k u hu
    rw [h.cellAt (j * 28 + k) (by omega)]
    exact h1
set_option maxRecDepth 100000 in
set_option maxHeartbeats 4000000 in
theorem folC_impl (ta : Option Addr) (tn tc : Nat) (d : DrwD) (ok : DrwOk d) (i : Nat) (hiN : i < d.N) (n : Nat) (hn : n ≤ 90) (S : Nat → Nat) (p q : Nat) (w : World) (hs : SmallS S n) (hp : BoxN w p [.slice ta tn tc, .int .i64 d.G, .int .i64 d.most])
    (hq : BoxN w q [.int .i64 (d.cl i), .bool (epB d i), .bool (ecB d i)]) :
    Calls Try.prog 79 #[.agg (seatC S), .pointer (some ⟨p, 0, none⟩), .pointer (some ⟨q, 0, none⟩)] w (FolM w d S i n) := by
  obtain ⟨cs, hcs⟩ : ∃ cs, seatC S = cs := ⟨_, rfl⟩
  have hS : SeatA cs S := by rw [← hcs]; exact seatC_is S
  rw [hcs]
  clear hcs
  obtain ⟨W, hW⟩ : ∃ W, w.alloc (.cells cs 114) = W := ⟨_, rfl⟩
  have b1 : Below w.heap.size w W := by rw [← hW]; exact (Below.refl _ _).alloc (Nat.le_refl _) _
  have HWh : Hid (Whole W w.heap.size cs 114) := by rw [← hW]; exact Whole.made _ _ _
  have HSZ : Hid ((Try.prog.info? 114).map (·.size) = some cs.size) := by show _ = _; rw [hS.1]; exact seat_info
  have HP := Lib.hid (hp.below b1)
  have HQ := Lib.hid (hq.below b1)
  have HB := Lib.hid b1
  have CF := Lib.hid (follow_impl ta tn tc d ok i hiN n hn cs S W hS hs)
  clear hS hp hq b1 ok hs
  obtain ⟨cl, hcl⟩ : ∃ cl, d.cl i = cl := ⟨_, rfl⟩
  obtain ⟨ep, hep⟩ : ∃ ep, epB d i = ep := ⟨_, rfl⟩
  obtain ⟨ec, hec⟩ : ∃ ec, ecB d i = ec := ⟨_, rfl⟩
  rw [hcl, hep, hec] at HQ CF
  clear hcl hep hec
  have HW := Lib.hid hW
  clear hW
  go_enter Try.func79, Try.ntmps79
  go_upto_region 1 with fail
  rw [HW.out]
  clear HW
  have m0 := HP.out.2 0 _ rfl
  have m1 := HP.out.2 1 _ rfl
  have m2 := HP.out.2 2 _ rfl
  have n0 := HQ.out.2 0 _ rfl
  have n1 := HQ.out.2 1 _ rfl
  have n2 := HQ.out.2 2 _ rfl
  go_wp2_with (refine wpList_load_row rfl 114 (.tmp 3) rfl w.heap.size rfl 114 cs (0, 0) _ HWh.out Try.underlying114 rfl HSZ.out ?_)
  refine CF.out.mono ?_
  rintro e w1 ⟨v, Ss, rfl, ho, hl, hsm, hsum, bb⟩
  obtain ⟨oa, oc, rfl⟩ := owns_form ho
  have HO := Lib.hid ho
  have HSM := Lib.hid hsm
  have HSU := Lib.hid hsum
  have HB2 := Lib.hid (HB.out.trans (bb.mono HB.out.size))
  have hz := HB.out.size
  clear m0 m1 m2 n0 n1 n2 ho hsm hsum bb CF
  go_wp2
  go_ret
  exact ⟨_, Ss, rfl, owns_mono HO.out hz, hl, HSM.out, HSU.out, HB2.out⟩
end Go.Proofs.Ytmhkkdnopcdibaa
