/-
  Packed: SeatSort, DrwImplJ, SeatMap, SeatMap2, DrwImplK.
-/
import Derived.DeepKeys4
import Derived.WideKeyEntry
import Derived.Test.YtmhkkdnopcdibaaQ1
import Derived.Test.YtmhkkdnopcdibaaQ12
import Derived.Test.YtmhkkdnopcdibaaQ14
import Derived.Test.YtmhkkdnopcdibaaQ15
set_option linter.unusedVariables false
namespace Go.Proofs.Ytmhkkdnopcdibaa
open Go.RowKit Go.Sort Go.Shelf

theorem seat_len (n : Nat) (W : World) (h : n ≤ 12) : Calls Try.prog 101 #[.int .u64 n] W fun e w' => (∃ l : Int, e = .returned (.int .i64 l)) ∧ w' = W :=
  (Any.bits_Len Try.lenL n W (by omega) (by omega)).mono fun _ _ ⟨he, hw⟩ => ⟨⟨_, he⟩, hw⟩
def seatD (S : Nat → Nat) (G : Nat) : Array (Nat → Nat) := (Array.range G).map fun g => fun k => S (g * 7 + k)
theorem seatD_size (S : Nat → Nat) (G : Nat) : (seatD S G).size = G := by simp [seatD]
theorem seatE_at (x : Nat → Nat) (k : Nat) (hk : k < 7) : (seatE x)[k]! = .int .i8 (x k : Int) := by
  have : k = 0 ∨ k = 1 ∨ k = 2 ∨ k = 3 ∨ k = 4 ∨ k = 5 ∨ k = 6 := by omega
  rcases this with rfl | rfl | rfl | rfl | rfl | rfl | rfl <;> rfl
theorem seatD_at (S : Nat → Nat) (G g : Nat) (hg : g < G) : (seatD S G)[g]! = fun k => S (g * 7 + k) := by
  rw [getElem!_pos (seatD S G) g (by rw [seatD_size]; exact hg)]
  simp [seatD]
theorem flat_at (d : Array (Nat → Nat)) (t : Nat) (ht : t < d.size * 7) : (flatK seatE 7 d)[t]! = .int .i8 (d[t / 7]! (t % 7) : Int) := by
  rw [get_flatK seatE 7 d t ht, seatE_at _ _ (Nat.mod_lt _ (by omega))]
def srtS (S : Nat → Nat) (d : Array (Nat → Nat)) : Nat → Nat := fun j => if j < d.size * 7 then d[j / 7]! (j % 7) else S j
theorem perm_chunks {S : Nat → Nat} {G : Nat} {d : Array (Nat → Nat)} (hp : PermIn 0 G (seatD S G) d) : (chunks (srtS S d) G).Perm (chunks S G) := by
  have hs : d.size = G := by rw [hp.1, seatD_size]
  have h3 := hp.2.2
  have e1 : d.extract 0 G = d := by
    have h := @Array.extract_size _ d
    rw [hs] at h
    exact h
  have e2 : (seatD S G).extract 0 G = seatD S G := by
    have h := @Array.extract_size _ (seatD S G)
    rw [seatD_size] at h
    exact h
  rw [e1, e2] at h3
  have h4 := h3.map fun x : Nat → Nat => (List.range 7).map x
  have k1 : d.toList.map (fun x : Nat → Nat => (List.range 7).map x) = chunks (srtS S d) G := by
    apply List.ext_getElem?
    intro g
    by_cases hg : g < G
    · rw [chunks_at _ _ _ hg, List.getElem?_map, List.getElem?_eq_getElem (by simpa [hs] using hg)]
      unfold chk
      rw [Option.map_some]
      congr 1
      refine List.map_congr_left fun k hk => ?_
      have hk7 : k < 7 := List.mem_range.1 hk
      unfold srtS
      rw [if_pos (by rw [hs]; omega), show (g * 7 + k) / 7 = g by omega, show (g * 7 + k) % 7 = k by omega, getElem!_pos d g (by omega)]
      rw [Array.getElem_toList]
    · rw [List.getElem?_eq_none (by simp [hs]; omega), List.getElem?_eq_none (by unfold chunks; simp; omega)]
  have k2 : (seatD S G).toList.map (fun x : Nat → Nat => (List.range 7).map x) = chunks S G := by
    apply List.ext_getElem?
    intro g
    by_cases hg : g < G
    · rw [chunks_at _ _ _ hg, List.getElem?_map, List.getElem?_eq_getElem (by simp [seatD_size]; exact hg), Option.map_some, Array.getElem_toList]
      have h9 := seatD_at S G g hg
      rw [getElem!_pos (seatD S G) g (by rw [seatD_size]; exact hg)] at h9
      rw [h9]
      rfl
    · rw [List.getElem?_eq_none (by simp [seatD_size]; omega), List.getElem?_eq_none (by unfold chunks; simp; omega)]
  rw [← k1, ← k2]
  exact h4
theorem srt_whole {w : World} {B : Nat} {cs : Array Value} {S : Nat → Nat} {d : Array (Nat → Nat)} (hS : SeatA cs S) (hW : Whole w B cs 114) (hd : d.size ≤ 4) (n : Nat) (os : Array Obj) :
    ∃ cs', SeatA cs' (srtS S d) ∧ Whole (sortWorldK seatE 7 w B 0 n d os) B cs' 114 ∧ w.grownBy (sortWorldK seatE 7 w B 0 n d os) (some B) := by
  refine ⟨putCells id 0 (flatK seatE 7 d) cs, ⟨by simp [putCells, hS.1], fun j hj => ?_⟩, ?_, ?_⟩
  · have hj2 := hS.2 j hj
    have hsz : j < cs.size := by rw [hS.1]; exact hj
    rw [Array.getElem?_eq_getElem hsz] at hj2
    have hcj := Option.some.inj hj2
    unfold putCells
    rw [Array.getElem?_mapIdx, Array.getElem?_eq_getElem hsz, Option.map_some, hcj, size_flatK]
    unfold srtS
    by_cases h1 : j < d.size * 7
    · rw [if_pos ⟨Nat.zero_le _, by omega⟩, if_pos h1, Nat.sub_zero]
      show some ((flatK seatE 7 d)[j]!) = _
      rw [flat_at d j h1]
    · rw [if_neg (fun h9 => h1 (by omega)), if_neg h1]
  · have hg : B < w.heap.size := hW.lt
    show (grow (putRow id (Sort.ahead w n) B 0 (flatK seatE 7 d)) os).heap[B]? = _
    rw [heap_grow_old _ _ (by simpa using hg)]
    have hb : w.heap[B]? = some (.cells cs 114 (0, 0)) := hW
    simp [putRow, mapBlock, Sort.ahead, Array.getElem?_modify, hb, onCells]
  · refine ⟨rfl, rfl, rfl, by simp [sortWorldK, putRowK, grow, putRow, mapBlock, Sort.ahead], fun k hk hne => ?_⟩
    show (grow (putRow id (Sort.ahead w n) B 0 (flatK seatE 7 d)) os).heap[k]? = _
    rw [heap_grow_old _ _ (by simpa using hk)]
    have hBk : B ≠ k := fun e => hne (by rw [e])
    simp [putRow, mapBlock, Sort.ahead, Array.getElem?_modify, hBk]
theorem srt_small {S : Nat → Nat} {G : Nat} {d : Array (Nat → Nat)} (hp : PermIn 0 G (seatD S G) d) {n : Nat} (h : ∀ j, S j ≤ n) : ∀ j, srtS S d j ≤ n := fun j => by
  have hs : d.size = G := by rw [hp.1, seatD_size]
  have h3 := hp.2.2
  have e1 : d.extract 0 G = d := by
    have h := @Array.extract_size _ d
    rw [hs] at h
    exact h
  have e2 : (seatD S G).extract 0 G = seatD S G := by
    have h := @Array.extract_size _ (seatD S G)
    rw [seatD_size] at h
    exact h
  rw [e1, e2] at h3
  unfold srtS
  by_cases hj : j < d.size * 7
  · rw [if_pos hj]
    have hg : j / 7 < d.size := by omega
    have hm : d[j / 7]! ∈ (seatD S G).toList := by
      refine h3.subset ?_
      rw [getElem!_pos d (j / 7) hg]
      exact List.mem_of_getElem (Array.getElem_toList hg)
    obtain ⟨k, hk, e⟩ := List.getElem_of_mem hm
    have hk2 : k < G := by simpa [seatD_size] using hk
    have h9 := seatD_at S G k hk2
    rw [getElem!_pos (seatD S G) k (by rw [seatD_size]; exact hk2)] at h9
    rw [Array.getElem_toList, h9] at e
    rw [← e]
    exact h _
  · rw [if_neg hj]
    exact h j
def SrtM (w : World) (B : Nat) (S : Nat → Nat) (G : Nat) (w' : World) : Prop :=
  ∃ (cs' : Array Value) (S' : Nat → Nat), SeatA cs' S' ∧ (chunks S' G).Perm (chunks S G) ∧ (∀ n : Nat, (∀ j, S j ≤ n) → ∀ j, S' j ≤ n) ∧ Whole w' B cs' 114 ∧ w.grownBy w' (some B)
theorem sortSeats (B G : Nat) (cs : Array Value) (S : Nat → Nat) (w : World) (hS : SeatA cs S) (hW : Whole w B cs 114) (hG : G ≤ 4) :
    Calls Try.prog 92 #[.slice (some ⟨B, 0, none⟩) G 4, .func (.func 93) #[] #[]] w fun e w' => e = .returned (.tuple #[]) ∧ SrtM w B S G w' := by
  have eg : ∀ args w, (callFunc 93 args).run Try.prog w = .ok (.enter 93 args) w := enters_of Try.func93 (by kernel_rfl) rfl
  have hcmp : CmpLays Try.prog 93 #[] seatE 7 seatCf B 0 (seatD S G).size w := fun q os dk hdk x y => compareSeatings_any x y _
  have hH : HoldsK seatE 7 w B 0 (seatD S G) := by
    intro j hj
    have hj2 : j < G * 7 := by rw [size_flatK, seatD_size] at hj; exact hj
    rw [Nat.zero_add, flat_at _ j (by rw [seatD_size]; exact hj2), seatD_at S G (j / 7) (by omega)]
    refine ⟨?_, hW.free j⟩
    rw [hW.cell (hS.2 j (by omega))]
    simp only [id]
    rw [show j / 7 * 7 + j % 7 = j by omega]
  have h := AnyQ.slices_SortFunc_small_sorted Try.sortKL 7 Try.isAgg112 Try.sizeOf112 seatE (fun _ => rfl) (fun x v hv => by simp [seatE] at hv; rcases hv with rfl | rfl | rfl | rfl | rfl | rfl | rfl <;> rfl) seatCf 93 #[] seatSwo B 0 4 (seatD S G) w eg hcmp hH hW.lt (by rw [seatD_size]; omega) seat_len
  change Calls Try.prog 92 _ _ _ at h
  rw [seatD_size] at h
  refine h.mono ?_
  rintro e w' ⟨he, d', n, os, hp, _, rfl⟩
  have hs : d'.size = G := by rw [hp.1, seatD_size]
  obtain ⟨cs', h1, h2, h3⟩ := srt_whole hS hW (d := d') (by omega) n os
  refine ⟨he, cs', _, h1, perm_chunks hp, fun m hm => srt_small hp hm, h2, h3⟩
end Go.Proofs.Ytmhkkdnopcdibaa
set_option linter.unusedVariables false
namespace Go.Proofs.Ytmhkkdnopcdibaa
open Go.RowKit

def seatC (S : Nat → Nat) : Array Value := (Array.range 28).map fun j => .int .i8 (S j : Int)
theorem seatC_is (S : Nat → Nat) : SeatA (seatC S) S := ⟨by simp [seatC], fun j hj => by simp [seatC, hj]⟩
theorem SeatA.eqC {cs : Array Value} {S : Nat → Nat} (h : SeatA cs S) : cs = seatC S := h.eq (seatC_is S)
theorem seatC_len (S : Nat → Nat) : (seatC S).toList.length = 28 := by simp [seatC]
def seatsR (Ss : List (Nat → Nat)) : List Value := flatR (fun k => (seatC (Ss.getD k fun _ => 0)).toList) Ss.length
theorem seatsR_push (Ss : List (Nat → Nat)) (S : Nat → Nat) : seatsR (Ss ++ [S]) = seatsR Ss ++ (seatC S).toList := by
  unfold seatsR flatR
  rw [List.length_append, List.length_singleton, List.range_succ, List.flatMap_append]
  congr 1
  · rw [List.flatMap_def, List.flatMap_def]
    congr 1
    refine List.map_congr_left fun k hk => ?_
    have hk2 : k < Ss.length := List.mem_range.1 hk
    rw [List.getD_eq_getElem?_getD, List.getD_eq_getElem?_getD, List.getElem?_append_left hk2]
  · simp
theorem Try.infoSeats : (Try.prog.info? 114).map (fun i => (i.zero, i.size, i.bytes)) = some (some (.agg zeroSeat), 28, 28) := by kernel_rfl
theorem wpList_pushA {P : Program} {w : World} {ops : Array Oper} {rest : List Oper} {o : Oper} {a : Act} {Q : Exit → Act → World → Prop} (hgd : o.guard = none) (s x : Operand) (t : TypeId)
    (ho : o.op = .call { callee := .builtin .append, args := #[s, x], argTypes := #[t, t] })
    (base : Nat) (e : TypeId) {i : TypeInfo} {z : Value} {size bytes : Nat} (ht : P.underlying t = some (.slice e)) (hi : P.info? e = some i) (hz : i.zero = some z)
    (hsize : i.size = size) (hby : i.bytes = bytes) (hzs : z.cells.size = size) (hsz : 0 < size)
    (cs : Array Value) (hcs : cs.size = size) (h1 : cs.all (·.oneCell') = true)
    {v : Value} {n : Nat} {xs : List Value} (hs : a.eval s = v) (hx : a.eval x = .slice (some ⟨w.heap.size, 0, none⟩) 1 1) (hown : w.ownsRow base e size v n xs)
    (h63 : n + 1 ≤ maxLen) (hbytes : (n + 1) * bytes ≤ 140737488355328) (hbase : base ≤ w.heap.size)
    (h : ∀ g cap w', w'.ownsRow base e size (.slice (some ⟨g, 0, none⟩) (n + 1) cap) (n + 1) (xs ++ cs.toList) → w.grownBy w' v.ownBlock → (v.ownBlock = some g ∨ w.heap.size ≤ g) → g < w'.heap.size →
      wpList P ops Q rest (a.put o.dst (.slice (some ⟨g, 0, none⟩) (n + 1) cap)) w') : wpList P ops Q (o :: rest) a (w.alloc (.cells cs e)) := by
  have h9 := wpList_pushL (w := w) (Q := Q) (rest := rest) (ops := ops) hgd s x t ho base e ht hi hz hsize hby hzs hsz cs.toList (by simpa using hcs) (fun u hu => by
    have h2 := Array.all_eq_true_iff_forall_mem.1 h1 u (by simpa using hu)
    exact h2) hs hx hown h63 hbytes hbase h
  rwa [Array.toArray_toList] at h9
theorem zF_succ (d : DrwD) (f : Nat) (S : Nat → Nat) (i : Nat) : zF d (f + 1) S i = if i = d.N then 1 else sumNN (fun g => if fitS d S i g = true then zF d f (nxtSe d S i g) (i + 1) else 0) d.G := rfl
theorem own_apart {v : Value} {X D : Nat} (h : ∀ q, v.ownBlock = some q → X ≤ q ∧ q < D) : v.ownBlock = none ∨ v.ownBlock ≠ some D := by
  cases hob : v.ownBlock with
  | none => exact .inl rfl
  | some q =>
    right
    intro e
    have h1 := h q hob
    simp only [Option.some.injEq] at e
    omega
theorem fill_list : ∀ (l : List Value) (k : Nat) (a : Array Value) (j : Nat), k + l.length ≤ a.size → ((l.zipIdx k).foldl (fun (cs : Array Value) (x : Value × Nat) => cs.setIfInBounds x.2 x.1) a)[j]? = if k ≤ j ∧ j < k + l.length then l[j - k]? else a[j]?
  | [], k, a, j, h => by
    rw [if_neg (fun h9 => by have := h9.2; simp at this; omega)]
    rfl
  | v :: l, k, a, j, h => by
    rw [List.zipIdx_cons, List.foldl_cons, fill_list l (k + 1) _ j (by simp at h ⊢; omega)]
    have hl : (v :: l).length = l.length + 1 := rfl
    by_cases h1 : k + 1 ≤ j ∧ j < k + 1 + l.length
    · rw [if_pos h1, if_pos (by omega), show j - k = (j - (k + 1)) + 1 by omega, List.getElem?_cons_succ]
    · rw [if_neg h1, Array.getElem?_setIfInBounds]
      by_cases h2 : k = j
      · subst h2
        rw [if_pos rfl, if_pos (by omega), if_pos (by omega), Nat.sub_self]
        rfl
      · rw [if_neg h2, if_neg (by omega)]
theorem fill_all (z cs : Array Value) (h : z.size = cs.size) : Array.foldl (fun cs x => cs.setIfInBounds x.snd x.fst) z cs.zipIdx 0 cs.size = cs := by
  have e : Array.foldl (fun (cs : Array Value) (x : Value × Nat) => cs.setIfInBounds x.snd x.fst) z cs.zipIdx 0 cs.size = (cs.toList.zipIdx 0).foldl (fun (cs : Array Value) (x : Value × Nat) => cs.setIfInBounds x.2 x.1) z := by
    have e1 : cs.size = cs.zipIdx.size := by simp
    rw [e1, ← Array.foldl_toList, Array.toList_zipIdx]
  rw [e]
  apply Array.ext_getElem?
  intro j
  rw [fill_list cs.toList 0 z j (by simp [h])]
  by_cases hj : j < cs.size
  · rw [if_pos ⟨Nat.zero_le _, by simpa using hj⟩, Nat.sub_zero, Array.getElem?_toList]
  · rw [if_neg (fun h9 => hj (by simpa using h9.2)), Array.getElem?_eq_none (by omega), Array.getElem?_eq_none (by omega)]
def FolM (w : World) (d : DrwD) (S : Nat → Nat) (i n : Nat) (e : Ending) (w' : World) : Prop :=
  ∃ (v : Value) (Ss : List (Nat → Nat)), e = .returned v ∧ w'.ownsRow w.heap.size 114 28 v Ss.length (seatsR Ss) ∧ Ss.length ≤ 4 ∧ (∀ S' ∈ Ss, SmallS S' (n + 1)) ∧
    (∀ f, i + 1 + f = d.N → (Ss.map fun S' => zF d f S' (i + 1)).sum = zF d (f + 1) S i) ∧ Below w.heap.size w w'
structure FoW (w W : World) (tv : Value) (d : DrwD) (cs : Array Value) (c : Nat) (ep ec : Bool) : Prop where
  bx : BoxN W w.heap.size [tv, .int .i64 d.G, .int .i64 d.most]
  s : Whole W (w.heap.size + 1) cs 114
  t : BoxN W (w.heap.size + 1 + 1) [.int .i64 c, .bool ep, .bool ec]
  b : Below w.heap.size w W
theorem FoW.keep {w W W' : World} {tv : Value} {d : DrwD} {cs : Array Value} {c : Nat} {ep ec : Bool} (h : FoW w W tv d cs c ep ec) (b : Below W.heap.size W W') : FoW w W' tv d cs c ep ec :=
  ⟨h.bx.below b, h.s.below b, h.t.below b, h.b.trans (b.mono h.b.size)⟩
theorem FoW.grown {w W W' : World} {tv : Value} {d : DrwD} {cs : Array Value} {c : Nat} {ep ec : Bool} {row : Option Nat} (h : FoW w W tv d cs c ep ec) (hg : W.grownBy W' row) (hr : ∀ q, row = some q → w.heap.size + 1 + 1 < q) : FoW w W' tv d cs c ep ec :=
  ⟨h.bx.grown hg (fun e => by have := hr _ e; omega), h.s.grown hg (fun e => by have := hr _ e; omega), h.t.grown hg (fun e => by have := hr _ e; omega), h.b.grown hg h.b.size fun q hq => by have := hr q hq; omega⟩
theorem fo_made (w : World) (tv : Value) (d : DrwD) (cs : Array Value) (c : Nat) (ep ec : Bool) :
    FoW w (((w.alloc (.cells #[tv, .int .i64 d.G, .int .i64 d.most] 61)).alloc (.cells cs 114)).alloc (.cells #[.int .i64 c, .bool ep, .bool ec] 108)) tv d cs c ep ec := by
  have b : ∀ (u : World) (o : Obj), Below u.heap.size u (u.alloc o) := fun u o => (Below.refl _ _).alloc (Nat.le_refl _) _
  have w1 := Whole.made (w.alloc (.cells #[tv, .int .i64 d.G, .int .i64 d.most] 61)) cs 114
  have w2 : BoxN (((w.alloc (.cells #[tv, .int .i64 d.G, .int .i64 d.most] 61)).alloc (.cells cs 114)).alloc (.cells #[.int .i64 c, .bool ep, .bool ec] 108)) (w.heap.size + 1 + 1) [.int .i64 c, .bool ep, .bool ec] := BoxN.made (Below.refl _ _) (by simp)
  have w0 : BoxN (w.alloc (.cells #[tv, .int .i64 d.G, .int .i64 d.most] 61)) w.heap.size [tv, .int .i64 d.G, .int .i64 d.most] := BoxN.made (Below.refl _ _) rfl
  simp only [World.size_alloc] at w1
  exact ⟨(w0.below (b _ _)).below (b _ _), w1.below (b _ _), w2, (((Below.refl w.heap.size w).alloc (Nat.le_refl _) _).alloc (by simp) _).alloc (by simp; omega) _⟩
set_option maxRecDepth 100000 in
set_option maxHeartbeats 8000000 in
theorem follow_impl (ta : Option Addr) (tn tc : Nat) (d : DrwD) (ok : DrwOk d) (i : Nat) (hiN : i < d.N) (n : Nat) (hn : n ≤ 90) (cs : Array Value) (S : Nat → Nat) (w : World) (hS : SeatA cs S) (hs : SmallS S n) :
    Calls Try.prog 80 #[.agg #[.slice ta tn tc, .int .i64 d.G, .int .i64 d.most], .agg cs, .agg #[.int .i64 (d.cl i), .bool (epB d i), .bool (ecB d i)]] w (FolM w d S i n) := by
  obtain ⟨i0, hi, hz0, hz1, hz2⟩ := info_parts Try.infoSeats
  obtain ⟨W, hW⟩ : ∃ W, ((w.alloc (.cells #[.slice ta tn tc, .int .i64 d.G, .int .i64 d.most] 61)).alloc (.cells cs 114)).alloc (.cells #[.int .i64 (d.cl i), .bool (epB d i), .bool (ecB d i)] 108) = W := ⟨_, rfl⟩
  have HF : Hid (FoW w W (.slice ta tn tc) d cs (d.cl i) (epB d i) (ecB d i)) := by rw [← hW]; exact fo_made w _ d cs _ _ _
  have HW := Lib.hid hW
  have HOK := Lib.hid ok
  have HSE := Lib.hid hS
  have HSM := Lib.hid hs
  have HSZ : Hid ((Try.prog.info? 114).map (·.size) = some cs.size) := by show _ = _; rw [hS.1]; exact seat_info
  have hG4 := ok.G
  have CA : Hid (∀ (g : Nat) (wa : World), Calls Try.prog 91 #[.agg #[.slice ta tn tc, .int .i64 d.G, .int .i64 d.most], .agg cs, .agg #[.int .i64 (d.cl i), .bool (epB d i), .bool (ecB d i)], .int .i64 g] wa (AftM d S i g wa)) := fun g wa => after_any ta tn tc d ok i hiN g cs S wa hS fun j => Nat.le_trans (hs j) (by omega)
  have HZP : Hid (∀ (f : Nat) (S1 S2 : Nat → Nat), i + 1 + f = d.N → (chunks S1 d.G).Perm (chunks S2 d.G) → zF d f S1 (i + 1) = zF d f S2 (i + 1)) := fun f S1 S2 hf hp => zF_perm ok.cl hf hp
  clear hW ok hS hs
  obtain ⟨cl, hcl⟩ : ∃ cl, d.cl i = cl := ⟨_, rfl⟩
  obtain ⟨ep, hep⟩ : ∃ ep, epB d i = ep := ⟨_, rfl⟩
  obtain ⟨ec, hec⟩ : ∃ ec, ecB d i = ec := ⟨_, rfl⟩
  rw [hcl, hep, hec] at HF HW CA
  rw [hcl, hep, hec]
  clear hcl hep hec
  go_enter Try.func80, Try.ntmps80
  go_upto_region 1 with fail
  rw [HW.out]
  clear HW
  have c1 := HF.out.bx.2 1 _ rfl
  have z1 := HF.out.bx.1
  go_wp2_with (at_make; refine wpList_make_own _ rfl _ _ 119 rfl W.heap.size 114 i0 (.agg zeroSeat) 28 Try.underlying119 hi hz0 hz1 .i64 .i64 4 4 rfl rfl rfl (by rw [hz2]; decide) (by unfold maxLen; decide) (Nat.le_refl _) ?_; intro w2 hown hg2; have HF2 := Lib.hid (HF.out.grown hg2 (fun q hq => by cases hq)); have HO2 := Lib.hid hown; have c1' := HF2.out.bx.2 1 _ rfl; have z1' := HF2.out.bx.1; have hz2' := hg2.size; clear hown hg2)
  have hWz : w.heap.size + 1 + 1 < W.heap.size := HF.out.t.1
  clear c1 c1' z1 z1' HF
  generalize W.heap.size = X at *
  obtain ⟨G, hG⟩ : ∃ G, d.G = G := ⟨_, rfl⟩
  have HG := Lib.hid hG
  rw [hG] at hG4 ⊢
  have HSN : Hid (∀ f, i + 1 + f = d.N → zF d (f + 1) S i = sumNN (fun g => if fitS d S i g = true then zF d f (nxtSe d S i g) (i + 1) else 0) G) := fun f hf => by show zF d (f + 1) S i = _; rw [zF_succ, if_neg (by omega), hG]
  clear hG
  go_loopw [7, 14] (fun lv iv wr => ∃ (g : Nat) (v : Value) (Ss : List (Nat → Nat)), g ≤ G ∧ iv = .int .i64 g ∧ lv = v ∧ Hid (wr.ownsRow X 114 28 v Ss.length (seatsR Ss)) ∧ Ss.length ≤ g ∧ Hid (∀ S' ∈ Ss, SmallS S' (n + 1)) ∧ Hid (∀ f, i + 1 + f = d.N → (Ss.map fun S' => zF d f S' (i + 1)).sum = sumNN (fun g => if fitS d S i g = true then zF d f (nxtSe d S i g) (i + 1) else 0) g) ∧ Hid (FoW w wr (.slice ta tn tc) d cs cl ep ec) ∧ X ≤ wr.heap.size) (fun _ iv _ => G - (RowKit.intOf iv).toNat)
  case atStart => exact ⟨0, _, [], Nat.zero_le _, rfl, rfl, HO2, Nat.le_refl _, (fun S' h => by cases h), (fun f _ => rfl), HF2, hz2'⟩
  case round =>
    clear HO2 HF2 hz2'
    obtain ⟨g, v, Ss, hg9, rfl, rfl, HO, hl9, HSL, HSU, HF, hXr⟩ := hrel
    obtain ⟨oa, oc, hof⟩ := owns_form HO.out
    subst hof
    by_cases hlt : g < G
    · have hj1 : (g : Int) < (G : Int) := by omega
      have m0 := HF.out.bx.2 0 _ rfl
      have m1 := HF.out.bx.2 1 _ rfl
      have m2 := HF.out.bx.2 2 _ rfl
      have n0 := HF.out.t.2 0 _ rfl
      have n1 := HF.out.t.2 1 _ rfl
      have n2 := HF.out.t.2 2 _ rfl
      have z0 := HF.out.bx.1
      have z1 := HF.out.s.lt
      have z2 := HF.out.t.1
      have CA1 := Lib.hid (CA.out g wr)
      go_wp2_with (refine wpList_load_row rfl 114 (.tmp 4) rfl (w.heap.size + 1) rfl 114 cs (0, 0) _ HF.out.s Try.underlying114 rfl HSZ.out ?_)
      refine CA1.out.mono ?_
      rintro e w3 ⟨cs1, S1, b, rfl, hs1, hy, hno, bb⟩
      have HF3 := Lib.hid (HF.out.keep bb)
      have HO3 := Lib.hid (owns_below HO.out bb (Nat.le_refl _))
      have HS1 := Lib.hid hs1
      have HY := Lib.hid hy
      have HN := Lib.hid hno
      have HSZ1 : Hid ((Try.prog.info? 114).map (·.size) = some cs1.size) := by show _ = _; rw [hs1.1]; exact seat_info
      have HSE1 : Hid (zeroSeat.size = cs1.size) := by show _ = _; rw [hs1.1]; rfl
      have HAL1 : Hid (cs1.all (·.oneCell') = true) := hs1.all
      have HZ : Hid (Whole (w3.alloc (.cells zeroSeat 114)) w3.heap.size zeroSeat 114) := Whole.made _ _ _
      obtain ⟨w4, hw4⟩ : ∃ w4, (w3.alloc (.cells zeroSeat 114)).setRow w3.heap.size cs1 = w4 := ⟨_, rfl⟩
      have b4 : Below w3.heap.size w3 w4 := by rw [← hw4]; exact below_setRow ((Below.refl _ _).alloc (Nat.le_refl _) _) (Nat.le_refl _)
      have HF4 := Lib.hid (HF3.out.keep b4)
      have HO4 := Lib.hid (owns_below HO3.out b4 (Nat.le_refl _))
      have HW4 : Hid (Whole w4 w3.heap.size cs1 114) := by rw [← hw4]; exact HZ.out.setRow
      simp only [zeroSeat] at hw4
      have HWE := Lib.hid hw4
      have hX3 : X ≤ w3.heap.size := Nat.le_trans hXr bb.size
      have hX4 : w3.heap.size ≤ w4.heap.size := b4.size
      have HLD : Hid (∀ q, (Value.slice oa Ss.length oc).ownBlock = some q → X ≤ q ∧ q < w3.heap.size) := fun q hq => HO3.out.lt q hq
      clear hXr
      clear m0 m1 m2 n0 n1 n2 z0 z1 z2 hs1 hy hno bb CA1 HF HO hw4 b4
      go_upto_region 6 with (refine wpList_store_row rfl 114 (.tmp 9) (.tmp 23) rfl w3.heap.size cs1 rfl rfl 114 zeroSeat HZ.out HSZ1.out HSE1.out HAL1.out ?_)
      rw [HWE.out]
      clear HWE HZ HSE1 HF3 HO3
      generalize w3.heap.size = D at *
      cases b with
      | false =>
        have HSUN : Hid (∀ f, i + 1 + f = d.N → (Ss.map fun S' => zF d f S' (i + 1)).sum = sumNN (fun g => if fitS d S i g = true then zF d f (nxtSe d S i g) (i + 1) else 0) (g + 1)) := fun f hf => by
          rw [HSU.out f hf]
          show _ = _ + (if fitS d S i g = true then _ else 0)
          rw [if_neg (fun h9 => HN.out rfl ⟨⟨by omega, by rw [HG.out]; omega⟩, by rw [Int.toNat_natCast]; exact h9⟩)]
          rfl
        go_wp2
        go_roundw
        case rel => exact ⟨g + 1, _, Ss, by omega, by go_num, rfl, HO4, by omega, HSL, HSUN, HF4, by omega⟩
        case measure => simp [RowKit.intOf]; omega
      | true =>
        obtain ⟨hfit, hS1⟩ := HY.out rfl
        rw [Int.toNat_natCast] at hfit hS1
        have CS := Lib.hid (sortSeats D G cs1 S1 w4 HS1.out HW4.out (by omega))
        have HSM1 : Hid (SmallS S1 (n + 1)) := by show SmallS S1 (n + 1); rw [hS1]; exact HSM.out.next
        have HFT := Lib.hid hfit.2
        have HS1E := Lib.hid hS1
        clear hfit hS1 HY HN
        have m1 := HF4.out.bx.2 1 _ rfl
        rw [HG.out] at m1
        have z0 := HF4.out.bx.1
        have hG4' : (G : Int) ≤ 4 := by omega
        go_wp2_with fail
        refine CS.out.mono ?_
        rintro e w5 ⟨rfl, cs5, S5, hs5, hp5, hsm5, hw5, hg5⟩
        have HF5 := Lib.hid (HF4.out.grown hg5 (fun q hq => by simp only [Option.some.injEq] at hq; omega))
        have HO5 := Lib.hid (HO4.out.kept hg5 (own_apart HLD.out))
        have HW5 := Lib.hid hw5
        have HS5 := Lib.hid hs5
        have HSZ5 : Hid ((Try.prog.info? 114).map (·.size) = some cs5.size) := by show _ = _; rw [hs5.1]; exact seat_info
        have HP5 : Hid (∀ f, i + 1 + f = d.N → zF d f S5 (i + 1) = zF d f (nxtSe d S i g) (i + 1)) := fun f hf => by
          rw [← HS1E.out]
          refine HZP.out f S5 S1 hf ?_
          rw [HG.out]
          exact hp5
        have HSM5 : Hid (SmallS S5 (n + 1)) := hsm5 _ HSM1.out
        have hz5 : X ≤ w5.heap.size := Nat.le_trans (by omega) hg5.size
        have hff := fill_all zeroSeat cs5 (by rw [hs5.1]; rfl)
        simp only [zeroSeat] at hff
        have hs28 : cs5.size = 28 := hs5.1
        rw [hs28] at hff
        clear hs5 hp5 hsm5 hw5 hg5 CS m1 z0 HF4 HO4 HW4 hX4
        go_wp2_with (first | (refine wpList_load_row rfl 114 (.tmp 9) rfl D rfl 114 cs5 (0, 0) _ HW5.out Try.underlying114 rfl HSZ5.out ?_) | (at_builtin; refine wpList_pushA rfl (.tmp 30) (.tmp 32) 119 rfl X 114 Try.underlying119 hi hz0 hz1 hz2 rfl (by decide) cs5 HS5.out.1 HS5.out.all rfl (by show Value.slice (some ⟨_, 0, none⟩) 1 1 = _; simp) HO5.out (by unfold maxLen; omega) (by omega) hz5 ?_; intro gg6 cc6 w6 o6 g6 at6 lt6; have O6 := Lib.hid o6; have HF6 := Lib.hid (HF5.out.grown g6 (fun q hq => by have := HLD.out q hq; omega)); have hz6 : X ≤ w6.heap.size := Nat.le_trans hz5 g6.size; clear o6 g6 at6 lt6))
        have HON : Hid (w6.ownsRow X 114 28 (.slice (some ⟨gg6, 0, none⟩) (Ss.length + 1) cc6) (Ss ++ [S5]).length (seatsR (Ss ++ [S5]))) := by
          rw [seatsR_push, List.length_append, List.length_singleton, ← HS5.out.eqC]
          exact O6.out
        have HSUN : Hid (∀ f, i + 1 + f = d.N → ((Ss ++ [S5]).map fun S' => zF d f S' (i + 1)).sum = sumNN (fun g => if fitS d S i g = true then zF d f (nxtSe d S i g) (i + 1) else 0) (g + 1)) := fun f hf => by
          rw [List.map_append, List.sum_append, HSU.out f hf]
          show _ + ([zF d f S5 (i + 1)]).sum = _ + (if fitS d S i g = true then _ else 0)
          rw [if_pos HFT.out, HP5.out f hf]
          simp
        have HSLN : Hid (∀ S' ∈ Ss ++ [S5], SmallS S' (n + 1)) := fun S' h => by
          rcases List.mem_append.1 h with h | h
          · exact HSL.out S' h
          · rw [List.mem_singleton] at h; rw [h]; exact HSM5.out
        have hln : (Ss ++ [S5]).length ≤ g + 1 := by rw [List.length_append, List.length_singleton]; omega
        clear O6 HP5 HSU HSL
        go_roundw
        case rel => exact ⟨g + 1, _, Ss ++ [S5], by omega, by go_num, rfl, HON, hln, HSLN, HSUN, HF6, hz6⟩
        case measure => simp [RowKit.intOf]; omega
    obtain rfl : g = G := by omega
    go_wp2
    go_ret
    exact ⟨_, Ss, rfl, owns_mono HO.out (by omega), by omega, HSL.out, fun f hf => by rw [HSU.out f hf, HSN.out f hf], HF.out.b⟩
end Go.Proofs.Ytmhkkdnopcdibaa
set_option linter.unusedVariables false
namespace Go.Proofs.Ytmhkkdnopcdibaa
open Go.RowKit Go.Maps Go.MapKept

theorem laidOutS : laidOutB Try.prog = true := by kernel_rfl
theorem kLawSeats : Go.WideMaps.KeyLaw Try.prog 114 :=
  deep_law_laid laidOutS (m := 5) (by omega) (of_decide_eq_true (by kernel_rfl)) (by kernel_rfl) (by kernel_rfl)
theorem kSeats : Keyed Try.prog 114 := Keyed.of_law kLawSeats
theorem keyTypeSeats : Try.prog.keyType 114 = true := by kernel_rfl
theorem cellsSeats : Try.prog.cellsOf 114 = 28 := by kernel_rfl
theorem cellsSeating : Try.prog.cellsOf 112 = 7 := by kernel_rfl
theorem cellsClubs : Try.prog.cellsOf 110 = 6 := by kernel_rfl
theorem cellsI8 : Try.prog.cellsOf 109 = 1 := by kernel_rfl
theorem typesSize4 : ∃ m, Try.prog.types.size = m + 4 := ⟨Try.prog.types.size - 4, by have : 4 ≤ Try.prog.types.size := of_decide_eq_true (by kernel_rfl); omega⟩
theorem keyI8 (m : Nat) (x : Nat) (h : x ≤ 127) : Try.prog.keyLits (m + 1) 109 [.int .i8 (x : Int)] = some [.int .i8 (x : Int)] := by
  have e1 : IntKind.i8.min = -128 := by decide
  have e2 : IntKind.i8.max = 127 := by decide
  have hw : (Lit.int .i8 (x : Int)).wf = true := by
    simp [Lit.wf, e1, e2]
    omega
  simp [Program.keyLits, Try.underlying109, hw]
theorem keyClubs (m : Nat) (f : Nat → Nat) (b : Nat) (h : ∀ j, f j ≤ 127) : ∃ ls, Try.prog.keyLits (m + 2) 110 ((List.range 6).map fun k => .int .i8 (f (b + k) : Int)) = some ls := by
  have k1 := fun x => keyI8 m (f x) (h x)
  unfold Program.keyLits
  simp [Try.underlying110, cellsClubs, cellsI8, List.range_succ, k1]
theorem keySeating (m : Nat) (f : Nat → Nat) (b : Nat) (h : ∀ j, f j ≤ 127) : ∃ ls, Try.prog.keyLits (m + 3) 112 ((List.range 7).map fun k => .int .i8 (f (b + k) : Int)) = some ls := by
  have k1 := fun x => keyI8 (m + 1) (f x) (h x)
  obtain ⟨ls, k2⟩ := keyClubs m f (b + 1) h
  simp [List.range_succ, Nat.add_assoc] at k2
  unfold Program.keyLits
  simp [Try.underlying112, cellsSeating, cellsClubs, cellsI8, List.range_succ, k1, k2]
theorem keySeats (S : Nat → Nat) (h : ∀ j, S j ≤ 127) : ∃ kl, keyOf Try.prog 114 (.agg (seatC S)) = some kl := by
  obtain ⟨m, hm⟩ := typesSize4
  unfold keyOf
  simp only [Try.underlying114, keyTypeSeats, Value.formed, cellsSeats, Value.cells]
  rw [hm]
  obtain ⟨l0, k0⟩ := keySeating (m + 1) S 0 h
  obtain ⟨l1, k1⟩ := keySeating (m + 1) S 7 h
  obtain ⟨l2, k2⟩ := keySeating (m + 1) S 14 h
  obtain ⟨l3, k3⟩ := keySeating (m + 1) S 21 h
  simp [List.range_succ] at k0 k1 k2 k3
  unfold Program.keyLits
  simp [seatC, Try.underlying114, cellsSeats, cellsSeating, List.range_succ, Array.range_succ, k0, k1, k2, k3]
@[irreducible] noncomputable def sk (S : Nat → Nat) : Lit := (keyOf Try.prog 114 (.agg (seatC S))).getD (.bool true)
theorem sk_key (S : Nat → Nat) (h : ∀ j, S j ≤ 127) : keyOf Try.prog 114 (.agg (seatC S)) = some (sk S) := by
  obtain ⟨kl, e⟩ := keySeats S h
  unfold sk
  rw [e]
  rfl
theorem sk_inj {S S' : Nat → Nat} (h : ∀ j, S j ≤ 127) (h' : ∀ j, S' j ≤ 127) (e : sk S = sk S') : seatC S = seatC S' := by
  have h1 := sk_key S h
  have h2 := sk_key S' h'
  rw [e] at h1
  have := kSeats.inj h1 h2
  simpa using this
theorem seatC_eq {S S' : Nat → Nat} (e : seatC S = seatC S') : ∀ j, j < 28 → S j = S' j := fun j hj => by
  have h1 := (seatC_is S).2 j hj
  rw [e, (seatC_is S').2 j hj] at h1
  simp only [Option.some.injEq, Value.int.injEq, true_and] at h1
  omega

def cntL (L : List ((Nat → Nat) × Nat)) (sk : (Nat → Nat) → Lit) (kl : Lit) : Nat := (L.map fun p => if (sk p.1).sameKey kl = true then p.2 else 0).sum
def sumL (g : (Nat → Nat) → Nat) (L : List ((Nat → Nat) × Nat)) : Nat := (L.map fun p => p.2 * g p.1).sum
noncomputable def restL (g : (Nat → Nat) → Nat) (left : Lit → Bool) (L : List ((Nat → Nat) × Nat)) : Nat := (L.map fun p => if left (sk p.1) = true then p.2 * g p.1 else 0).sum
theorem sumL_cons (g : (Nat → Nat) → Nat) (S : Nat → Nat) (n : Nat) (L : List ((Nat → Nat) × Nat)) : sumL g ((S, n) :: L) = n * g S + sumL g L := by simp [sumL]
theorem sk_lit (S : Nat → Nat) (h : ∀ j, S j ≤ 127) : WideAt.IsKeyLit (sk S) := by
  have h1 := sk_key S h
  generalize sk S = kl at *
  exact kSeats.key h1
theorem same_sk {S S' : Nat → Nat} (h : ∀ j, S j ≤ 127) (h' : ∀ j, S' j ≤ 127) : (sk S).sameKey (sk S') = true ↔ ∀ j, j < 28 → S j = S' j := by
  rw [WideAt.sameKey_iff (sk_lit S' h')]
  refine ⟨fun e => seatC_eq (sk_inj h h' e), fun e => ?_⟩
  have : seatC S = seatC S' := (SeatA.congr (seatC_is S) e).eq (seatC_is S')
  unfold sk
  rw [this]
theorem cnt_le (L : List ((Nat → Nat) × Nat)) (kl : Lit) : cntL L sk kl ≤ sumL (fun _ => 1) L := by
  induction L with
  | nil => exact Nat.le_refl _
  | cons p L ih =>
    have e1 : cntL (p :: L) sk kl = (if (sk p.1).sameKey kl = true then p.2 else 0) + cntL L sk kl := by simp [cntL]
    have e2 : sumL (fun _ => 1) (p :: L) = p.2 * 1 + sumL (fun _ => 1) L := by simp [sumL]
    rw [e1, e2]
    split <;> omega
theorem len_le {L : List ((Nat → Nat) × Nat)} (h : ∀ p ∈ L, 0 < p.2) : L.length ≤ sumL (fun _ => 1) L := by
  induction L with
  | nil => exact Nat.le_refl _
  | cons p L ih =>
    have e2 : sumL (fun _ => 1) (p :: L) = p.2 * 1 + sumL (fun _ => 1) L := by simp [sumL]
    have h1 := h p (by simp)
    have h2 := ih fun q hq => h q (List.mem_cons_of_mem _ hq)
    rw [e2, List.length_cons]
    omega
theorem rest_none (g : (Nat → Nat) → Nat) {left : Lit → Bool} (h : ∀ kl, left kl = false) (L : List ((Nat → Nat) × Nat)) : restL g left L = 0 := by
  induction L with
  | nil => rfl
  | cons p L ih =>
    have e2 : restL g left (p :: L) = (if left (sk p.1) = true then p.2 * g p.1 else 0) + restL g left L := by simp [restL]
    rw [e2, ih, h, if_neg (by decide)]
theorem rest_all (g : (Nat → Nat) → Nat) {left : Lit → Bool} {L : List ((Nat → Nat) × Nat)} (h : ∀ p ∈ L, left (sk p.1) = true) : restL g left L = sumL g L := by
  induction L with
  | nil => rfl
  | cons p L ih =>
    have e2 : restL g left (p :: L) = (if left (sk p.1) = true then p.2 * g p.1 else 0) + restL g left L := by simp [restL]
    have e3 : sumL g (p :: L) = p.2 * g p.1 + sumL g L := by simp [sumL]
    rw [e2, e3, ih fun q hq => h q (List.mem_cons_of_mem _ hq), if_pos (h p (by simp))]
theorem cnt_pos {L : List ((Nat → Nat) × Nat)} {p : (Nat → Nat) × Nat} (hp : p ∈ L) (h0 : 0 < p.2) (h : ∀ j, p.1 j ≤ 127) : 0 < cntL L sk (sk p.1) := by
  induction L with
  | nil => cases hp
  | cons q L ih =>
    have e1 : cntL (q :: L) sk (sk p.1) = (if (sk q.1).sameKey (sk p.1) = true then q.2 else 0) + cntL L sk (sk p.1) := by simp [cntL]
    rw [e1]
    rcases List.mem_cons.1 hp with rfl | hp
    · rw [if_pos ((same_sk h h).2 fun _ _ => rfl)]; omega
    · have := ih hp; omega
theorem cnt_mem {L : List ((Nat → Nat) × Nat)} {kl : Lit} (h : 0 < cntL L sk kl) : ∃ p ∈ L, (sk p.1).sameKey kl = true := by
  induction L with
  | nil => exact absurd h (by simp [cntL])
  | cons q L ih =>
    have e1 : cntL (q :: L) sk kl = (if (sk q.1).sameKey kl = true then q.2 else 0) + cntL L sk kl := by simp [cntL]
    rw [e1] at h
    by_cases hq : (sk q.1).sameKey kl = true
    · exact ⟨q, by simp, hq⟩
    · rw [if_neg hq] at h
      obtain ⟨p, h1, h2⟩ := ih (by omega)
      exact ⟨p, List.mem_cons_of_mem _ h1, h2⟩
theorem rest_strike (g : (Nat → Nat) → Nat) {left : Lit → Bool} {L : List ((Nat → Nat) × Nat)} {S : Nat → Nat} (hl : left (sk S) = true) (hS : ∀ j, S j ≤ 127) (hL : ∀ p ∈ L, ∀ j, p.1 j ≤ 127)
    (hg : ∀ p ∈ L, (∀ j, j < 28 → p.1 j = S j) → g p.1 = g S) : restL g left L = cntL L sk (sk S) * g S + restL g (fun z => left z && !z.sameKey (sk S)) L := by
  induction L with
  | nil => simp [restL, cntL]
  | cons q L ih =>
    have e1 : cntL (q :: L) sk (sk S) = (if (sk q.1).sameKey (sk S) = true then q.2 else 0) + cntL L sk (sk S) := by simp [cntL]
    have e2 : ∀ left : Lit → Bool, restL g left (q :: L) = (if left (sk q.1) = true then q.2 * g q.1 else 0) + restL g left L := fun left => by simp [restL]
    have ih' := ih (fun p hp => hL p (List.mem_cons_of_mem _ hp)) (fun p hp => hg p (List.mem_cons_of_mem _ hp))
    rw [e1, e2, e2, ih', Nat.add_mul]
    by_cases hq : (sk q.1).sameKey (sk S) = true
    · have h1 := (same_sk (hL q (by simp)) hS).1 hq
      have h2 : sk q.1 = sk S := (WideAt.sameKey_iff (sk_lit S hS)).1 hq
      rw [if_pos hq, hg q (by simp) h1, h2, if_pos hl, if_neg (by rw [WideAt.sameKey_self (sk_lit S hS)]; simp)]
      omega
    · rw [if_neg hq]
      have hq' : (sk q.1).sameKey (sk S) = false := by simpa using hq
      simp only [hq', Bool.not_false, Bool.and_true]
      omega
def TabAt (w : World) (b k : Nat) (L : List ((Nat → Nat) × Nat)) : Prop :=
  CountMap Try.prog w 114 3 b L.length (cntL L sk) ∧ ∀ p ∈ L, 0 < p.2 ∧ SmallS p.1 k
theorem TabAt.grown {w w' : World} {b k : Nat} {L : List ((Nat → Nat) × Nat)} {row : Option Nat} (h : TabAt w b k L) (hg : w.grownBy w' row) (hne : some b ≠ row) : TabAt w' b k L := ⟨h.1.grown hg hne, h.2⟩
theorem TabAt.lt {w : World} {b k : Nat} {L : List ((Nat → Nat) × Nat)} (h : TabAt w b k L) : b < w.heap.size := h.1.lt
theorem TabAt.touch {lo hi : Nat} {w w' : World} {b k : Nat} {L : List ((Nat → Nat) × Nat)} (h : TabAt w b k L) (t : Touch lo hi w w') (ho : b < lo ∨ hi ≤ b) : TabAt w' b k L := by
  obtain ⟨⟨D, ⟨es, clock, hb, h2⟩, h3⟩, h4⟩ := h
  exact ⟨⟨D, ⟨es, clock, (t.block b (Array.getElem?_eq_some_iff.1 hb).1 ho).trans hb, h2⟩, h3⟩, h4⟩
theorem TabAt.made (w : World) (k : Nat) : TabAt (w.alloc (.map #[] 0)) w.heap.size k [] :=
  ⟨CountMap.made w Try.prog _ _, fun p h => by cases h⟩
theorem zInt12 (w : World) : (zeroValue 3).run Try.prog w = .ok (.int .i64 0) w := by kernel_rfl
theorem small127 {S : Nat → Nat} {k : Nat} (h : SmallS S k) (hk : k ≤ 90) : ∀ j, S j ≤ 127 := fun j => Nat.le_trans (h j) (by omega)
theorem cnt_same {L : List ((Nat → Nat) × Nat)} {S : Nat → Nat} (n : Nat) (hS : ∀ j, S j ≤ 127) : cntL ((S, n) :: L) sk (sk S) = cntL L sk (sk S) + n := by
  have e1 : cntL ((S, n) :: L) sk (sk S) = (if (sk S).sameKey (sk S) = true then n else 0) + cntL L sk (sk S) := by simp [cntL]
  rw [e1, if_pos (WideAt.sameKey_self (sk_lit S hS))]
  omega
theorem cnt_other {L : List ((Nat → Nat) × Nat)} {S : Nat → Nat} (n : Nat) {kl : Lit} (e : kl ≠ sk S) : cntL ((S, n) :: L) sk kl = cntL L sk kl := by
  have e1 : cntL ((S, n) :: L) sk kl = (if (sk S).sameKey kl = true then n else 0) + cntL L sk kl := by simp [cntL]
  rw [e1, if_neg (fun h9 => e (WideAt.sameKey_eq h9).symm)]
  omega
theorem TabAt.look {w : World} {b k : Nat} {L : List ((Nat → Nat) × Nat)} {S : Nat → Nat} (h : TabAt w b k L) (hS : ∀ j, S j ≤ 127) :
    (Instr.lookup 117 (.map (some b)) (.agg (seatC S)) false).run Try.prog w = .ok (.int .i64 (cntL L sk (sk S))) w := by
  obtain ⟨⟨D, ho, _, hD⟩, _⟩ := h
  obtain ⟨v, ps, hrun, hv⟩ := ho.lookup kSeats Try.underlying117 (zInt12 w) (plainElem_int Try.underlying3 (by decide)) (sk_key S hS)
  obtain ⟨x, rfl, hx, _⟩ := plainElem_int_inv Try.underlying3 hv
  simp only [Prod.mk.injEq] at hx
  have := hD (sk S)
  rw [hx.1] at this
  simp only [DataW.lit.injEq, Lit.int.injEq, true_and] at this
  rw [hrun, this]
theorem TabAt.put {w : World} {b k : Nat} {L : List ((Nat → Nat) × Nat)} {S : Nat → Nat} {n : Nat} (h : TabAt w b k L) (hS : SmallS S k) (hk : k ≤ 90) (hn : 0 < n) (hm : cntL L sk (sk S) + n < 1000000000) (hl : L.length < 1000000000) :
    ∃ w', (Instr.mapUpdate 117 (.map (some b)) (.agg (seatC S)) (.int .i64 ((cntL L sk (sk S) + n : Nat) : Int))).run Try.prog w = .ok () w' ∧ TabAt w' b k ((S, n) :: L) ∧ w.mapTurned w' b := by
  obtain ⟨⟨D, ho, hh, hD⟩, hp⟩ := h
  have hS7 := small127 hS hk
  have hL7 : ∀ p ∈ L, ∀ j, p.1 j ≤ 127 := fun p h => small127 (hp p h).2 hk
  have hk1 := sk_key S hS7
  have hk2 := sk_lit S hS7
  obtain ⟨c, hc⟩ : ∃ c, cntL L sk (sk S) + n = c := ⟨_, rfl⟩
  have hcs := cnt_same (L := L) n hS7
  have hco := fun kl => cnt_other (L := L) (S := S) n (kl := kl)
  rw [hc] at hm hcs ⊢
  generalize sk S = sS at *
  obtain ⟨w', h1, h2, h3⟩ := ho.store kSeats Try.underlying117 (by unfold maxLen; omega) hk1 (plainElem_int (H := Unit) Try.underlying3 (WalkArith.wf_i64 (n := (c : Int)) (by omega)))
  refine ⟨w', h1, ⟨⟨_, h2, fun kl => ?_, fun kl => ?_⟩, fun p hp2 => ?_⟩, h3⟩
  · by_cases e : kl = sS
    · subst e
      rw [Maps.has_put_same ho.isMap hk2, hcs]
      exact ⟨fun _ => by omega, fun _ => rfl⟩
    · rw [Maps.has_put_other e, hco kl e]
      exact hh kl
  · by_cases e : kl = sS
    · subst e
      rw [atKey_put_same ho.isMap hk2, hcs]
    · rw [atKey_put_other e, hco kl e]
      exact hD kl
  · rcases List.mem_cons.1 hp2 with rfl | hp2
    · exact ⟨hn, hS⟩
    · exact hp p hp2
theorem TabAt.clear {w : World} {b k : Nat} {L : List ((Nat → Nat) × Nat)} (h : TabAt w b k L) (k' : Nat) (ty : TypeId) :
    ∃ w', (Builtin.clear_ #[117] ty #[.map (some b)]).run Try.prog w = .ok (.tuple #[]) w' ∧ TabAt w' b k' [] ∧ w.mapTurned w' b := by
  obtain ⟨⟨D, ⟨es, clock, hb, F, _⟩, _⟩, _⟩ := h
  refine ⟨Go.ChangeMaps.setBlock w b (.map #[] clock), ?_, ⟨⟨.map [], ⟨#[], clock, Go.ChangeMaps.heap_setBlock_same hb _, ⟨Nat.zero_le _, stamped_empty _, fun x hx => by simp at hx⟩, Nat.le_refl _, rfl⟩, fun kl => ⟨fun h => by simp [Maps.has_eq] at h, fun h => by simp [cntL] at h⟩, fun kl => rfl⟩, fun p hp => by cases hp⟩, ⟨es, clock, #[], clock, hb, rfl⟩⟩
  simp [Builtin.clear_, run_underlying Try.underlying117, MapKept.run_getObj_map hb, MapKept.run_setObj_map _ hb, Result.andThen, Go.ChangeMaps.setBlock]
end Go.Proofs.Ytmhkkdnopcdibaa
set_option linter.unusedVariables false
namespace Go.Proofs.Ytmhkkdnopcdibaa
open Go.RowKit Go.Maps Go.MapKept

theorem own_entry {P : Program} {w : World} {t k e : TypeId} {R : Value → Option (DataW Unit × List MemPlace)} {b n : Nat} {D : DataW Unit} (h : w.ownsMap P k R b n D) (K : Go.WideMaps.KeyLaw P k) (ht : P.underlying t = some (.map k e))
    {z : Value} (hz : ∀ u : World, (zeroValue e).run P u = .ok z u) {zd : DataW Unit} {zp : List MemPlace} (hzd : R z = some (zd, zp)) (hn : n < maxLen) {key : Value} {kl : Lit} (hkey : keyOf P k key = some kl) :
    ∃ (v0 : Value) (st : Nat) (w1 : World) (D1 : DataW Unit), (Instr.mapEntry t (.map (some b)) key).run P w = .ok (.tuple #[v0, goInt st]) w1 ∧ w.mapTurned w1 b ∧ w1.ownsMap P k R b (n + 1) D1 ∧ (∀ kl', D1.atKey kl' zd = D.atKey kl' zd) ∧
      ∀ (val : Value) (d : DataW Unit) (ps : List MemPlace), R val = some (d, ps) → ∃ w3, (Instr.entryStore t (.map (some b)) (goInt st) val).run P w1 = .ok () w3 ∧ w3.ownsMap P k R b (n + 1) (D.put kl d) ∧ w1.mapTurned w3 b := by
  have KK : Keyed P k := Keyed.of_law K
  obtain ⟨es, clock, hb, F, hs, hDe⟩ := h
  have h0 : w.ownsMap P k R b n D := ⟨es, clock, hb, F, hs, hDe⟩
  obtain ⟨v0, st, es1, clock1, hE, _, hS⟩ := Go.WideElems.entry_then_store K ht hz hb F hkey
  have hb1 : (Go.ChangeMaps.setBlock w b (.map es1 clock1)).heap[b]? = some (.map es1 clock1) := Go.ChangeMaps.heap_setBlock_same hb _
  have hD1 : ∃ D1, (Go.ChangeMaps.setBlock w b (.map es1 clock1)).ownsMap P k R b (n + 1) D1 ∧ ∀ kl', D1.atKey kl' zd = D.atKey kl' zd := by
    rcases K.find w hkey es.toList F.keys with ⟨h1, h2⟩ | ⟨j, e0, h1, h2, h3⟩
    · have hE2 := hE
      simp [Instr.mapEntry, run_underlying ht, MapKept.run_getObj_map hb, K.check w false hkey, h1, hz, MapKept.run_setObj_map _ hb, Result.andThen] at hE2
      obtain ⟨w', hm, ho, _⟩ := h0.store KK ht hn hkey hzd
      have hm2 := hm
      simp [Instr.mapUpdate, run_underlying ht, MapKept.run_getObj_map hb, K.check w false hkey, h1, MapKept.run_setObj_map _ hb, Result.andThen] at hm2
      have e1 : Go.ChangeMaps.setBlock w b (.map es1 clock1) = w' := by
        unfold Go.ChangeMaps.setBlock
        first
          | exact hE2.2.symm.trans hm2
          | (rw [← hm2]; exact hE2.2.symm)
          | (obtain ⟨_, hE3⟩ := hE2; rw [← hm2, ← hE3])
      have hno : Maps.has D kl = false := by
        obtain ⟨v, ps, hr, _⟩ := h0.look_ok KK ht (hz w) hzd hkey
        simp [Instr.lookup, run_underlying ht, MapKept.run_getObj_map hb, K.check w es.isEmpty hkey, h1, hz, Result.andThen] at hr
        exact hr.2
      refine ⟨D.put kl zd, e1 ▸ ho, fun kl' => ?_⟩
      by_cases e : kl' = kl
      · subst e
        rw [atKey_put_same h0.isMap (KK.key hkey), atKey_of_not_has hno]
      · rw [atKey_put_other e]
    · have hj : es[j]? = some e0 := by simpa using h2
      have hsame : es.modify j (fun e => { e with key := key }) = es := by
        apply Array.ext'
        rw [Array.toList_modify, Go.ChangeMaps.modify_eq_set _ _ _ _ h2]
        have : ({ e0 with key := key } : MapEntry) = e0 := by rw [← h3]
        rw [this]
        exact Go.WideElems.set_self _ _ _ h2
      have hE2 := hE
      simp [Instr.mapEntry, run_underlying ht, MapKept.run_getObj_map hb, K.check w false hkey, h1, hj, h3, K.stays w hkey, hsame, MapKept.run_setObj_map _ hb, Result.andThen] at hE2
      have e1 : Go.ChangeMaps.setBlock w b (.map es1 clock1) = Go.ChangeMaps.setBlock w b (.map es clock) := hE2.2.symm
      refine ⟨D, ?_, fun _ => rfl⟩
      rw [e1]
      exact ⟨es, clock, Go.ChangeMaps.heap_setBlock_same hb _, F, by omega, hDe⟩
  obtain ⟨D1, hD1, hat⟩ := hD1
  refine ⟨v0, st, _, D1, hE, ⟨es, clock, es1, clock1, hb, rfl⟩, hD1, hat, fun val d ps hv => ?_⟩
  obtain ⟨es', clock', hs1, hm⟩ := hS _ val hb1
  obtain ⟨w', hm', ho, _⟩ := h0.store KK ht hn hkey hv
  rw [hm] at hm'
  have e1 : Go.ChangeMaps.setBlock w b (.map es' clock') = w' := by simpa using hm'
  obtain ⟨es2, clock2, hb2, F2, hs2, hD2⟩ := ho
  rw [← e1, Go.ChangeMaps.heap_setBlock_same hb _] at hb2
  simp only [Option.some.injEq, Obj.map.injEq] at hb2
  obtain ⟨rfl, rfl⟩ := hb2
  exact ⟨_, hs1, ⟨_, _, Go.ChangeMaps.heap_setBlock_same hb1 _, F2, hs2, hD2⟩, ⟨es1, clock1, _, _, hb1, rfl⟩⟩
theorem TabAt.entry {w : World} {b k : Nat} {L : List ((Nat → Nat) × Nat)} {S : Nat → Nat} {n : Nat} (h : TabAt w b k L) (hS : SmallS S k) (hk : k ≤ 90) (hn : 0 < n) (hm : cntL L sk (sk S) + n < 1000000000) (hl : L.length < 1000000000) :
    ∃ (v0 : Value) (st : Nat) (w1 : World), (Instr.mapEntry 117 (.map (some b)) (.agg (seatC S))).run Try.prog w = .ok (.tuple #[v0, goInt st]) w1 ∧ w.mapTurned w1 b ∧
      (Instr.lookup 117 (.map (some b)) (.agg (seatC S)) false).run Try.prog w1 = .ok (.int .i64 (cntL L sk (sk S))) w1 ∧
      ∃ w3, (Instr.entryStore 117 (.map (some b)) (goInt st) (.int .i64 ((cntL L sk (sk S) + n : Nat) : Int))).run Try.prog w1 = .ok () w3 ∧ TabAt w3 b k ((S, n) :: L) ∧ w1.mapTurned w3 b := by
  obtain ⟨⟨D, ho, hh, hD⟩, hp⟩ := h
  have hS7 := small127 hS hk
  have hk1 := sk_key S hS7
  have hk2 := sk_lit S hS7
  obtain ⟨c, hc⟩ : ∃ c, cntL L sk (sk S) + n = c := ⟨_, rfl⟩
  have hcs := cnt_same (L := L) n hS7
  have hco := fun kl => cnt_other (L := L) (S := S) n (kl := kl)
  rw [hc] at hm hcs ⊢
  generalize sk S = sS at *
  obtain ⟨v0, st, w1, D1, hrun, ht1, ho1, hat1, hst⟩ := own_entry ho kLawSeats Try.underlying117 zInt12 (plainElem_int (H := Unit) Try.underlying3 (by decide)) (by unfold maxLen; omega) hk1
  obtain ⟨w3, hs3, h2, h3⟩ := hst _ _ _ (plainElem_int (H := Unit) Try.underlying3 (WalkArith.wf_i64 (n := (c : Int)) (by omega)))
  refine ⟨v0, st, w1, hrun, ht1, ?_, w3, hs3, ⟨⟨_, h2, fun kl => ?_, fun kl => ?_⟩, fun p hp2 => ?_⟩, h3⟩
  · obtain ⟨v, ps, hrun, hv⟩ := ho1.lookup kSeats Try.underlying117 (zInt12 w1) (plainElem_int Try.underlying3 (by decide)) hk1
    obtain ⟨x, rfl, hx, _⟩ := plainElem_int_inv Try.underlying3 hv
    simp only [Prod.mk.injEq] at hx
    have := hx.1
    rw [hat1, hD] at this
    simp only [DataW.lit.injEq, Lit.int.injEq, true_and] at this
    rw [hrun, this]
  · by_cases e : kl = sS
    · subst e
      rw [Maps.has_put_same ho.isMap hk2, hcs]
      exact ⟨fun _ => by omega, fun _ => rfl⟩
    · rw [Maps.has_put_other e, hco kl e]
      exact hh kl
  · by_cases e : kl = sS
    · subst e
      rw [atKey_put_same ho.isMap hk2, hcs]
    · rw [atKey_put_other e, hco kl e]
      exact hD kl
  · rcases List.mem_cons.1 hp2 with rfl | hp2
    · exact ⟨hn, hS⟩
    · exact hp p hp2
def RngAt (w : World) (b r k : Nat) (L : List ((Nat → Nat) × Nat)) (left : Lit → Bool) (cnt : Nat) : Prop :=
  CountRange Try.prog w 114 3 b r L.length (cntL L sk) left cnt ∧ (∀ kl, left kl = true → 0 < cntL L sk kl) ∧ ∀ p ∈ L, 0 < p.2 ∧ SmallS p.1 k
theorem RngAt.grown {w w' : World} {b r k : Nat} {L : List ((Nat → Nat) × Nat)} {left : Lit → Bool} {cnt : Nat} {row : Option Nat} (h : RngAt w b r k L left cnt) (hg : w.grownBy w' row) (hb : some b ≠ row) (hr : some r ≠ row) : RngAt w' b r k L left cnt := by
  obtain ⟨⟨D, ho, hD⟩, h2⟩ := h
  exact ⟨⟨D, ho.kept hg hb hr, hD⟩, h2⟩
theorem RngAt.left_eq {w : World} {b r k : Nat} {L : List ((Nat → Nat) × Nat)} {left : Lit → Bool} {cnt : Nat} (h : RngAt w b r k L left cnt) : w.rangeLeft b r = cnt := h.1.left_eq
theorem RngAt.lt {w : World} {b r k : Nat} {L : List ((Nat → Nat) × Nat)} {left : Lit → Bool} {cnt : Nat} (h : RngAt w b r k L left cnt) : r < w.heap.size := by
  obtain ⟨⟨D, ho, hD⟩, h2⟩ := h
  exact ho.lt
theorem wpList_seatRange {w : World} {ops : Array Oper} {rest : List Oper} {o : Oper} {a : Act} {Q : Exit → Act → World → Prop} (hg : o.guard = none) (m : Operand) (hop : o.op = Op.range 117 m) (b k : Nat) (L : List ((Nat → Nat) × Nat))
    (hm : a.eval m = .map (some b)) (h : TabAt w b k L) (hk : k ≤ 90)
    (hK : ∀ w' left cnt, (∀ p ∈ L, left (sk p.1) = true) → RngAt w' b w.heap.size k L left cnt → w.grownBy w' none → wpList Try.prog ops Q rest (a.put o.dst (.pointer (some ⟨w.heap.size, 0, none⟩))) w') :
    wpList Try.prog ops Q (o :: rest) a w := by
  refine wpList_countRange hg m _ hop _ _ kSeats Try.underlying117 b _ _ hm h.1 fun w' left cnt hl hr hg => hK w' left cnt ?_ ⟨hr, fun kl h9 => (hl kl).1 h9, h.2⟩ hg
  intro p hp
  exact (hl _).2 (cnt_pos hp (h.2 p hp).1 (small127 (h.2 p hp).2 hk))
theorem wpList_seatNext {w : World} {ops : Array Oper} {rest : List Oper} {o : Oper} {a : Act} {Q : Exit → Act → World → Prop} (hg : o.guard = none) (it : Operand) (hop : o.op = Op.next it false) (b r k : Nat) (L : List ((Nat → Nat) × Nat)) (left : Lit → Bool) (cnt : Nat)
    (hit : a.eval it = .pointer (some ⟨r, 0, none⟩)) (h : RngAt w b r k L left cnt) (hk : k ≤ 90)
    (hDone : (∀ kl, left kl = false) → wpList Try.prog ops Q rest (a.put o.dst (.tuple #[.bool false])) w)
    (hMore : ∀ (S : Nat → Nat) (w' : World) (cnt' : Nat), SmallS S k → 0 < cntL L sk (sk S) → left (sk S) = true → RngAt w' b r k L (fun z => left z && !z.sameKey (sk S)) cnt' → cnt' < cnt → w.grownBy w' (some r) →
      (Instr.entry (.pointer (some ⟨r, 0, none⟩))).run Try.prog w' = .ok (.tuple #[.agg (seatC S), .int .i64 (cntL L sk (sk S))]) w' →
      wpList Try.prog ops Q rest (a.put o.dst (.tuple #[.bool true, .agg (seatC S), .int .i64 (cntL L sk (sk S))])) w') :
    wpList Try.prog ops Q (o :: rest) a w := by
  obtain ⟨⟨D, ho, hD⟩, hl, hp⟩ := h
  refine wpList_next_ranges w hg it hop 114 kSeats (plainElem Try.prog 3) (fun v : Value => v) (Value.int .i64) (fun key kl _ => ⟨key, rfl⟩)
    (fun v y hv => by obtain ⟨c, rfl, _⟩ := plainElem_int_inv Try.underlying3 hv; exact ⟨c, rfl⟩) b r L.length D left cnt hit ho (fun _ h => hDone h) ?_
  intro key c kl y w' cnt' hkey hlk hv hat hrg hlt hgr _ hen
  obtain ⟨p, hpL, hpk⟩ := cnt_mem (hl kl hlk)
  have hkl : WideAt.IsKeyLit kl := kSeats.key hkey
  have e1 : sk p.1 = kl := WideAt.sameKey_eq hpk
  have hk1 := sk_key p.1 (small127 (hp p hpL).2 hk)
  rw [e1] at hk1
  have e2 : key = .agg (seatC p.1) := kSeats.inj hkey hk1
  obtain ⟨c', ec, hy, _⟩ := plainElem_int_inv Try.underlying3 hv
  cases ec
  have hc : c = (cntL L sk kl : Int) := by
    have h1 := hat (.lit (.int .i64 0))
    rw [hD kl, hy] at h1
    simpa using h1.symm
  subst hc
  rw [e2] at hen
  show wpList Try.prog ops Q rest (a.put o.dst (.tuple #[.bool true, key, .int .i64 (cntL L sk kl)])) w'
  rw [e2]
  have hpos := hl kl hlk
  have := hMore p.1 w' cnt' (hp p hpL).2
  rw [e1] at this
  exact this hpos hlk ⟨⟨D, hrg, hD⟩, fun kl' h9 => hl kl' (by simp only [Bool.and_eq_true] at h9; exact h9.1), hp⟩ hlt hgr hen
theorem sum_cntL {L : List ((Nat → Nat) × Nat)} (S : Nat → Nat) : cntL L sk (sk S) ≤ sumL (fun _ => 1) L := cnt_le L _
end Go.Proofs.Ytmhkkdnopcdibaa
set_option linter.unusedVariables false
namespace Go.Proofs.Ytmhkkdnopcdibaa
open Go.RowKit Go.Maps

theorem Touch.grownR {lo hi : Nat} {w wr w' : World} {row : Option Nat} (h : Touch lo hi w wr) (g : wr.grownBy w' row) (hr : ∀ q, row = some q → w.heap.size ≤ q ∨ (lo ≤ q ∧ q < hi)) : Touch lo hi w w' :=
  ⟨g.os.trans h.os, g.tape.trans h.tape, g.output.trans h.output, Nat.le_trans h.size g.size, fun k hk ho => (g.block k (Nat.lt_of_lt_of_le hk h.size) (fun e => by have := hr k e.symm; omega)).trans (h.block k hk ho)⟩
theorem wpList_load_midA {P : Program} {ops : Array Oper} {rest : List Oper} {op : Oper} {a : Act} {w : World} {Q : Exit → Act → World → Prop} (hgd : op.guard = none) (ty : TypeId) (x : Operand) (ho : op.op = .load ty x)
    (b o : Nat) (hx : a.eval x = .pointer (some ⟨b, o, none⟩)) (cs : Array Value) (d : TypeDesc) (hc : w.rangeAt b o cs.toList)
    (hu : P.underlying ty = some d) (hd : d.isRow = true) (hi : (P.info? ty).map (·.size) = some cs.size)
    (h : wpList P ops Q rest (a.put op.dst (.agg cs)) w) : wpList P ops Q (op :: rest) a w :=
  wpList_load_mid hgd ty x ho b o hx cs.toList d hc hu hd (by rw [hi, Array.length_toList]) (by rwa [Array.toArray_toList])
theorem wp_look {P : Program} {o : Oper} {a : Act} {w : World} {K : Act → World → Prop} {Q : Exit → Act → World → Prop} {t : TypeId} {x y : Operand} {m key v : Value} (ho : o.op = .lookup t x y false) (hx : a.eval x = m) (hy : a.eval y = key)
    (hrun : (Instr.lookup t m key false).run P w = .ok v w) (hK : K (a.put o.dst v) w) : Oper.wp P o a w K Q := by
  unfold Oper.wp
  simp [execOp, ho, hx, hy, hrun, Result.andThen]
  exact hK
theorem wp_entry {P : Program} {o : Oper} {a : Act} {w w' : World} {K : Act → World → Prop} {Q : Exit → Act → World → Prop} {t : TypeId} {x y : Operand} {m key v : Value} (ho : o.op = .mapEntry t x y) (hx : a.eval x = m) (hy : a.eval y = key)
    (hrun : (Instr.mapEntry t m key).run P w = .ok v w') (hK : K (a.put o.dst v) w') : Oper.wp P o a w K Q := by
  unfold Oper.wp
  simp [execOp, ho, hx, hy, hrun, Result.andThen]
  exact hK
theorem wp_entryStore {P : Program} {o : Oper} {a : Act} {w w' : World} {K : Act → World → Prop} {Q : Exit → Act → World → Prop} {t : TypeId} {x y z : Operand} {m s v : Value} (ho : o.op = .entryStore t x y z) (hx : a.eval x = m) (hy : a.eval y = s) (hz : a.eval z = v)
    (hrun : (Instr.entryStore t m s v).run P w = .ok () w') (hK : K (a.put o.dst undef) w') : Oper.wp P o a w K Q := by
  unfold Oper.wp
  simp [execOp, ho, hx, hy, hz, hrun, Result.andThen]
  exact hK
theorem RngAt.clear {w : World} {b r k : Nat} {L : List ((Nat → Nat) × Nat)} {left : Lit → Bool} {cnt : Nat} (h : RngAt w b r k L left cnt) (k' : Nat) (ty : TypeId) :
    ∃ w', (Builtin.clear_ #[117] ty #[.map (some b)]).run Try.prog w = .ok (.tuple #[]) w' ∧ TabAt w' b k' [] ∧ w.mapTurned w' b := by
  obtain ⟨⟨D, ho, _⟩, _⟩ := h
  obtain ⟨es, clock, hb, F, _⟩ := ho.owns
  refine ⟨Go.ChangeMaps.setBlock w b (.map #[] clock), ?_, ⟨⟨.map [], ⟨#[], clock, Go.ChangeMaps.heap_setBlock_same hb _, ⟨Nat.zero_le _, Go.MapKept.stamped_empty _, fun x hx => by simp at hx⟩, Nat.le_refl _, rfl⟩, fun kl => ⟨fun h => by simp [Maps.has_eq] at h, fun h => by simp [cntL] at h⟩, fun kl => rfl⟩, fun p hp => by cases hp⟩, ⟨es, clock, #[], clock, hb, rfl⟩⟩
  simp [Builtin.clear_, run_underlying Try.underlying117, Go.MapKept.run_getObj_map hb, Go.MapKept.run_setObj_map _ hb, Result.andThen, Go.ChangeMaps.setBlock]
theorem wpList_seatClear {w : World} {ops : Array Oper} {rest : List Oper} {o : Oper} {a : Act} {Q : Exit → Act → World → Prop} (hg : o.guard = none) (m : Operand) (hop : o.op = Op.call { callee := Callee.builtin Builtin.clear, args := #[m], argTypes := #[117] })
    (b r k k' : Nat) (L : List ((Nat → Nat) × Nat)) (left : Lit → Bool) (cnt : Nat) (hm : a.eval m = .map (some b)) (h : RngAt w b r k L left cnt)
    (hK : ∀ w', TabAt w' b k' [] → w.mapTurned w' b → wpList Try.prog ops Q rest (a.put o.dst (.tuple #[])) w') :
    wpList Try.prog ops Q (o :: rest) a w := by
  refine wpList_plain hg fun K' hK' => ?_
  obtain ⟨w', hrun, r1, r2⟩ := h.clear k' o.type
  unfold Oper.wp
  simp [execOp, hop, resolve, invoke, builtin, hm, hrun, Result.andThen]
  exact hK' _ _ (hK w' r1 r2)
theorem zF_cells {d : DrwD} (ok : DrwOk d) {f i : Nat} {S S' : Nat → Nat} (hi : i + f = d.N) (h : ∀ j, j < 28 → S j = S' j) : zF d f S i = zF d f S' i :=
  zF_perm ok.cl hi (by rw [chunks_congr ok.G.2 h])
theorem seats_mid {w : World} {base : Nat} {v : Value} {Ss : List (Nat → Nat)} (h : w.ownsRow base 114 28 v Ss.length (seatsR Ss)) (j : Nat) (hj : j < Ss.length) :
    ∃ g oc, v = .slice (some ⟨g, 0, none⟩) Ss.length oc ∧ Ss.length ≤ oc ∧ base ≤ g ∧ g < w.heap.size ∧ w.rangeAt g (j * 28) (seatC (Ss.getD j fun _ => 0)).toList := by
  have hl := flatR_len 28 (fun k => (seatC (Ss.getD k fun _ => 0)).toList) Ss.length fun i _ => seatC_len _
  rcases h.2 with ⟨_, h0⟩ | ⟨g, cap, cur, rfl, hb, hg, hnc, rest⟩
  · omega
  · refine ⟨g, cap, rfl, hnc, hb, (Array.getElem?_eq_some_iff.1 hg).1, fun k u hu => ?_⟩
    have hk : k < 28 := by
      have := (List.getElem?_eq_some_iff.1 hu).1
      rw [seatC_len] at this
      exact this
    have h1 := flatR_cells 28 (fun k => (seatC (Ss.getD k fun _ => 0)).toList) Ss.length (fun i _ => seatC_len _) j hj k u hu
    rw [h.cellAt (j * 28 + k) (by omega)]
    exact h1
set_option maxRecDepth 100000 in
set_option maxHeartbeats 4000000 in
theorem folC_impl (ta : Option Addr) (tn tc : Nat) (d : DrwD) (ok : DrwOk d) (i : Nat) (hiN : i < d.N) (n : Nat) (hn : n ≤ 90) (S : Nat → Nat) (p q : Nat) (w : World) (hs : SmallS S n) (hp : BoxN w p [.slice ta tn tc, .int .i64 d.G, .int .i64 d.most])
    (hq : BoxN w q [.int .i64 (d.cl i), .bool (epB d i), .bool (ecB d i)]) :
    Calls Try.prog 79 #[.agg (seatC S), .pointer (some ⟨p, 0, none⟩), .pointer (some ⟨q, 0, none⟩)] w (FolM w d S i n) := by
  obtain ⟨cs, hcs⟩ : ∃ cs, seatC S = cs := ⟨_, rfl⟩
  have hS : SeatA cs S := by rw [← hcs]; exact seatC_is S
  rw [hcs]
  clear hcs
  obtain ⟨W, hW⟩ : ∃ W, w.alloc (.cells cs 114) = W := ⟨_, rfl⟩
  have b1 : Below w.heap.size w W := by rw [← hW]; exact (Below.refl _ _).alloc (Nat.le_refl _) _
  have HWh : Hid (Whole W w.heap.size cs 114) := by rw [← hW]; exact Whole.made _ _ _
  have HSZ : Hid ((Try.prog.info? 114).map (·.size) = some cs.size) := by show _ = _; rw [hS.1]; exact seat_info
  have HP := Lib.hid (hp.below b1)
  have HQ := Lib.hid (hq.below b1)
  have HB := Lib.hid b1
  have CF := Lib.hid (follow_impl ta tn tc d ok i hiN n hn cs S W hS hs)
  clear hS hp hq b1 ok hs
  obtain ⟨cl, hcl⟩ : ∃ cl, d.cl i = cl := ⟨_, rfl⟩
  obtain ⟨ep, hep⟩ : ∃ ep, epB d i = ep := ⟨_, rfl⟩
  obtain ⟨ec, hec⟩ : ∃ ec, ecB d i = ec := ⟨_, rfl⟩
  rw [hcl, hep, hec] at HQ CF
  clear hcl hep hec
  have HW := Lib.hid hW
  clear hW
  go_enter Try.func79, Try.ntmps79
  go_upto_region 1 with fail
  rw [HW.out]
  clear HW
  have m0 := HP.out.2 0 _ rfl
  have m1 := HP.out.2 1 _ rfl
  have m2 := HP.out.2 2 _ rfl
  have n0 := HQ.out.2 0 _ rfl
  have n1 := HQ.out.2 1 _ rfl
  have n2 := HQ.out.2 2 _ rfl
  go_wp2_with (refine wpList_load_row rfl 114 (.tmp 3) rfl w.heap.size rfl 114 cs (0, 0) _ HWh.out Try.underlying114 rfl HSZ.out ?_)
  refine CF.out.mono ?_
  rintro e w1 ⟨v, Ss, rfl, ho, hl, hsm, hsum, bb⟩
  obtain ⟨oa, oc, rfl⟩ := owns_form ho
  have HO := Lib.hid ho
  have HSM := Lib.hid hsm
  have HSU := Lib.hid hsum
  have HB2 := Lib.hid (HB.out.trans (bb.mono HB.out.size))
  have hz := HB.out.size
  clear m0 m1 m2 n0 n1 n2 ho hsm hsum bb CF
  go_wp2
  go_ret
  exact ⟨_, Ss, rfl, owns_mono HO.out hz, hl, HSM.out, HSU.out, HB2.out⟩
end Go.Proofs.Ytmhkkdnopcdibaa
