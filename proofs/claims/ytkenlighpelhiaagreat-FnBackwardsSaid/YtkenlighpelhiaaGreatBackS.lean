/- Backwards, of the program: the keys of a map, sorted by the library; BackOf, a search with a map and a list that is taken from at its front. -/
import Derived.Test.YtkenlighpelhiaaGreatReachI
import Derived.Test.YtkenlighpelhiaaGreatMapOwn
import Derived.Test.YtkenlighpelhiaaGreatQueue
import Derived.Deep.LoopGhost
import Derived.Shelf.SlIterI.Sorted
import Derived.Shelf.Slices.In.SortNone
namespace Go.Proofs.YtkenlighpelhiaaGreat
open Go.RowKit Go.Conc Go.Sort Go.Maps
set_option linter.unusedVariables false
set_option linter.unusedSimpArgs false
/-- The library's sort at this translation, as slices.Sorted leans on it. -/
theorem sortsHere (m : Nat) : AnyZI.SortsIn Tryz.prog Tryz.laysZI6_ren Fence.wide m :=
  ⟨fun blk off cap ss W hH hblk hsz => callsIn_wide.2 (Any.slices_Sort_int Tryz.lays189 blk off cap ss W hH hblk hsz), fun p cap W => callsIn_wide.2 (Any.slices_Sort_int_none Tryz.lays189 p cap W)⟩
/-- maps.Keys. -/
theorem keysHere (mb : Option Nat) (W : World) : Calls Tryz.prog 26 #[.map mb] W fun e w' => e = .returned (.func (.func 52) #[] #[.pointer (some ⟨W.heap.size, 0, none⟩)]) ∧ w' = W.alloc (.cells #[.map mb] 45) :=
  (callsIn_wide (n := 5)).1 (AnyZI.keys_in Tryz.laysZI7 Fence.wide 5 trivial rfl mb W)
/-- A map whose keys are these numbers, each once. -/
def KeysAt (w : World) (b : Nat) (T : List Nat) : Prop := ∃ l, StmAt (Value.int .i64) Value.bool w b l ∧ l.map (·.1) = zl T ∧ ∀ p ∈ l, p.2 = true
theorem KeysAt.lt {w : World} {b : Nat} {T : List Nat} (h : KeysAt w b T) : b < w.heap.size := h.elim fun l h => h.1.lt
theorem KeysAt.block {w w' : World} {b : Nat} {T : List Nat} (h : KeysAt w b T) (hb : w'.heap[b]? = w.heap[b]?) : KeysAt w' b T := h.imp fun l h => ⟨h.1.block hb, h.2⟩
theorem zl_nodup {T : List Nat} (h : T.Nodup) : (zl T).Nodup := List.pairwise_map.2 (h.imp fun hne e => hne (by omega))
/-- slices.Sorted of maps.Keys. -/
theorem sortedHere {w : World} {b : Nat} {T L : List Nat} (hk : KeysAt w b T) (hT : T.Nodup) (h65 : T.length ≤ 65536) (hlt : ∀ q ∈ T, q ≤ 65536) (hL : L.Pairwise (· < ·)) (hm : ∀ q, q ∈ T ↔ q ∈ L) :
    Calls Tryz.prog 25 #[.func (.func 52) #[] #[.pointer (some ⟨w.heap.size, 0, none⟩)]] (w.alloc (.cells #[.map (some b)] 45)) (OwnInts L (w.alloc (.cells #[.map (some b)] 45))) := by
  obtain ⟨l, hst, hkeys, -⟩ := hk
  have hlen : l.length = T.length := by rw [← zl_len, ← hkeys, List.length_map]
  obtain ⟨D0, hown, hperm, hsize⟩ := stm_owns (P := Tryz.prog) Tryz.underlying3 hst (by rw [hkeys]; exact zl_nodup hT) (by unfold maxLen; omega) (fun p hp => by
    have : p.1 ∈ zl T := by rw [← hkeys]; exact List.mem_map.2 ⟨p, hp, rfl⟩
    obtain ⟨q, hq, e⟩ := List.mem_map.1 this
    have := hlt q hq
    rw [← e]
    show (decide (IntKind.i64.min ≤ (q : Int)) && decide ((q : Int) ≤ IntKind.i64.max)) = true
    rw [Bool.and_eq_true, decide_eq_true_eq, decide_eq_true_eq]
    exact ⟨show (-9223372036854775808 : Int) ≤ (q : Int) by omega, show (q : Int) ≤ (9223372036854775807 : Int) by omega⟩)
  rw [hkeys] at hperm
  have hseq : SeqGives Fence.wide 2 Tryz.prog 52 #[.pointer (some ⟨w.heap.size, 0, none⟩)] encZ (fun ss => ss.Perm (intKeys D0)) (Maps.size D0) (w.alloc (.cells #[.map (some b)] 45)) :=
    AnyZI.keys_gives (ρ := Tryz.laysZI7_ren) { Tryz.laysZI7 with } Fence.wide _ trivial rfl (by omega) w.heap.size b l.length D0 _ (by simp) (by simp) (hown.alloc _)
  have cS := AnyZI.sorted_in Tryz.laysZI6 Fence.wide 5 trivial trivial trivial trivial rfl (by omega) (sortsHere _) (enters_of Tryz.func51 (by kernel_rfl) rfl) 52 #[.pointer (some ⟨w.heap.size, 0, none⟩)] trivial (enters_of Tryz.func52 (by kernel_rfl) rfl) _ _ (by rw [hsize, hlen]; unfold maxLen; omega) (by rw [hsize, hlen]; omega) _ hseq
  refine ((callsIn_wide (n := 5)).1 cS).mono ?_
  rintro e w' ⟨v, ss, rfl, hS, hrow, -, hb⟩
  have hms : (ss.mergeSort fun x y => decide (x ≤ y)) = zl L := (mergeSort_of_perm_i (hS.trans hperm)).trans (sort_nats hT hL hm)
  have hsl : ss.length = L.length := by
    rw [(hS.trans hperm).length_eq, zl_len]
    exact ((List.perm_ext_iff_of_nodup hT (hL.imp (fun h => Nat.ne_of_lt h))).2 hm).length_eq
  rw [hms, show (zl L).map encZ = Ints L from zl_ints L, hsl] at hrow
  exact ⟨v, rfl, hrow, hb⟩
/-- 'm[k]' of such a map, and 'm[k] = true' of a number that it lacks. -/
theorem keys_look {P : Program} {K E T : TypeId} {w : World} {b : Nat} {xs : List Nat} (h : KeysAt w b xs) (R : KeyRun P K (Value.int .i64)) (ht : P.underlying T = some (.map K E)) (hz : (zeroValue E).run P w = .ok (.bool false) w) (x : Nat) : (Instr.lookup T (.map (some b)) (.int .i64 (x : Int)) false).run P w = .ok (.bool (decide (x ∈ xs))) w := by
  obtain ⟨l, h1, h2, h3⟩ := h
  have := h1.map.look false R ht hz (x : Int)
  simp only [Bool.false_eq_true, if_false] at this
  rw [get_true h3, h2] at this
  rw [this]
  have hm : decide ((x : Int) ∈ zl xs) = decide (x ∈ xs) := by
    rw [decide_eq_decide]
    simp only [zl, List.mem_map]
    exact ⟨fun ⟨a, ha, e⟩ => by obtain rfl : a = x := by omega
                                exact ha, fun h => ⟨x, h, rfl⟩⟩
  rw [hm]
theorem keys_add {P : Program} {K E T : TypeId} {w : World} {b : Nat} {xs : List Nat} (h : KeysAt w b xs) (R : KeyRun P K (Value.int .i64)) (ht : P.underlying T = some (.map K E)) {x : Nat} (hx : x ∉ xs) : ∃ w', (Instr.mapUpdate T (.map (some b)) (.int .i64 (x : Int)) (.bool true)).run P w = .ok () w' ∧ KeysAt w' b (xs ++ [x]) ∧ w.grownBy w' (some b) := by
  obtain ⟨l, h1, h2, h3⟩ := h
  obtain ⟨w', hr, hs, hg⟩ := h1.store R ht (x : Int) true
  have hn : (x : Int) ∉ l.map (·.1) := by
    rw [h2]
    simp only [zl, List.mem_map, not_exists, not_and]
    intro a ha e
    obtain rfl : a = x := by omega
    exact hx ha
  rw [put_none hn] at hs
  refine ⟨w', hr, ⟨_, hs, by simp [h2, zl], fun p hp => ?_⟩, hg⟩
  rcases List.mem_append.1 hp with hp | hp
  · exact h3 p hp
  · rw [List.mem_singleton.1 hp]
/-- The state of the search: the map (block fb), the lines (under A), what waits (in memory from B on). -/
structure BqSt (w0 : World) (fb A B nl : Nat) (la : Option Addr) (ls : List Ln) (T xs : List Nat) (v : Value) (w : World) : Prop where
  keys : KeysAt w fb T
  lines : LnsAt la nl ls A A w
  que : QueAt w B 3 v xs.length (Ints xs)
  afb : A ≤ fb
  fB : fb < B
  size : B ≤ w.heap.size
  base : w0.heap.size ≤ fb
  below : Below w0.heap.size w0 w
section
variable {w0 w w' : World} {fb A B nl : Nat} {la : Option Addr} {ls : List Ln} {T xs : List Nat} {v : Value}
theorem BqSt.later (h : BqSt w0 fb A B nl la ls T xs v w) (hb : Below w.heap.size w w') : BqSt w0 fb A B nl la ls T xs v w' := by
  have h1 := h.afb
  have h2 := h.fB
  have h3 := h.size
  have h4 := h.base
  exact ⟨h.keys.block (hb.block fb (by omega)), h.lines.turn (fun g _ hg => hb.block g (by omega)), h.que.later hb, h1, h2, Nat.le_trans h3 hb.size, h4, h.below.trans (hb.mono (by omega))⟩
/-- The map has one number more. -/
theorem BqSt.put (h : BqSt w0 fb A B nl la ls T xs v w) {r : Nat} (hk : KeysAt w' fb (T ++ [r])) (hg : w.grownBy w' (some fb)) : BqSt w0 fb A B nl la ls (T ++ [r]) xs v w' := by
  have h1 := h.afb
  have h2 := h.fB
  have h3 := h.size
  have h4 := h.base
  refine ⟨hk, h.lines.turn (fun g _ hg' => hg.block g (by omega) (by intro e; cases e; omega)), h.que.kept hg (fun e => ?_), h1, h2, Nat.le_trans h3 hg.size, h4, h.below.grown hg (by omega) (fun k e => by cases e; exact h4)⟩
  have := (h.que.lt e).1
  omega
/-- What waits has grown. -/
theorem BqSt.push (h : BqSt w0 fb A B nl la ls T xs v w) {r : Nat} {v' : Value} (hq : QueAt w' B 3 v' (xs.length + 1) (Ints xs ++ [.int .i64 (r : Int)])) (hb : Below B w w') : BqSt w0 fb A B nl la ls T (xs ++ [r]) v' w' := by
  have h1 := h.afb
  have h2 := h.fB
  have h3 := h.size
  have h4 := h.base
  refine ⟨h.keys.block (hb.block fb h2), h.lines.turn (fun g _ hg => hb.block g (by omega)), ?_, h1, h2, Nat.le_trans h3 hb.size, h4, h.below.trans (hb.mono (by omega))⟩
  rw [List.length_append, List.length_singleton, Ints_snoc]
  exact hq
theorem BqSt.tail {x : Nat} (h : BqSt w0 fb A B nl la ls T (x :: xs) v w) {v' : Value} (hq : QueAt w B 3 v' xs.length (Ints xs)) : BqSt w0 fb A B nl la ls T xs v' w := ⟨h.keys, h.lines, hq, h.afb, h.fB, h.size, h.base, h.below⟩
end
set_option maxHeartbeats 8000000 in
set_option maxRecDepth 100000 in
theorem implBackOf (W H Z P : Int) (hP : P ≤ 9223372036854775807) (w : World) : Calls Tryz.prog 6 #[.agg #[.int .i64 W, .int .i64 H, .int .i64 Z], .int .i64 P] w (OwnInts (reachL true W H Z P) w) := by
  obtain ⟨j0, hj, jz0, jz1, jz2⟩ : ∃ i, Tryz.prog.info? 3 = some i ∧ i.zero = some (.int .i64 0) ∧ i.size = 1 ∧ i.bytes = 8 := ⟨_, by rfl, by rfl, by rfl, by rfl⟩
  have hmm := @run_makeMap Tryz.prog
  have C1 := Lib.hid (fun b (h : smallB W H Z = b) w => implSmall_is h w)
  have C2 := Lib.hid (fun b (h : posB W H Z P = b) w => implPos_is hP h w)
  cases h1 : smallB W H Z
  · have HG := Lib.hid (reach_no (back := true) (W := W) (H := H) (Z := Z) (P := P) (by rw [h1]; rfl))
    have C1 := Lib.hid (C1.out _ h1)
    clear h1
    rw [HG.out]
    go_enter Tryz.func6, Tryz.ntmps6
    go_wp2_with fail
    have B0 := Lib.hid (box_new W H Z w)
    generalize w.alloc (.cells #[.int .i64 W, .int .i64 H, .int .i64 Z] 25) = W1 at *
    obtain ⟨c0, c1, c2, hlt, hb1⟩ := B0.out
    go_wp2_with fail
    refine (C1.out _).mono ?_
    rintro e w1 ⟨rfl, hb⟩
    have B1 := Lib.hid (B0.out.later hb)
    have hp : Hid (OwnInts [] w (.returned (.slice none 0 0)) w1) := ⟨_, rfl, ⟨rfl, .inl ⟨rfl, rfl⟩⟩, B1.out.2.2.2.2⟩
    clear hb
    go_wp2_with fail
    go_ret
    exact hp.out
  have K1 := Lib.hid (C1.out _ h1)
  cases h2 : posB W H Z P
  · have HG := Lib.hid (reach_no (back := true) (W := W) (H := H) (Z := Z) (P := P) (by rw [h1, h2]; rfl))
    have K2 := Lib.hid (C2.out _ h2)
    clear h1 h2
    rw [HG.out]
    go_enter Tryz.func6, Tryz.ntmps6
    go_wp2_with fail
    have B0 := Lib.hid (box_new W H Z w)
    generalize w.alloc (.cells #[.int .i64 W, .int .i64 H, .int .i64 Z] 25) = W1 at *
    obtain ⟨c0, c1, c2, hlt, hb1⟩ := B0.out
    go_wp2_with fail
    refine (K1.out _).mono ?_
    rintro e w1 ⟨rfl, hb⟩
    have B1 := Lib.hid (B0.out.later hb)
    clear hb c0 c1 c2 hlt hb1
    obtain ⟨c0, c1, c2, hlt, hb1⟩ := B1.out
    go_wp2_with fail
    refine (K2.out _).mono ?_
    rintro e w2 ⟨rfl, hb⟩
    have B2 := Lib.hid (B1.out.later hb)
    have hp : Hid (OwnInts [] w (.returned (.slice none 0 0)) w2) := ⟨_, rfl, ⟨rfl, .inl ⟨rfl, rfl⟩⟩, B2.out.2.2.2.2⟩
    clear hb
    go_wp2_with fail
    go_ret
    exact hp.out
  · have HG := Lib.hid (reach_yes (back := true) h1 h2)
    have K2 := Lib.hid (C2.out _ h2)
    obtain ⟨a, b, N, z, rfl, rfl, rfl, ho, hN, h16⟩ := small_nat h1
    obtain ⟨N', z', p, e1, rfl, ho', hp⟩ := pos_yes h2
    obtain rfl : z = z' := by omega
    rw [HG.out]
    obtain ⟨-, ha, ha7, hb', hb7, h49⟩ := ho.nat
    have hz65 : z < 65536 := Nat.lt_of_lt_of_le ho.zlt (Nat.pow_le_pow_right (by decide) h16)
    have CL := Lib.hid (fun w => implLines ho w)
    have HLn := Lib.hid (lnsOf_ok ho)
    have HLen : Hid ((linesOf a b z (bitsOf N z)).length ≤ 196) := by unfold Hid; rw [← HLn.out]; exact lnsOf_le _ _ _
    have HMem : Hid (∀ l ∈ linesOf a b z (bitsOf N z), ∃ f o t, LnAt a b z l f o t) := fun l hl => mem_at hN ha hl
    have HAll : Hid (∀ T k, SeenAt (stepL true (lnsOf a b z)) p (z + 1) T k → T.length ≤ k → T.Nodup ∧ T.length ≤ 65536 ∧ (∀ q ∈ T, q ≤ 65536) ∧ ∀ q, q ∈ T ↔ q ∈ seenL true a b z p) := fun T k h hk => by
      refine ⟨h.nodup, Nat.le_trans h.len (by omega), fun q hq => by have := h.lt q hq; omega, fun q => ?_⟩
      have := h.all ho hk q
      rw [mem_seen ho hp, ← rchB_iff (step_rank (back := true) ho) (rank_le true), ← this, decide_eq_true_eq]
    have HPart : Hid (∀ q, Rch (stepL true (lnsOf a b z)) p q → q < z + 1) := fun q h => Nat.lt_succ_of_le (rch_part ho hp h).le
    have hpM : p < z + 1 := Nat.lt_succ_of_le hp.le
    have HU := Lib.hid (seen_up true a b z p)
    obtain ⟨M, hM⟩ : ∃ M, z + 1 = M := ⟨_, rfl⟩
    have hM65 : M ≤ 65536 := by omega
    rw [hM] at HAll HPart hpM
    rw [HLn.out] at HAll HPart
    generalize linesOf a b z (bitsOf N z) = ls at *
    generalize seenL true a b z p = L at *
    obtain ⟨st, hst⟩ : ∃ st, stepL true ls = st := ⟨_, rfl⟩
    have HSt : Hid (∀ q r, r ∈ st q ↔ ∃ l ∈ ls, hitL true q l = true ∧ (flipL q l).toNat = r) := fun q r => by rw [← hst]; exact mem_step
    rw [hst] at HAll HPart
    clear hst HLn hM h1 h2 ho ho' hp e1 hN HG
    go_enter Tryz.func6, Tryz.ntmps6
    go_wp2_with fail
    have B0 := Lib.hid (box_new a b z w)
    generalize w.alloc (.cells #[.int .i64 (a : Int), .int .i64 (b : Int), .int .i64 (z : Int)] 25) = W1 at *
    obtain ⟨c0, c1, c2, hlt, hb1⟩ := B0.out
    go_wp2_with fail
    refine (K1.out _).mono ?_
    rintro e w1 ⟨rfl, hb⟩
    have B1 := Lib.hid (B0.out.later hb)
    clear hb c0 c1 c2 hlt hb1
    obtain ⟨c0, c1, c2, hlt, hb1⟩ := B1.out
    go_wp2_with fail
    refine (K2.out _).mono ?_
    rintro e w2 ⟨rfl, hb⟩
    have B2 := Lib.hid (B1.out.later hb)
    clear hb c0 c1 c2 hlt hb1
    obtain ⟨c0, c1, c2, hlt, hb1⟩ := B2.out
    go_wp2_with fail
    refine (CL.out _).mono ?_
    rintro e w3 ⟨lv', rfl, hh, hb⟩
    obtain ⟨la, lc, rfl⟩ := lines_form hh
    obtain ⟨nl, hnl⟩ : ∃ nl, ls.length = nl := ⟨_, rfl⟩
    rw [hnl] at hh
    rw [hnl]
    have B3 := Lib.hid (B2.out.later hb)
    have HL3 : Hid (LnsAt la nl ls w3.heap.size w3.heap.size w3) := by
      refine ⟨hnl, ?_⟩
      rcases Nat.eq_zero_or_pos nl with h0 | h0
      · exact .inl h0
      · right
        rcases Go.Joins.ownsRow_forms hh with ⟨h, h1⟩ | ⟨g, cap', h⟩
        · omega
        · injection h with h1 h2 h3
          subst h1 h3
          have hl := hh.lt g rfl
          exact ⟨g, rfl, by omega, hl.2, fun i l hi => line_cells hh hnl hi⟩
    have HE : KeysAt (w3.alloc (.map #[] 0)) w3.heap.size [] := ⟨[], StmAt.made _ _ w3, rfl, fun p hp => absurd hp (by simp)⟩
    obtain ⟨w4, hput, hk4, hg4⟩ := keys_add (P := Tryz.prog) (K := 3) (E := 4) (T := 45) HE (key_int Tryz.underlying3) Tryz.underlying45 (x := p) (by simp)
    have hb34 : Below w3.heap.size w3 w4 := ((Below.refl _ w3).alloc (Nat.le_refl _) _).grown hg4 (by simp) (fun k e => by cases e; exact Nat.le_refl _)
    have hs4 : w3.heap.size < w4.heap.size := hk4.lt
    have hb30 := B3.out.2.2.2.2
    have hw3 := hb30.size
    have HS5 : Hid (BqSt w w3.heap.size w3.heap.size w4.heap.size nl la ls [p] [p] (.slice (some ⟨w4.heap.size, 0, none⟩) 1 1) (w4.alloc (.cells #[.int .i64 (p : Int)] 3))) := by
      have hba : Below w4.heap.size w4 (w4.alloc (.cells #[.int .i64 (p : Int)] 3)) := (Below.refl _ _).alloc (Nat.le_refl _) _
      refine ⟨hk4.block (hba.block _ hs4), (HL3.out.turn (fun g _ hg => hb34.block g hg)).turn (fun g _ hg => hba.block g (by omega)), ⟨rfl, w4.heap.size, 0, 1, _, rfl, Nat.le_refl _, heap_alloc_new w4 _, Nat.le_refl _, by unfold maxLen; omega, by simp, by simp [Ints]⟩, Nat.le_refl _, hs4, by simp, hw3, hb30.trans ((hb34.trans (hba.mono (by omega))).mono hw3)⟩
    have HT0 := Lib.hid (seen_start (st := st) hpM)
    have hnl2 : nl ≤ 196 := by rw [← hnl]; exact HLen.out
    have HNL := Lib.hid hnl
    clear hh hb c0 c1 c2 hlt hb1 B0 B1 B2 HE hk4 hg4 hb34 hb30 HL3 HLen K1 K2 CL hnl C1 C2
    go_wp2_with fail
    clear hput hmm
    generalize w4.alloc (.cells #[.int .i64 (p : Int)] 3) = w5 at *
    generalize w4.heap.size = B at *
    generalize w3.heap.size = fb at *
    go_loopg [7] (M + 1) (fun g s wr => ∃ (k : Nat) (T : List Nat) (v : Value), k ≤ T.length ∧ k + g = M + 1 ∧ v = s ∧ Hid (SeenAt st p M T k) ∧ Hid (BqSt w fb fb B nl la ls T (T.drop k) v wr))
    case atStart => exact ⟨0, [p], _, Nat.zero_le _, by omega, rfl, HT0, HS5⟩
    case round =>
      clear HT0 HS5
      obtain ⟨k, T, v, hk, hg, rfl, HT, HS⟩ := hrel
      obtain ⟨m, hm⟩ : ∃ m, T.length = m := ⟨_, rfl⟩
      have hTM := HT.out.len
      rw [hm] at hk hTM
      by_cases hkm : k < m
      · obtain ⟨q0, hq0⟩ : ∃ q, T[k]? = some q := ⟨_, List.getElem?_eq_getElem (by rw [hm]; exact hkm)⟩
        have hd : T.drop k = q0 :: T.drop (k + 1) := by
          rw [List.drop_eq_getElem_cons (by rw [hm]; exact hkm)]
          congr 1
          exact (List.getElem?_eq_some_iff.1 hq0).2
        have hq0M : q0 < M := HT.out.lt q0 (List.mem_of_getElem? hq0)
        have HQ := Lib.hid hq0
        have HKT : Hid (k < T.length) := by unfold Hid; rw [hm]; exact hkm
        obtain ⟨d, hdl⟩ : ∃ d, (T.drop (k + 1)).length = d := ⟨_, rfl⟩
        rw [hd] at HS
        have hq := HS.out.que
        rw [List.length_cons, hdl] at hq
        obtain ⟨v', hq', -, hsl⟩ := hq.tail (P := Tryz.prog) (x := .int .i64 (q0 : Int)) (xs := Ints (T.drop (k + 1)))
        obtain ⟨gq, off, cap, rfl, hcap, hcl⟩ := hq.form
        have hc0 : wr.cell? ⟨gq, off, none⟩ = some (.int .i64 (q0 : Int)) := hcl 0 _ rfl
        have hs1 := hsl 28 Tryz.underlying28 (Tryz.sizeOf3 _)
        have HS1 := Lib.hid (HS.out.tail (by rw [hdl]; exact hq'))
        have hkM : k < M := by omega
        obtain ⟨n1, hn1⟩ : ∃ n1, d + 1 = n1 := ⟨_, rfl⟩
        rw [hn1] at hs1 hcap ⊢
        have n0 : (0 : Int) < (n1 : Int) := by omega
        have n0' : 0 < n1 := by omega
        clear hq0 hq hq' hsl hcl hd HS hm hn1 hdl
        go_wp2_with fail
        clear hs1 hc0
        go_loopw [7, 38] (fun u i wr => ∃ (i' : Nat) (T : List Nat) (v0 : Value), i' ≤ nl ∧ i = .int .i64 i' ∧ v0 = u ∧ Hid (SeenAt st p M T k) ∧ Hid (k < T.length) ∧ Hid (T[k]? = some q0) ∧ Hid (∀ l ∈ ls.take i', hitL true q0 l = true → (flipL q0 l).toNat ∈ T) ∧ Hid (BqSt w fb fb B nl la ls T (T.drop (k + 1)) v0 wr)) (fun _ i _ => nl - (intOf i).toNat)
        case atStart => exact ⟨0, T, v', Nat.zero_le _, rfl, rfl, HT, HKT, HQ, fun l hl => absurd hl (by simp), HS1⟩
        case round =>
          clear HT HKT HQ HS1 hTM hkm
          obtain ⟨i, T, v0, hi, rfl, rfl, HT, HKT, HQ, HD, HS⟩ := hrel
          by_cases hin : i < nl
          · have i0' : (0 : Int) ≤ (i : Int) := by omega
            have i1' : (i : Int) < (nl : Int) := by omega
            obtain ⟨l, hl⟩ : ∃ l, ls[i]? = some l := ⟨_, List.getElem?_eq_getElem (by rw [HNL.out]; exact hin)⟩
            have hlm := List.mem_of_getElem? hl
            obtain ⟨f, o, t, S⟩ := HMem.out l hlm
            obtain ⟨gl, rfl, hgl1, hgl2, e0, e1, e2⟩ := HS.out.lines.get hl
            have hle := S.eq
            have hf49 : f < 49 := Nat.lt_of_lt_of_le S.fN h49
            have ho49 : o < 49 := Nat.lt_of_lt_of_le S.oN h49
            have ht49 : t < 49 := Nat.lt_of_lt_of_le S.tN h49
            have CBf := Lib.hid (fun w => implAft q0 f o t hf49 ho49 ht49 w)
            have CFl := Lib.hid (fun w => implFlip q0 f o t (by omega) hf49 ho49 ht49 w)
            obtain ⟨h1, h2⟩ := hit_at (back := true) (p := q0) S
            simp only [if_true] at h1
            obtain ⟨cb, hcb⟩ : ∃ cb, aftN q0 f o t = cb := ⟨_, rfl⟩
            obtain ⟨r, hr⟩ : ∃ r, flipN q0 f o t = r := ⟨_, rfl⟩
            rw [hcb] at CBf h1
            rw [hr] at CFl h2
            have HN2 : Hid (∀ l ∈ ls.take (i + 1), hitL true q0 l = true → l ∈ ls.take i ∨ (cb = true ∧ (flipL q0 l).toNat = r)) := fun l' hl' hh' => by
              rw [take_one hl, List.mem_append, List.mem_singleton] at hl'
              rcases hl' with hl' | rfl
              · exact .inl hl'
              · exact .inr ⟨by rw [← h1]; exact hh', by rw [h2, Int.toNat_natCast]⟩
            have HRst : Hid (cb = true → r ∈ st q0) := fun e => (HSt.out q0 r).2 ⟨l, hlm, by rw [h1]; exact e, by rw [h2, Int.toNat_natCast]⟩
            rw [hle] at e0 e1 e2
            have hbl : Below wr.heap.size wr (wr.alloc (.cells #[.int .i64 (f : Int), .int .i64 (o : Int), .int .i64 (t : Int)] 47)) := (Below.refl _ _).alloc (Nat.le_refl _) _
            have HSa := Lib.hid (HS.out.later hbl)
            have hpl : wr.heap.size < (wr.alloc (.cells #[.int .i64 (f : Int), .int .i64 (o : Int), .int .i64 (t : Int)] 47)).heap.size := by simp
            have hrow := heap_alloc_new wr (.cells #[.int .i64 (f : Int), .int .i64 (o : Int), .int .i64 (t : Int)] 47)
            obtain ⟨x0, x1, x2, -, -, -⟩ := row_facts hrow
            clear hl hlm hle S h1 h2 hcb hr hbl HS hf49 ho49 ht49
            go_wp2_with fail
            clear e0 e1 e2 x0 x1 x2
            generalize wr.alloc (.cells #[.int .i64 (f : Int), .int .i64 (o : Int), .int .i64 (t : Int)] 47) = wa at *
            refine (CFl.out _).mono ?_
            rintro e wb ⟨rfl, hb⟩
            have HSb := Lib.hid (HSa.out.later hb)
            have hrow2 := row_later hrow hb hpl
            have hpl2 : wr.heap.size < wb.heap.size := Nat.lt_of_lt_of_le hpl hb.size
            obtain ⟨r0, r1, r2, -, -, -⟩ := row_facts hrow2
            clear HSa hrow hb hpl CFl
            go_wp2_with fail
            refine (CBf.out _).mono ?_
            rintro e wc ⟨rfl, hb⟩
            have HSc := Lib.hid (HSb.out.later hb)
            clear HSb r0 r1 r2 hrow2 hb CBf hpl2
            cases cb
            · go_wp2_with fail
              go_roundw
              case rel => exact ⟨i + 1, T, v0, by omega, by go_num, rfl, HT, HKT, HQ, (fun l' hl' hh' => (HN2.out l' hl' hh').elim (fun h => HD.out l' h hh') (fun h => (by cases h.1))), HSc⟩
              case measure => simp [intOf]; omega
            · have hrst := HRst.out (by simp)
              have hrM : r < M := HPart.out r ((HT.out.got q0 (List.mem_of_getElem? HQ.out)).snoc hrst)
              have hlk := keys_look (P := Tryz.prog) HSc.out.keys (key_int Tryz.underlying3) Tryz.underlying45 (Tryz.zeroValue4 _) r
              by_cases hrT : r ∈ T
              · rw [decide_eq_true hrT] at hlk
                have HRT := Lib.hid hrT
                clear hrT hrst HRst
                go_wp2_with fail
                go_roundw
                case rel => exact ⟨i + 1, T, v0, by omega, by go_num, rfl, HT, HKT, HQ, (fun l' hl' hh' => (HN2.out l' hl' hh').elim (fun h => HD.out l' h hh') (fun h => by rw [h.2]; exact HRT.out)), HSc⟩
                case measure => simp [intOf]; omega
              · rw [decide_eq_false hrT] at hlk
                have HT2 := Lib.hid (HT.out.push HKT.out HQ.out hrst hrT hrM)
                have HKT2 : Hid (k < (T ++ [r]).length) := by unfold Hid; rw [List.length_append]; have := HKT.out; omega
                have HQ2 : Hid ((T ++ [r])[k]? = some q0) := by unfold Hid; rw [List.getElem?_append_left HKT.out]; exact HQ.out
                have HD2 : Hid (∀ l ∈ ls.take (i + 1), hitL true q0 l = true → (flipL q0 l).toNat ∈ T ++ [r]) := fun l' hl' hh' => (HN2.out l' hl' hh').elim (fun h => List.mem_append_left _ (HD.out l' h hh')) (fun h => by rw [h.2]; simp)
                obtain ⟨wd, hput, hk2, hg2⟩ := keys_add (P := Tryz.prog) HSc.out.keys (key_int Tryz.underlying3) Tryz.underlying45 hrT
                have HSd := Lib.hid (HSc.out.put hk2 hg2)
                have hDr : Hid (T.drop (k + 1) ++ [r] = (T ++ [r]).drop (k + 1)) := by unfold Hid; rw [List.drop_append_of_le_length (by have := HKT.out; omega)]
                have hTl := HT.out.len
                have hln : (T.drop (k + 1)).length ≤ 1000000000 := by rw [List.length_drop]; omega
                obtain ⟨xs, hxs⟩ : ∃ xs, T.drop (k + 1) = xs := ⟨_, rfl⟩
                rw [hxs] at HSd hDr hln
                have hqd := HSd.out.que
                have hBd := HSd.out.size
                obtain ⟨ln, hlne⟩ : ∃ ln, xs.length = ln := ⟨_, rfl⟩
                rw [hlne] at hqd hln
                have HPush := Lib.hid (fun v' w' hq hb => HSd.out.push (r := r) (v' := v') (w' := w') hq hb)
                rw [hlne] at HPush
                clear hrT hrst HRst hk2 hg2 HSc HD HN2 HT HKT HQ HSd hTl hxs hlne
                go_wp2_with (at_builtin; refine wpList_append_que rfl (.tmp 56) (.tmp 58) 28 rfl j0 (.int .i64 0) 8 Tryz.underlying28 hj jz0 jz1 jz2 rfl (by decide) hqd rfl _ rfl rfl rfl hln hBd ?_; intro v' w8 hq8 hg8 hb8 hat8)
                have HS9 := Lib.hid (HPush.out v' w8 hq8 hb8)
                rw [hDr.out] at HS9
                clear hput hlk hq8 hg8 hb8 hat8 HPush hqd hBd hDr hln
                go_wp2_with fail
                go_roundw
                case rel => exact ⟨i + 1, T ++ [r], v', by omega, by go_num, rfl, HT2, HKT2, HQ2, HD2, HS9⟩
                case measure => simp [intOf]; omega
          · obtain rfl : i = nl := by omega
            have hfull : Hid (ls.take i = ls) := List.take_of_length_le (by rw [HNL.out]; exact Nat.le_refl _)
            rw [hfull.out] at HD
            have HT2 : Hid (SeenAt st p M T (k + 1)) := HT.out.next HQ.out (fun r hr => by
              obtain ⟨l, hl, h1, h2⟩ := (HSt.out q0 r).1 hr
              rw [← h2]; exact HD.out l hl h1)
            have HK : Hid (k + 1 ≤ T.length) := HKT.out
            clear HT HKT HD
            go_wp2_with fail
            go_roundg (M - k)
            case measure => omega
            case rel => exact ⟨k + 1, T, v0, HK.out, by omega, rfl, HT2, HS⟩
      · obtain rfl : k = m := by omega
        rw [List.drop_of_length_le (by omega)] at HS
        obtain ⟨f1, f2, f3, f4⟩ := HAll.out T k HT.out (by omega)
        have CK := Lib.hid (keysHere (some fb) wr)
        have CS := Lib.hid (sortedHere HS.out.keys f1 f2 f3 HU.out f4)
        have HB := Lib.hid (HS.out.below)
        obtain ⟨gq, off, cap, rfl, -, -⟩ := HS.out.que.form
        rw [List.length_nil]
        clear hm HT f1 f2 f3 f4 HS hTM
        go_wp2_with fail
        refine CK.out.mono ?_
        rintro e w' ⟨rfl, rfl⟩
        clear CK
        go_wp2_with fail
        refine CS.out.mono ?_
        rintro e w' ⟨v, rfl, hh, hb⟩
        have hz := HB.out.size
        have hp : Hid (OwnInts L w (.returned v) w') := ⟨v, rfl, own_base hh (by simp; omega), HB.out.trans (((Below.refl _ wr).alloc (Nat.le_refl _) _).trans (hb.mono (by simp)) |>.mono hz)⟩
        clear hh hb CS
        go_wp2_with fail
        go_ret
        exact hp.out
end Go.Proofs.YtkenlighpelhiaaGreat
