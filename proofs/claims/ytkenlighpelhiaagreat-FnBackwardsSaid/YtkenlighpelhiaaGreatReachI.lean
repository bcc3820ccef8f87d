/- What is reached, of the program: IsSmall, ReachOf, CanReach, CountReach, FewestLeft, FinalsOf, for every three ints and ints up to 2^63 - 1. -/
import Derived.Test.YtkenlighpelhiaaGreatReachS
import Derived.Test.YtkenlighpelhiaaGreatShelf
import Derived.Sort.OwnSortedInts
import Derived.Shelf.Slices.Empties
namespace Go.Proofs.YtkenlighpelhiaaGreat
open Go.RowKit Go.Conc Go.Sort
set_option linter.unusedVariables false
set_option linter.unusedSimpArgs false
set_option maxRecDepth 100000 in
theorem implSmall (W H Z : Int) (w : World) : Calls Tryz.prog 20 #[.agg #[.int .i64 W, .int .i64 H, .int .i64 Z]] w (QB (smallB W H Z) w) := by
  have CO := Lib.hid (fun w => implOk W H Z w)
  cases ho : okB W H Z
  · have HG : Hid (smallB W H Z = false) := by unfold Hid smallB; rw [ho]; rfl
    rw [ho] at CO
    clear ho
    go_enter Tryz.func20, Tryz.ntmps20
    go_wp2_with fail
    have B0 := Lib.hid (box_new W H Z w)
    generalize w.alloc (.cells #[.int .i64 W, .int .i64 H, .int .i64 Z] 25) = W1 at *
    obtain ⟨c0, c1, c2, hlt, hb1⟩ := B0.out
    go_wp2_with fail
    refine (CO.out _).mono ?_
    rintro e w1 ⟨rfl, hb⟩
    have B1 := Lib.hid (B0.out.later hb)
    clear hb
    go_wp2_with fail
    go_ret
    exact ⟨ret_bool HG.out.symm, B1.out.2.2.2.2⟩
  · have HG : Hid (smallB W H Z = decide (W * H ≤ 16)) := by unfold Hid smallB; rw [ho]; rfl
    rw [ho] at CO
    obtain ⟨a, b, N, z, rfl, rfl, rfl, ok⟩ := okNat ho
    have hN := ok.nat.1
    have h49 := ok.n49
    have hmul : (a : Int) * (b : Int) = (N : Int) := by rw [← Int.natCast_mul, hN]
    have CS := Lib.hid (fun w => implSize (a : Int) (b : Int) (z : Int) w N hmul h49)
    rw [hmul] at HG
    clear ho ok hN hmul
    go_enter Tryz.func20, Tryz.ntmps20
    go_wp2_with fail
    have B0 := Lib.hid (box_new a b z w)
    generalize w.alloc (.cells #[.int .i64 (a : Int), .int .i64 (b : Int), .int .i64 (z : Int)] 25) = W1 at *
    obtain ⟨c0, c1, c2, hlt, hb1⟩ := B0.out
    go_wp2_with fail
    refine (CO.out _).mono ?_
    rintro e w1 ⟨rfl, hb⟩
    have B1 := Lib.hid (B0.out.later hb)
    clear hb c0 c1 c2 hlt hb1
    obtain ⟨c0, c1, c2, hlt, hb1⟩ := B1.out
    go_wp2_with fail
    refine (CS.out _).mono ?_
    rintro e w2 ⟨rfl, hb⟩
    have B2 := Lib.hid (B1.out.later hb)
    clear hb c0 c1 c2 hlt hb1
    go_wp2_with fail
    go_ret
    exact ⟨ret_bool (by rw [HG.out]), B2.out.2.2.2.2⟩
theorem implSmall_is {W H Z : Int} {b : Bool} (h : smallB W H Z = b) (w : World) : Calls Tryz.prog 20 #[.agg #[.int .i64 W, .int .i64 H, .int .i64 Z]] w (QB b w) := by rw [← h]; exact implSmall W H Z w
/-- The ints of a list of numbers. -/
def zl (l : List Nat) : List Int := List.map (fun (q : Nat) => (q : Int)) l
theorem zl_len (l : List Nat) : (zl l).length = l.length := by simp [zl]
theorem zl_ints (l : List Nat) : (zl l).map (Value.int .i64) = Ints l := by simp [zl, Ints]
theorem seen_up (back : Bool) (W H Z P : Int) : (seenL back W H Z P).Pairwise (· < ·) := List.Pairwise.filter _ List.pairwise_lt_range
/-- The library's sort of a list that the call owns, each number in it once. -/
theorem implSort {w0 w : World} {g n cap : Nat} {T L : List Nat} (hn : T.length = n) (h65 : n ≤ 65536) (hT : T.Nodup) (hL : L.Pairwise (· < ·)) (hm : ∀ q, q ∈ T ↔ q ∈ L)
    (hh : w.ownsRow w0.heap.size 3 1 (.slice (some ⟨g, 0, none⟩) n cap) n (Ints T)) (hb : Below w0.heap.size w0 w) :
    Calls Tryz.prog 51 #[.slice (some ⟨g, 0, none⟩) n cap] w (fun e w' => e = .returned (.tuple #[]) ∧ OwnInts L w0 (.returned (.slice (some ⟨g, 0, none⟩) n cap)) w') := by
  rcases hh.2 with ⟨h0, -⟩ | ⟨g', cap', cur, hv, hbase, hbk, h1, h2, h3, h4⟩
  · cases h0
  cases hv
  have hz : (zl T).length = n := by rw [zl_len, hn]
  have hH : Holds (Value.int .i64) w g 0 (zl T).toArray := holds_of_blockI hbk (by rw [zl_ints, hz]; simpa using h4)
  have hlt : g < w.heap.size := (Array.getElem?_eq_some_iff.1 hbk).1
  have hS := Any.slices_Sort_int Tryz.lays189 g 0 cap (zl T) w hH hlt (by omega)
  rw [hz] at hS
  have hLn : L.length = n := by
    rw [← hn]
    exact ((List.perm_ext_iff_of_nodup hT (hL.imp (fun h => Nat.ne_of_lt h))).2 hm).length_eq.symm
  have hms : ((zl T).mergeSort fun x y => decide (x ≤ y)) = zl L := sort_nats hT hL hm
  rw [hms] at hS
  refine hS.mono ?_
  rintro e w' ⟨rfl, k, os, rfl⟩
  have hg := grownBy_sortedI (w := w) (g := g) (n := k) (os := os) (zl L).toArray
  refine ⟨rfl, _, rfl, ?_, hb.trans ⟨hg.os, hg.tape, hg.output, hg.size, fun j hj => hg.block j (Nat.lt_of_lt_of_le hj hb.size) (by intro e; cases e; omega)⟩⟩
  have := ownsRow_sortedI (w := w) (n := k) (os := os) (ss := zl T) (ts := zl L) (by rw [zl_len, zl_len, hLn, hn]) hbase hbk (by omega) h2 h3
  rw [zl_ints, hz] at this
  rw [hLn]
  exact this
set_option maxHeartbeats 2000000 in
set_option maxRecDepth 100000 in
theorem implReach (W H Z P : Int) (hP : P ≤ 9223372036854775807) (w : World) : Calls Tryz.prog 62 #[.agg #[.int .i64 W, .int .i64 H, .int .i64 Z], .int .i64 P] w (OwnInts (reachL false W H Z P) w) := by
  have C1 := Lib.hid (fun b (h : smallB W H Z = b) w => implSmall_is h w)
  have C2 := Lib.hid (fun b (h : posB W H Z P = b) w => implPos_is hP h w)
  cases h1 : smallB W H Z
  · have HG := Lib.hid (reach_no (back := false) (W := W) (H := H) (Z := Z) (P := P) (by rw [h1]; rfl))
    have C1 := Lib.hid (C1.out _ h1)
    clear h1
    rw [HG.out]
    go_enter Tryz.func62, Tryz.ntmps62
    go_wp2_with fail
    have B0 := Lib.hid (box_new W H Z w)
    generalize w.alloc (.cells #[.int .i64 W, .int .i64 H, .int .i64 Z] 25) = W1 at *
    obtain ⟨c0, c1, c2, hlt, hb1⟩ := B0.out
    go_wp2_with fail
    refine (C1.out _).mono ?_
    rintro e w1 ⟨rfl, hb⟩
    have B1 := Lib.hid (B0.out.later hb)
    have hp : Hid (OwnInts [] w (.returned (.slice none 0 0)) w1) := ⟨_, rfl, ⟨rfl, .inl ⟨rfl, rfl⟩⟩, B1.out.2.2.2.2⟩
    clear hb
    go_wp2_with fail
    go_ret
    exact hp.out
  have K1 := Lib.hid (C1.out _ h1)
  cases h2 : posB W H Z P
  · have HG := Lib.hid (reach_no (back := false) (W := W) (H := H) (Z := Z) (P := P) (by rw [h1, h2]; rfl))
    have K2 := Lib.hid (C2.out _ h2)
    clear h1 h2
    rw [HG.out]
    go_enter Tryz.func62, Tryz.ntmps62
    go_wp2_with fail
    have B0 := Lib.hid (box_new W H Z w)
    generalize w.alloc (.cells #[.int .i64 W, .int .i64 H, .int .i64 Z] 25) = W1 at *
    obtain ⟨c0, c1, c2, hlt, hb1⟩ := B0.out
    go_wp2_with fail
    refine (K1.out _).mono ?_
    rintro e w1 ⟨rfl, hb⟩
    have B1 := Lib.hid (B0.out.later hb)
    clear hb c0 c1 c2 hlt hb1
    obtain ⟨c0, c1, c2, hlt, hb1⟩ := B1.out
    go_wp2_with fail
    refine (K2.out _).mono ?_
    rintro e w2 ⟨rfl, hb⟩
    have B2 := Lib.hid (B1.out.later hb)
    have hp : Hid (OwnInts [] w (.returned (.slice none 0 0)) w2) := ⟨_, rfl, ⟨rfl, .inl ⟨rfl, rfl⟩⟩, B2.out.2.2.2.2⟩
    clear hb
    go_wp2_with fail
    go_ret
    exact hp.out
  · have HG := Lib.hid (reach_yes (back := false) h1 h2)
    have K2 := Lib.hid (C2.out _ h2)
    obtain ⟨a, b, N, z, rfl, rfl, rfl, ho, hN, h16⟩ := small_nat h1
    obtain ⟨N', z', p, e1, rfl, ho', hp⟩ := pos_yes h2
    obtain rfl : z = z' := by omega
    have HS := Lib.hid (fun w => implReached ho h16 hp w)
    have HU := Lib.hid (seen_up false a b z p)
    rw [HG.out]
    generalize seenL false a b z p = L at *
    clear h1 h2 ho ho' hp e1 hN
    go_enter Tryz.func62, Tryz.ntmps62
    go_wp2_with fail
    have B0 := Lib.hid (box_new a b z w)
    generalize w.alloc (.cells #[.int .i64 (a : Int), .int .i64 (b : Int), .int .i64 (z : Int)] 25) = W1 at *
    obtain ⟨c0, c1, c2, hlt, hb1⟩ := B0.out
    go_wp2_with fail
    refine (K1.out _).mono ?_
    rintro e w1 ⟨rfl, hb⟩
    have B1 := Lib.hid (B0.out.later hb)
    clear hb c0 c1 c2 hlt hb1
    obtain ⟨c0, c1, c2, hlt, hb1⟩ := B1.out
    go_wp2_with fail
    refine (K2.out _).mono ?_
    rintro e w2 ⟨rfl, hb⟩
    have B2 := Lib.hid (B1.out.later hb)
    clear hb c0 c1 c2 hlt hb1
    obtain ⟨c0, c1, c2, hlt, hb1⟩ := B2.out
    go_wp2_with fail
    refine (HS.out _).mono ?_
    rintro e w3 ⟨T, t1, t2, t3, t4, v, rfl, hh, hb⟩
    obtain ⟨n, hn⟩ : ∃ n, T.length = n := ⟨_, rfl⟩
    rw [hn] at hh t2 t3
    obtain ⟨va, vc, rfl⟩ := one_form hh
    obtain ⟨g, rfl⟩ := one_block hh t2
    have CX := Lib.hid (implSort (w0 := w) hn t3 t1 HU.out t4 (own_base hh B2.out.2.2.2.2.size) (B2.out.2.2.2.2.trans (hb.mono B2.out.2.2.2.2.size)))
    clear hb hh c0 c1 c2 hlt hb1 t1 t2 t3 t4 hn
    go_wp2_with fail
    refine CX.out.mono ?_
    rintro e w4 ⟨rfl, hr⟩
    have HF := Lib.hid hr
    clear hr
    go_wp2_with fail
    go_ret
    exact HF.out
/-- Whether a number is in a list. -/
def inI (l : List Nat) (x : Int) : Bool := (zl l).contains x
theorem inI_nat (l : List Nat) (q : Nat) : inI l (q : Int) = decide (q ∈ l) := by
  rw [Bool.eq_iff_iff]
  unfold inI zl
  simp only [List.contains_iff_mem, List.mem_map, decide_eq_true_eq]
  exact ⟨fun ⟨a, h, e⟩ => by obtain rfl : a = q := by omega
                             exact h, fun h => ⟨q, h, rfl⟩⟩
theorem inI_neg {l : List Nat} {x : Int} (h : x < 0) : inI l x = false := by
  rw [Bool.eq_false_iff]
  unfold inI zl
  simp only [ne_eq, List.contains_iff_mem, List.mem_map, not_exists, not_and]
  intro a _ e
  omega
theorem inI_reach {back : Bool} {W H Z P G : Int} : inI (reachL back W H Z P) G = reachB back W H Z P G := by
  rcases Int.lt_or_le G 0 with h | h
  · rw [inI_neg h]
    symm
    rw [Bool.eq_false_iff]
    intro hr
    simp only [reachB, Bool.and_eq_true] at hr
    obtain ⟨N, z, p, -, rfl, -, -⟩ := pos_yes hr.1.2
    omega
  · obtain ⟨q, rfl⟩ : ∃ q : Nat, G = q := ⟨G.toNat, by omega⟩
    rw [inI_nat, Bool.eq_iff_iff, decide_eq_true_eq]
    exact reach_mem
theorem reach_up (back : Bool) (W H Z P : Int) : (reachL back W H Z P).Pairwise (· < ·) := by
  unfold reachL
  split
  · exact seen_up back W H Z P
  · exact List.Pairwise.nil
set_option maxRecDepth 100000 in
theorem implListed {w : World} {B n vc : Nat} {va : Option Addr} {l : List Nat} (hn : l.length = n) (h65 : n ≤ 65536) (hu : l.Pairwise (· < ·)) (ho : w.ownsRow B 3 1 (.slice va n vc) n (Ints l)) (x : Int) :
    Calls Tryz.prog 30 #[.slice va n vc, .int .i64 x] w (QB (inI l x) w) := by
  have CB : Hid (Calls Tryz.prog 56 #[.slice va n vc, .int .i64 x] w fun e w' => ∃ k : Nat, e = .returned (.tuple #[.int .i64 (k : Int), .bool (inI l x)]) ∧ ∃ q, w' = w.drewN q) := by
    have hz : (zl l).length = n := by rw [zl_len, hn]
    have ht : (zl l).take n = zl l := List.take_of_length_le (by omega)
    have key : ∀ (g : Nat), (va = some ⟨g, 0, none⟩ ∨ n = 0) → (∀ j, j < n → w.cell? ⟨g, 0 + j, none⟩ = some (.int .i64 ((zl l).getD j 0))) → va = some ⟨g, 0, none⟩ → Hid (Calls Tryz.prog 56 #[.slice va n vc, .int .i64 x] w fun e w' => ∃ k : Nat, e = .returned (.tuple #[.int .i64 (k : Int), .bool (inI l x)]) ∧ ∃ q, w' = w.drewN q) := by
      intro g _ hc hv
      subst hv
      have := Any.slices_BinarySearch_int Tryz.laysNm225 g 0 n vc (zl l) x w (by omega) (by omega) (fun j hj => hc j (by omega)) (by rw [ht]; exact List.Pairwise.map _ (fun a b (h : a < b) => by omega) hu)
      rw [ht] at this
      exact this.mono fun e w' ⟨h1, h2⟩ => ⟨_, h1, h2⟩
    rcases Nat.eq_zero_or_pos n with h0 | h0
    · subst h0
      obtain rfl : l = [] := List.eq_nil_of_length_eq_zero hn
      have := Any.slices_BinarySearch_int_empty Tryz.laysNm225 va vc x w
      exact this.mono fun e w' ⟨h1, h2⟩ => ⟨0, h1, 0, h2⟩
    · obtain ⟨g, rfl⟩ := one_block ho h0
      refine key g (.inl rfl) (fun j hj => ?_) rfl
      rw [Nat.zero_add]
      refine own_cell ho j hj _ ?_
      have hj' : j < l.length := by omega
      simp [Ints, zl, List.getD, hj']
  clear ho hu
  generalize inI l x = b at *
  go_enter Tryz.func30, Tryz.ntmps30
  go_wp2_with fail
  refine CB.out.mono ?_
  rintro e w1 ⟨k, rfl, q, rfl⟩
  have hb : Hid (Below w.heap.size w (w.drewN q)) := ⟨rfl, rfl, rfl, Nat.le_refl _, fun _ _ => rfl⟩
  generalize w.drewN q = w1 at *
  clear CB
  go_wp2_with fail
  go_ret
  exact ⟨rfl, hb.out⟩
theorem implHolesR (W H Z : Int) (w : World) : Calls Tryz.prog 29 #[.agg #[.int .i64 W, .int .i64 H, .int .i64 Z]] w (OwnInts (holesR W H Z) w) := by
  cases h : okB W H Z
  · rw [show holesR W H Z = [] by simp [holesR, h]]; exact implHoles_no h w
  · obtain ⟨N, z, rfl, ho⟩ := ok_of h
    rw [show holesR W H z = bitsOf N z by simp [holesR, h, ho.list]]; exact implHoles ho w
theorem implOneR {W H Z : Int} {k : Nat} (hk : k ∈ holesR W H Z) (w : World) : Calls Tryz.prog 63 #[.agg #[.int .i64 W, .int .i64 H, .int .i64 Z], .int .i64 (k : Int)] w (QI (2 ^ k) w) := by
  unfold holesR at hk
  split at hk
  · next h =>
    obtain ⟨N, z, rfl, ho⟩ := ok_of h
    rw [Int.toNat_natCast, ho.list] at hk
    obtain ⟨h1, h2⟩ := mem_bitsOf.1 hk
    exact implOne_in ho h1 h2 w
  · cases hk
set_option maxHeartbeats 8000000 in
set_option maxRecDepth 100000 in
theorem implFinals (W H Z P : Int) (hP : P ≤ 9223372036854775807) (w : World) : Calls Tryz.prog 39 #[.agg #[.int .i64 W, .int .i64 H, .int .i64 Z], .int .i64 P] w (OwnInts (finL W H Z P) w) := by
  obtain ⟨j0, hj, jz0, jz1, jz2⟩ : ∃ i, Tryz.prog.info? 3 = some i ∧ i.zero = some (.int .i64 0) ∧ i.size = 1 ∧ i.bytes = 8 := ⟨_, by rfl, by rfl, by rfl, by rfl⟩
  have CR := Lib.hid (fun w => implReach W H Z P hP w)
  have CH := Lib.hid (fun w => implHolesR W H Z w)
  have CO := Lib.hid (fun k (hk : k ∈ holesR W H Z) w => implOneR hk w)
  have hlen := reach_len false W H Z P
  have HU := Lib.hid (reach_up false W H Z P)
  have hhl := holesR_len W H Z
  have HKt := Lib.hid (fun k (h : k ∈ holesR W H Z) => holesR_lt h)
  have HNx := Lib.hid (fun hs i h hi => fin_snoc W H Z P (hs := hs) i (h := h) hi)
  unfold finL
  generalize reachL false W H Z P = l at *
  generalize holesR W H Z = hs at *
  obtain ⟨n, hn⟩ : ∃ n, l.length = n := ⟨_, rfl⟩
  obtain ⟨m, hm⟩ : ∃ m, hs.length = m := ⟨_, rfl⟩
  rw [hn] at hlen
  rw [hm] at hhl
  have HN := Lib.hid hn
  have HM := Lib.hid hm
  clear hP hn hm
  go_enter Tryz.func39, Tryz.ntmps39
  go_wp2_with fail
  have B0 := Lib.hid (box_new W H Z w)
  generalize w.alloc (.cells #[.int .i64 W, .int .i64 H, .int .i64 Z] 25) = W1 at *
  obtain ⟨c0, c1, c2, hlt, hb1⟩ := B0.out
  go_wp2_with fail
  refine (CR.out _).mono ?_
  rintro e w2 ⟨v, rfl, hh, hb⟩
  rw [HN.out] at hh
  obtain ⟨va, vc, rfl⟩ := one_form hh
  have B2 := Lib.hid (B0.out.later hb)
  have hba : Below w2.heap.size w2 (w2.alloc (.cells #[] 3)) := (Below.refl _ _).alloc (Nat.le_refl _) _
  have HR3 := Lib.hid (own_below hh hba)
  have B3 := Lib.hid (B2.out.later hba)
  have HL3 : Hid ((w2.alloc (.cells #[] 3)).ownsRow w2.heap.size 3 1 (.slice (some ⟨w2.heap.size, 0, none⟩) 0 0) 0 (Ints [])) := World.ownsRow_made w2 #[] 0 (Nat.le_refl _) (by unfold maxLen; omega) rfl
  have hva : Hid (∀ g0, va = some ⟨g0, 0, none⟩ → g0 < w2.heap.size) := fun g0 hg => by
    have := (hh.lt g0 (by rw [hg]; rfl)).2
    exact this
  have hwC : w.heap.size < w2.heap.size := B2.out.2.2.2.1
  have hCz : w2.heap.size < (w2.alloc (.cells #[] 3)).heap.size := by simp
  clear hb hh c0 c1 c2 hlt hb1 B0 B2 hba
  generalize W1.heap.size = B1 at *
  obtain ⟨C, hC⟩ : ∃ C, w2.heap.size = C := ⟨_, rfl⟩
  have hmade : w2.heap.size = C := hC
  rw [hC] at HL3 hva hwC hCz
  obtain ⟨c0, c1, c2, hlt, hb1⟩ := B3.out
  go_wp2_with fail
  generalize w2.alloc (.cells #[] 3) = w3 at *
  clear hmade hC
  refine (CH.out _).mono ?_
  rintro e w4 ⟨hv, rfl, hh, hb⟩
  rw [HM.out] at hh
  obtain ⟨ha, hc, rfl⟩ := one_form hh
  have HS4 : Hid (TwoSt w W H Z C B1 w3.heap.size va n vc l ha m hc hs (.slice (some ⟨C, 0, none⟩) 0 0) [] w4) := by
    refine ⟨own_below HL3.out hb, own_below HR3.out hb, hh, fun g0 hg e => ?_, B3.out.later hb, hwC, Nat.le_trans (Nat.le_of_lt hCz) hb.size⟩
    have hg' := slice_block e
    subst hg'
    rcases hg with hg | hg
    · have := hva.out g0 hg
      omega
    · have := (hh.lt g0 (by rw [hg]; rfl)).1
      omega
  clear hb hh c0 c1 c2 hlt hb1 B3 HL3 HR3 CR CH hva hCz
  generalize w3.heap.size = B2 at *
  go_wp2_with fail
  go_loopw [6, 16] (fun u i wr => ∃ (k : Nat) (v : Value), k ≤ m ∧ i = .int .i64 k ∧ v = u ∧ Hid (TwoSt w W H Z C B1 B2 va n vc l ha m hc hs v ((hs.take k).filter (fun k => decide (2 ^ k ∈ l))) wr)) (fun _ i _ => m - (intOf i).toNat)
  case atStart => exact ⟨0, _, Nat.zero_le _, rfl, rfl, HS4⟩
  case round =>
    clear HS4
    obtain ⟨i, v, hi, rfl, rfl, HS⟩ := hrel
    by_cases him : i < m
    · have i0 : (0 : Int) ≤ (i : Int) := by omega
      have i1 : (i : Int) < (m : Int) := by omega
      obtain ⟨h, hh⟩ : ∃ h, hs[i]? = some h := ⟨_, List.getElem?_eq_getElem (by rw [HM.out]; exact him)⟩
      have hh49 := HKt.out h (List.mem_of_getElem? hh)
      have CK := Lib.hid (CO.out h (List.mem_of_getElem? hh))
      obtain ⟨q1, e1, n1, l1, u1⟩ := pow_nat h hh49
      have HNX := Lib.hid (HNx.out hs i h hh)
      obtain ⟨out0, hout⟩ : ∃ o, (hs.take i).filter (fun k => decide (2 ^ k ∈ l)) = o := ⟨_, rfl⟩
      rw [hout] at HNX HS
      rw [n1] at HNX
      rw [e1] at CK
      have hol : out0.length ≤ 49 := by
        rw [← hout]
        refine Nat.le_trans (List.length_filter_le ..) (Nat.le_trans (List.length_take_le' ..) (by rw [HM.out]; exact hhl))
      obtain ⟨gh, hha⟩ := one_block HS.out.hs (by omega)
      subst hha
      have hcl : wr.cell? ⟨gh, i, none⟩ = some (.int .i64 (h : Int)) := own_cell HS.out.hs i him _ (by simp [Ints, hh])
      obtain ⟨c0, c1, c2, hlt, hb1⟩ := HS.out.box
      clear hh hout n1 e1
      go_wp2_with fail
      refine (CK.out _).mono ?_
      rintro e wa ⟨rfl, hb⟩
      have HSa := Lib.hid (HS.out.later hb)
      clear hb HS hcl c0 c1 c2 hlt hb1 CK
      have CX := Lib.hid (implListed HN.out hlen HU.out HSa.out.l (q1 : Int))
      rw [inI_nat] at CX
      go_wp2_with fail
      refine CX.out.mono ?_
      rintro e wb ⟨rfl, hb⟩
      have HSb := Lib.hid (HSa.out.later hb)
      clear hb HSa CX
      by_cases hq : q1 ∈ l
      · rw [decide_eq_true hq]
        have HO : Hid ((hs.take (i + 1)).filter (fun k => decide (2 ^ k ∈ l)) = out0 ++ [h]) := by unfold Hid; rw [HNX.out, if_pos hq]
        have hbz := HSb.out.size
        have hon : out0.length ≤ 1000000000 := by omega
        obtain ⟨ol, holn⟩ : ∃ ol, out0.length = ol := ⟨_, rfl⟩
        have hown0 := HSb.out.out
        rw [holn] at hown0 hon
        have HPush := Lib.hid (fun w' g cap ho hg hb hat => HSb.out.push (w' := w') (g := g) (cap := cap) (x := h) (e := 3) ho hg hb hat)
        rw [holn] at HPush
        clear hq HNX HSb holn hol
        go_wp2_with (at_builtin; refine wpList_append_at rfl (.tmp 25) (.tmp 27) 28 rfl C 3 j0 (.int .i64 0) Tryz.underlying28 hj jz0 jz1 jz2 rfl _ _ out0 rfl hown0 _ rfl rfl hon hbz ?_; intro g' cap' w7 hown' hgrow hb2 hat)
        have HS7 := Lib.hid (HPush.out w7 g' cap' hown' hgrow hb2 hat)
        rw [← HO.out] at HS7
        clear hown' hgrow hb2 hat HPush hown0
        go_wp2_with fail
        go_roundw
        case rel => exact ⟨i + 1, _, by omega, by go_num, rfl, HS7⟩
        case measure => simp [intOf]; omega
      · rw [decide_eq_false hq]
        have HO : Hid ((hs.take (i + 1)).filter (fun k => decide (2 ^ k ∈ l)) = out0) := by unfold Hid; rw [HNX.out, if_neg hq, List.append_nil]
        rw [← HO.out] at HSb
        clear hq HNX hol
        go_wp2_with fail
        go_roundw
        case rel => exact ⟨i + 1, _, by omega, by go_num, rfl, HSb⟩
        case measure => simp [intOf]; omega
    · obtain rfl : i = m := by omega
      have hfull : Hid (hs.take i = hs) := List.take_of_length_le (by rw [HM.out]; exact Nat.le_refl _)
      rw [hfull.out] at HS
      have hp : Hid (OwnInts (hs.filter (fun k => decide (2 ^ k ∈ l))) w (.returned v) wr) := ⟨v, rfl, own_base HS.out.out (by omega), HS.out.box.2.2.2.2⟩
      clear HS
      go_wp2_with fail
      go_ret
      exact hp.out
end Go.Proofs.YtkenlighpelhiaaGreat
