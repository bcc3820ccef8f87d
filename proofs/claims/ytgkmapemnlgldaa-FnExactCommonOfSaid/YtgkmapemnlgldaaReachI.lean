/- What is reached, of the program: IsSmall, ReachOf, CanReach, CountReach, FewestLeft, FinalsOf, for every three ints and ints up to 2^63 - 1. -/
import Derived.Test.YtgkmapemnlgldaaReachS
import Derived.Test.YtgkmapemnlgldaaShelf
import Derived.Sort.OwnSortedInts
import Derived.Shelf.Slices.Empties
namespace Go.Proofs.Ytgkmapemnlgldaa
open Go.RowKit Go.Conc Go.Sort
set_option linter.unusedVariables false
set_option linter.unusedSimpArgs false
set_option maxRecDepth 100000 in
theorem implSmall (W H Z : Int) (w : World) : Calls Try.prog 36 #[.agg #[.int .i64 W, .int .i64 H, .int .i64 Z]] w (QB (smallB W H Z) w) := by
  have CO := Lib.hid (fun w => implOk W H Z w)
  cases ho : okB W H Z
  · have HG : Hid (smallB W H Z = false) := by unfold Hid smallB; rw [ho]; rfl
    rw [ho] at CO
    clear ho
    go_enter Try.func36, Try.ntmps36
    go_wp2_with fail
    have B0 := Lib.hid (box_new W H Z w)
    generalize w.alloc (.cells #[.int .i64 W, .int .i64 H, .int .i64 Z] 25) = W1 at *
    obtain ⟨c0, c1, c2, hlt, hb1⟩ := B0.out
    go_wp2_with fail
    refine (CO.out _).mono ?_
    rintro e w1 ⟨rfl, hb⟩
    have B1 := Lib.hid (B0.out.later hb)
    clear hb
    go_wp2_with fail
    go_ret
    exact ⟨ret_bool HG.out.symm, B1.out.2.2.2.2⟩
  · have HG : Hid (smallB W H Z = decide (W * H ≤ 16)) := by unfold Hid smallB; rw [ho]; rfl
    rw [ho] at CO
    obtain ⟨a, b, N, z, rfl, rfl, rfl, ok⟩ := okNat ho
    have hN := ok.nat.1
    have h49 := ok.n49
    have hmul : (a : Int) * (b : Int) = (N : Int) := by rw [← Int.natCast_mul, hN]
    have CS := Lib.hid (fun w => implSize (a : Int) (b : Int) (z : Int) w N hmul h49)
    rw [hmul] at HG
    clear ho ok hN hmul
    go_enter Try.func36, Try.ntmps36
    go_wp2_with fail
    have B0 := Lib.hid (box_new a b z w)
    generalize w.alloc (.cells #[.int .i64 (a : Int), .int .i64 (b : Int), .int .i64 (z : Int)] 25) = W1 at *
    obtain ⟨c0, c1, c2, hlt, hb1⟩ := B0.out
    go_wp2_with fail
    refine (CO.out _).mono ?_
    rintro e w1 ⟨rfl, hb⟩
    have B1 := Lib.hid (B0.out.later hb)
    clear hb c0 c1 c2 hlt hb1
    obtain ⟨c0, c1, c2, hlt, hb1⟩ := B1.out
    go_wp2_with fail
    refine (CS.out _).mono ?_
    rintro e w2 ⟨rfl, hb⟩
    have B2 := Lib.hid (B1.out.later hb)
    clear hb c0 c1 c2 hlt hb1
    go_wp2_with fail
    go_ret
    exact ⟨ret_bool (by rw [HG.out]), B2.out.2.2.2.2⟩
theorem implSmall_is {W H Z : Int} {b : Bool} (h : smallB W H Z = b) (w : World) : Calls Try.prog 36 #[.agg #[.int .i64 W, .int .i64 H, .int .i64 Z]] w (QB b w) := by rw [← h]; exact implSmall W H Z w
/-- The ints of a list of numbers. -/
def zl (l : List Nat) : List Int := List.map (fun (q : Nat) => (q : Int)) l
theorem zl_len (l : List Nat) : (zl l).length = l.length := by simp [zl]
theorem zl_ints (l : List Nat) : (zl l).map (Value.int .i64) = Ints l := by simp [zl, Ints]
theorem seen_up (back : Bool) (W H Z P : Int) : (seenL back W H Z P).Pairwise (· < ·) := List.Pairwise.filter _ List.pairwise_lt_range
/-- The library's sort of a list that the call owns, each number in it once. -/
theorem implSort {w0 w : World} {g n cap : Nat} {T L : List Nat} (hn : T.length = n) (h65 : n ≤ 65536) (hT : T.Nodup) (hL : L.Pairwise (· < ·)) (hm : ∀ q, q ∈ T ↔ q ∈ L)
    (hh : w.ownsRow w0.heap.size 3 1 (.slice (some ⟨g, 0, none⟩) n cap) n (Ints T)) (hb : Below w0.heap.size w0 w) :
    Calls Try.prog 82 #[.slice (some ⟨g, 0, none⟩) n cap] w (fun e w' => e = .returned (.tuple #[]) ∧ OwnInts L w0 (.returned (.slice (some ⟨g, 0, none⟩) n cap)) w') := by
  rcases hh.2 with ⟨h0, -⟩ | ⟨g', cap', cur, hv, hbase, hbk, h1, h2, h3, h4⟩
  · cases h0
  cases hv
  have hz : (zl T).length = n := by rw [zl_len, hn]
  have hH : Holds (Value.int .i64) w g 0 (zl T).toArray := holds_of_blockI hbk (by rw [zl_ints, hz]; simpa using h4)
  have hlt : g < w.heap.size := (Array.getElem?_eq_some_iff.1 hbk).1
  have hS := Any.slices_Sort_int Try.lays189 g 0 cap (zl T) w hH hlt (by omega)
  rw [hz] at hS
  have hLn : L.length = n := by
    rw [← hn]
    exact ((List.perm_ext_iff_of_nodup hT (hL.imp (fun h => Nat.ne_of_lt h))).2 hm).length_eq.symm
  have hms : ((zl T).mergeSort fun x y => decide (x ≤ y)) = zl L := sort_nats hT hL hm
  rw [hms] at hS
  refine hS.mono ?_
  rintro e w' ⟨rfl, k, os, rfl⟩
  have hg := grownBy_sortedI (w := w) (g := g) (n := k) (os := os) (zl L).toArray
  refine ⟨rfl, _, rfl, ?_, hb.trans ⟨hg.os, hg.tape, hg.output, hg.size, fun j hj => hg.block j (Nat.lt_of_lt_of_le hj hb.size) (by intro e; cases e; omega)⟩⟩
  have := ownsRow_sortedI (w := w) (n := k) (os := os) (ss := zl T) (ts := zl L) (by rw [zl_len, zl_len, hLn, hn]) hbase hbk (by omega) h2 h3
  rw [zl_ints, hz] at this
  rw [hLn]
  exact this
/-- Whether a number is in a list. -/
def inI (l : List Nat) (x : Int) : Bool := (zl l).contains x
theorem inI_nat (l : List Nat) (q : Nat) : inI l (q : Int) = decide (q ∈ l) := by
  rw [Bool.eq_iff_iff]
  unfold inI zl
  simp only [List.contains_iff_mem, List.mem_map, decide_eq_true_eq]
  exact ⟨fun ⟨a, h, e⟩ => by obtain rfl : a = q := by omega
                             exact h, fun h => ⟨q, h, rfl⟩⟩
theorem inI_neg {l : List Nat} {x : Int} (h : x < 0) : inI l x = false := by
  rw [Bool.eq_false_iff]
  unfold inI zl
  simp only [ne_eq, List.contains_iff_mem, List.mem_map, not_exists, not_and]
  intro a _ e
  omega
theorem inI_reach {back : Bool} {W H Z P G : Int} : inI (reachL back W H Z P) G = reachB back W H Z P G := by
  rcases Int.lt_or_le G 0 with h | h
  · rw [inI_neg h]
    symm
    rw [Bool.eq_false_iff]
    intro hr
    simp only [reachB, Bool.and_eq_true] at hr
    obtain ⟨N, z, p, -, rfl, -, -⟩ := pos_yes hr.1.2
    omega
  · obtain ⟨q, rfl⟩ : ∃ q : Nat, G = q := ⟨G.toNat, by omega⟩
    rw [inI_nat, Bool.eq_iff_iff, decide_eq_true_eq]
    exact reach_mem
theorem reach_up (back : Bool) (W H Z P : Int) : (reachL back W H Z P).Pairwise (· < ·) := by
  unfold reachL
  split
  · exact seen_up back W H Z P
  · exact List.Pairwise.nil
theorem implHolesR (W H Z : Int) (w : World) : Calls Try.prog 64 #[.agg #[.int .i64 W, .int .i64 H, .int .i64 Z]] w (OwnInts (holesR W H Z) w) := by
  cases h : okB W H Z
  · rw [show holesR W H Z = [] by simp [holesR, h]]; exact implHoles_no h w
  · obtain ⟨N, z, rfl, ho⟩ := ok_of h
    rw [show holesR W H z = bitsOf N z by simp [holesR, h, ho.list]]; exact implHoles ho w
end Go.Proofs.Ytgkmapemnlgldaa
