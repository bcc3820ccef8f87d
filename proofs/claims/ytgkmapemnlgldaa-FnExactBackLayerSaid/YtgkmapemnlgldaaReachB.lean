/- What is reached, of the model: l14List, IsSmall, ReachOf, CanReach, CountReach, for every three ints and ints up to 2^63 - 1. -/
import Derived.Test.YtgkmapemnlgldaaReachA
namespace Go.Proofs.Ytgkmapemnlgldaa
open Go.RowKit
set_option linter.unusedVariables false
set_option linter.unusedSimpArgs false
theorem one_form {w : World} {b n : Nat} {e : TypeId} {v : Value} {xs : List Value} (h : w.ownsRow b e 1 v n xs) : ∃ a c, v = .slice a n c := by
  rcases Go.Joins.ownsRow_forms h with ⟨rfl, rfl⟩ | ⟨g, cap, rfl⟩
  · exact ⟨_, _, rfl⟩
  · exact ⟨_, _, rfl⟩
theorem one_block {w : World} {b n c : Nat} {a : Option Addr} {e : TypeId} {xs : List Value} (h : w.ownsRow b e 1 (.slice a n c) n xs) (hn : 0 < n) : ∃ g, a = some ⟨g, 0, none⟩ := by
  rcases Go.Joins.ownsRow_forms h with ⟨h1, h2⟩ | ⟨g, cap, h1⟩
  · omega
  · injection h1 with h1 h2 h3; exact ⟨g, h1⟩
theorem filter_range_succ (s : Nat → Bool) (k : Nat) : (List.range (k + 1)).filter s = (List.range k).filter s ++ (if s k = true then [k] else []) := by
  rw [List.range_succ, List.filter_append]
  congr 1
  cases h : s k <;> simp [h]
set_option maxHeartbeats 4000000 in
set_option maxRecDepth 100000 in
theorem specMarks {b g M : Nat} {s : Nat → Bool} (hM : M ≤ 65536) (w : World) (h : w.ownsRow b 4 1 (.slice (some ⟨g, 0, none⟩) M M) M (bv M s)) :
    Calls Try.prog 43 #[.slice (some ⟨g, 0, none⟩) M M] w (OwnInts ((List.range M).filter s) w) := by
  obtain ⟨j0, hj, jz0, jz1, jz2⟩ : ∃ i, Try.prog.info? 3 = some i ∧ i.zero = some (.int .i64 0) ∧ i.size = 1 ∧ i.bytes = 8 := ⟨_, by rfl, by rfl, by rfl, by rfl⟩
  have HR := Lib.hid h
  clear h
  go_enter Try.func43, Try.ntmps43
  go_wp2_with fail
  have HL1 : Hid ((w.alloc (.cells #[] 3)).ownsRow w.heap.size 3 1 (.slice (some ⟨w.heap.size, 0, none⟩) 0 0) ((List.range 0).filter s).length (Ints ((List.range 0).filter s))) := World.ownsRow_made w #[] 0 (Nat.le_refl _) (by unfold maxLen; omega) rfl
  have HB1 : Hid (Below w.heap.size w (w.alloc (.cells #[] 3))) := (Below.refl _ _).alloc (Nat.le_refl _) _
  generalize w.alloc (.cells #[] 3) = w1 at *
  go_loopw [3, 4] (fun u i wr => ∃ (k : Nat) (v : Value), k ≤ M ∧ i = .int .i64 k ∧ v = u ∧ Hid (wr.ownsRow w.heap.size 3 1 v ((List.range k).filter s).length (Ints ((List.range k).filter s))) ∧ Hid (Below w.heap.size w wr)) (fun _ i _ => M - (intOf i).toNat)
  case atStart => exact ⟨0, _, Nat.zero_le _, rfl, rfl, HL1, HB1⟩
  case round =>
    clear HL1 HB1
    obtain ⟨k, v, hk, rfl, rfl, HL, HB⟩ := hrel
    by_cases hkM : k < M
    · have k0 : (0 : Int) ≤ (k : Int) := by omega
      have k1 : (k : Int) < (M : Int) := by omega
      have hc := own_cell (own_below HR.out HB.out) k hkM _ (bv_get s hkM)
      have HN := Lib.hid (filter_range_succ s k)
      obtain ⟨m, hm⟩ : ∃ m, ((List.range k).filter s).length = m := ⟨_, rfl⟩
      have hmk : m ≤ k := by rw [← hm]; exact Nat.le_trans (List.length_filter_le ..) (by simp)
      cases hs : s k
      · rw [hs] at hc HN
        have HN2 : Hid ((List.range (k + 1)).filter s = (List.range k).filter s) := by unfold Hid; rw [HN.out]; simp
        rw [← HN2.out] at HL
        clear hs hm
        go_wp2_with fail
        go_roundw
        case rel => exact ⟨k + 1, v, by omega, by go_num, rfl, HL, HB⟩
        case measure => simp [intOf]; omega
      · rw [hs] at hc HN
        have HN2 : Hid ((List.range (k + 1)).filter s = (List.range k).filter s ++ [k]) := by unfold Hid; rw [HN.out]; simp
        have HLk := Lib.hid HL.out
        rw [hm] at HLk
        have HM2 : Hid (((List.range (k + 1)).filter s).length = m + 1) := by unfold Hid; rw [HN2.out, List.length_append, hm]; rfl
        have hbz := HB.out.size
        have hmn : m ≤ 1000000000 := by omega
        clear hs hm HL
        go_wp2_with (at_builtin; refine wpList_append_one rfl (.tmp 16) (.tmp 18) 30 rfl w.heap.size 3 j0 (.int .i64 0) 8 Try.underlying30 hj jz0 jz1 jz2 rfl (by decide) _ m (Ints ((List.range k).filter s)) rfl HLk.out rfl rfl hmn hbz ?_; intro g' cap' w8 hown' hgrow hb2)
        have HL8 : Hid (w8.ownsRow w.heap.size 3 1 (.slice (some ⟨g', 0, none⟩) (m + 1) cap') ((List.range (k + 1)).filter s).length (Ints ((List.range (k + 1)).filter s))) := by
          unfold Hid
          rw [HM2.out, HN2.out]
          simpa [Ints] using hown'
        have HB8 := Lib.hid (HB.out.trans hb2)
        clear hown' hgrow hb2 HLk
        go_wp2_with fail
        go_roundw
        case rel => exact ⟨k + 1, _, by omega, by go_num, rfl, HL8, HB8⟩
        case measure => simp [intOf]; omega
    · obtain rfl : k = M := by omega
      have hp : Hid (OwnInts ((List.range k).filter s) w (.returned v) wr) := ⟨v, rfl, HL.out, HB.out⟩
      clear HL HB
      go_wp2_with fail
      go_ret
      exact hp.out
set_option maxRecDepth 100000 in
theorem specSmall (W H Z : Int) (w : World) : Calls Try.prog 34 #[.agg #[.int .i64 W, .int .i64 H, .int .i64 Z]] w (QB (smallB W H Z) w) := by
  have CO := Lib.hid (fun w => specOk W H Z w)
  cases ho : okB W H Z
  · have HG : Hid (smallB W H Z = false) := by unfold Hid smallB; rw [ho]; rfl
    rw [ho] at CO
    clear ho
    go_enter Try.func34, Try.ntmps34
    go_wp2_with fail
    have B0 := Lib.hid (box_new W H Z w)
    generalize w.alloc (.cells #[.int .i64 W, .int .i64 H, .int .i64 Z] 25) = W1 at *
    obtain ⟨c0, c1, c2, hlt, hb1⟩ := B0.out
    go_wp2_with fail
    refine (CO.out _).mono ?_
    rintro e w1 ⟨rfl, hb⟩
    have B1 := Lib.hid (B0.out.later hb)
    clear hb
    go_wp2_with fail
    go_ret
    exact ⟨ret_bool HG.out.symm, B1.out.2.2.2.2⟩
  · have HG : Hid (smallB W H Z = decide (W * H ≤ 16)) := by unfold Hid smallB; rw [ho]; rfl
    rw [ho] at CO
    obtain ⟨a, b, N, z, rfl, rfl, rfl, ok⟩ := okNat ho
    have hN := ok.nat.1
    have h49 := ok.n49
    have hmul : (a : Int) * (b : Int) = (N : Int) := by rw [← Int.natCast_mul, hN]
    rw [hmul] at HG
    clear ho ok hN
    go_enter Try.func34, Try.ntmps34
    go_wp2_with fail
    have B0 := Lib.hid (box_new a b z w)
    generalize w.alloc (.cells #[.int .i64 (a : Int), .int .i64 (b : Int), .int .i64 (z : Int)] 25) = W1 at *
    obtain ⟨c0, c1, c2, hlt, hb1⟩ := B0.out
    go_wp2_with fail
    refine (CO.out _).mono ?_
    rintro e w1 ⟨rfl, hb⟩
    have B1 := Lib.hid (B0.out.later hb)
    clear hb c0 c1 c2 hlt hb1
    obtain ⟨c0, c1, c2, hlt, hb1⟩ := B1.out
    go_wp2_with fail
    go_ret
    exact ⟨ret_bool (by rw [HG.out]), hb1⟩
theorem specSmall_is {W H Z : Int} {b : Bool} (h : smallB W H Z = b) (w : World) : Calls Try.prog 34 #[.agg #[.int .i64 W, .int .i64 H, .int .i64 Z]] w (QB b w) := by rw [← h]; exact specSmall W H Z w
theorem specSeenL {W H Z P : Int} (back : Bool) (h1 : smallB W H Z = true) (h2 : posB W H Z P = true) : ∃ M : Nat, M ≤ 65536 ∧ 2 ^ (W * H).toNat = M ∧ (∀ G, posB W H Z G = true → ∃ q : Nat, G = q ∧ q < M) ∧ ∀ w, Calls Try.prog 35 #[.agg #[.int .i64 W, .int .i64 H, .int .i64 Z], .int .i64 P, .bool back] w (SeenPost M (seenB back W H Z P) w) := by
  obtain ⟨a, b, N, z, rfl, rfl, rfl, ho, hN, h16⟩ := small_nat h1
  obtain ⟨N', z', p, e1, rfl, ho', hp⟩ := pos_yes h2
  obtain rfl : z = z' := by omega
  refine ⟨2 ^ N, Nat.pow_le_pow_right (by decide) h16, by rw [← Int.natCast_mul, hN, Int.toNat_natCast], fun G hG => ?_, fun w => specSeen back ho h16 hp w⟩
  obtain ⟨N2, z2, q, e2, rfl, ho2, hq⟩ := pos_yes hG
  obtain rfl : z = z2 := by omega
  exact ⟨q, rfl, part_lt hq ho.zlt⟩
set_option maxHeartbeats 2000000 in
set_option maxRecDepth 100000 in
theorem specReach (W H Z P : Int) (hP : P ≤ 9223372036854775807) (w : World) : Calls Try.prog 16 #[.agg #[.int .i64 W, .int .i64 H, .int .i64 Z], .int .i64 P] w (OwnInts (reachL false W H Z P) w) := by
  have C1 := Lib.hid (fun b (h : smallB W H Z = b) w => specSmall_is h w)
  have C2 := Lib.hid (fun b (h : posB W H Z P = b) w => specPos_is hP h w)
  cases h1 : smallB W H Z
  · have HG := Lib.hid (reach_no (back := false) (W := W) (H := H) (Z := Z) (P := P) (by rw [h1]; rfl))
    have C1 := Lib.hid (C1.out _ h1)
    clear h1
    rw [HG.out]
    go_enter Try.func16, Try.ntmps16
    go_wp2_with fail
    have B0 := Lib.hid (box_new W H Z w)
    generalize w.alloc (.cells #[.int .i64 W, .int .i64 H, .int .i64 Z] 25) = W1 at *
    obtain ⟨c0, c1, c2, hlt, hb1⟩ := B0.out
    go_wp2_with fail
    refine (C1.out _).mono ?_
    rintro e w1 ⟨rfl, hb⟩
    have B1 := Lib.hid (B0.out.later hb)
    have hwz := B1.out.2.2.2.2.size
    have hp : Hid (OwnInts [] w (.returned (.slice (some ⟨w1.heap.size, 0, none⟩) 0 0)) (w1.alloc (.cells #[] 3))) := ⟨_, rfl, World.ownsRow_made w1 #[] 0 hwz (by unfold maxLen; omega) rfl, B1.out.2.2.2.2.alloc hwz _⟩
    clear hb
    go_wp2_with fail
    go_ret
    exact hp.out
  have K1 := Lib.hid (C1.out _ h1)
  cases h2 : posB W H Z P
  · have HG := Lib.hid (reach_no (back := false) (W := W) (H := H) (Z := Z) (P := P) (by rw [h1, h2]; rfl))
    have K2 := Lib.hid (C2.out _ h2)
    clear h1 h2
    rw [HG.out]
    go_enter Try.func16, Try.ntmps16
    go_wp2_with fail
    have B0 := Lib.hid (box_new W H Z w)
    generalize w.alloc (.cells #[.int .i64 W, .int .i64 H, .int .i64 Z] 25) = W1 at *
    obtain ⟨c0, c1, c2, hlt, hb1⟩ := B0.out
    go_wp2_with fail
    refine (K1.out _).mono ?_
    rintro e w1 ⟨rfl, hb⟩
    have B1 := Lib.hid (B0.out.later hb)
    clear hb c0 c1 c2 hlt hb1
    obtain ⟨c0, c1, c2, hlt, hb1⟩ := B1.out
    go_wp2_with fail
    refine (K2.out _).mono ?_
    rintro e w2 ⟨rfl, hb⟩
    have B2 := Lib.hid (B1.out.later hb)
    have hwz := B2.out.2.2.2.2.size
    have hp : Hid (OwnInts [] w (.returned (.slice (some ⟨w2.heap.size, 0, none⟩) 0 0)) (w2.alloc (.cells #[] 3))) := ⟨_, rfl, World.ownsRow_made w2 #[] 0 hwz (by unfold maxLen; omega) rfl, B2.out.2.2.2.2.alloc hwz _⟩
    clear hb
    go_wp2_with fail
    go_ret
    exact hp.out
  · have HG := Lib.hid (reach_yes (back := false) h1 h2)
    have K2 := Lib.hid (C2.out _ h2)
    obtain ⟨M, hM, hM2, -, hseen⟩ := specSeenL false h1 h2
    have HS := Lib.hid hseen
    have HG : Hid (reachL false W H Z P = (List.range M).filter (seenB false W H Z P)) := by unfold Hid; rw [HG.out, seenL, hM2]
    rw [HG.out]
    generalize seenB false W H Z P = s at *
    clear h1 h2 hM2 hseen
    go_enter Try.func16, Try.ntmps16
    go_wp2_with fail
    have B0 := Lib.hid (box_new W H Z w)
    generalize w.alloc (.cells #[.int .i64 W, .int .i64 H, .int .i64 Z] 25) = W1 at *
    obtain ⟨c0, c1, c2, hlt, hb1⟩ := B0.out
    go_wp2_with fail
    refine (K1.out _).mono ?_
    rintro e w1 ⟨rfl, hb⟩
    have B1 := Lib.hid (B0.out.later hb)
    clear hb c0 c1 c2 hlt hb1
    obtain ⟨c0, c1, c2, hlt, hb1⟩ := B1.out
    go_wp2_with fail
    refine (K2.out _).mono ?_
    rintro e w2 ⟨rfl, hb⟩
    have B2 := Lib.hid (B1.out.later hb)
    clear hb c0 c1 c2 hlt hb1
    obtain ⟨c0, c1, c2, hlt, hb1⟩ := B2.out
    go_wp2_with fail
    refine (HS.out _).mono ?_
    rintro e w3 ⟨g, rfl, hh, hb⟩
    have B3 := Lib.hid (B2.out.later hb)
    have CX := Lib.hid (specMarks hM w3 hh)
    clear hb hh c0 c1 c2 hlt hb1
    go_wp2_with fail
    refine CX.out.mono ?_
    rintro e w4 ⟨v, rfl, hh, hb⟩
    have hwz := B3.out.2.2.2.2.size
    have hp : Hid (OwnInts ((List.range M).filter s) w (.returned v) w4) := ⟨v, rfl, own_base hh hwz, B3.out.2.2.2.2.trans (hb.mono hwz)⟩
    clear hh hb
    go_wp2_with fail
    go_ret
    exact hp.out
end Go.Proofs.Ytgkmapemnlgldaa
