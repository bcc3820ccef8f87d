/- Layers, of the model: l17Layer, LayerOf, BackLayer, WidestLayer, for every three ints and ints up to 2^63 - 1. -/
import Derived.Test.YtgkmapemnlgldaaLayA
namespace Go.Proofs.Ytgkmapemnlgldaa
open Go.RowKit
set_option linter.unusedVariables false
set_option linter.unusedSimpArgs false
theorem lay_parts {a b N z p : Nat} {back : Bool} (ho : Ok (a : Int) (b : Int) N z) (hp : Part p z) (k : Nat) : ∀ q ∈ layK (stepL back (lnsOf (a : Int) b z)) (2 ^ N) p k, Part q z := fun q hq => rch_part ho hp (layK_rch hq)
set_option maxHeartbeats 4000000 in
set_option maxRecDepth 100000 in
theorem specLayer (back : Bool) (W H Z P n : Int) (hP : P ≤ 9223372036854775807) (hn : n ≤ 9223372036854775807) (w : World) : Calls Try.prog 45 #[.agg #[.int .i64 W, .int .i64 H, .int .i64 Z], .int .i64 P, .int .i64 n, .bool back] w (OwnInts (layL back W H Z P n) w) := by
  have C1 := Lib.hid (fun b (h : smallB W H Z = b) w => specSmall_is h w)
  have C2 := Lib.hid (fun b (h : posB W H Z P = b) w => specPos_is hP h w)
  have HNew : Hid (∀ (w1 : World), Below w.heap.size w w1 → OwnInts [] w (.returned (.slice (some ⟨w1.heap.size, 0, none⟩) 0 0)) (w1.alloc (.cells #[] 3))) := fun w1 hb => ⟨_, rfl, World.ownsRow_made w1 #[] 0 hb.size (by unfold maxLen; omega) rfl, hb.alloc hb.size _⟩
  cases h1 : smallB W H Z
  · have K1 := Lib.hid (C1.out _ h1)
    rw [layL_no (by rw [h1]; rfl)]
    clear h1 C1 C2 hP hn
    go_enter Try.func45, Try.ntmps45
    go_wp2_with fail
    have B0 := Lib.hid (box_new W H Z w)
    generalize w.alloc (.cells #[.int .i64 W, .int .i64 H, .int .i64 Z] 25) = W1 at *
    obtain ⟨c0, c1, c2, hlt, hb1⟩ := B0.out
    go_wp2_with fail
    refine (K1.out _).mono ?_
    rintro e w1 ⟨rfl, hb⟩
    have HF := Lib.hid (HNew.out w1 (B0.out.later hb).2.2.2.2)
    clear hb c0 c1 c2 hlt hb1
    go_wp2_with fail
    go_ret
    exact HF.out
  have K1 := Lib.hid (C1.out _ h1)
  cases h2 : posB W H Z P
  · have K2 := Lib.hid (C2.out _ h2)
    rw [layL_no (by rw [h1, h2]; rfl)]
    clear h1 h2 C1 C2 hP hn
    go_enter Try.func45, Try.ntmps45
    go_wp2_with fail
    have B0 := Lib.hid (box_new W H Z w)
    generalize w.alloc (.cells #[.int .i64 W, .int .i64 H, .int .i64 Z] 25) = W1 at *
    obtain ⟨c0, c1, c2, hlt, hb1⟩ := B0.out
    go_wp2_with fail
    refine (K1.out _).mono ?_
    rintro e w1 ⟨rfl, hb⟩
    have B1 := Lib.hid (B0.out.later hb)
    clear hb c0 c1 c2 hlt hb1
    obtain ⟨c0, c1, c2, hlt, hb1⟩ := B1.out
    go_wp2_with fail
    refine (K2.out _).mono ?_
    rintro e w2 ⟨rfl, hb⟩
    have HF := Lib.hid (HNew.out w2 (B1.out.later hb).2.2.2.2)
    clear hb c0 c1 c2 hlt hb1
    go_wp2_with fail
    go_ret
    exact HF.out
  have K2 := Lib.hid (C2.out _ h2)
  rcases Int.lt_or_le n 0 with h3 | h3
  · rw [layL_no (by rw [h1, h2, decide_eq_false (by omega)]; rfl)]
    clear h1 h2 C1 C2 hP hn
    go_enter Try.func45, Try.ntmps45
    go_wp2_with fail
    have B0 := Lib.hid (box_new W H Z w)
    generalize w.alloc (.cells #[.int .i64 W, .int .i64 H, .int .i64 Z] 25) = W1 at *
    obtain ⟨c0, c1, c2, hlt, hb1⟩ := B0.out
    go_wp2_with fail
    refine (K1.out _).mono ?_
    rintro e w1 ⟨rfl, hb⟩
    have B1 := Lib.hid (B0.out.later hb)
    clear hb c0 c1 c2 hlt hb1
    obtain ⟨c0, c1, c2, hlt, hb1⟩ := B1.out
    go_wp2_with fail
    refine (K2.out _).mono ?_
    rintro e w2 ⟨rfl, hb⟩
    have HF := Lib.hid (HNew.out w2 (B1.out.later hb).2.2.2.2)
    clear hb c0 c1 c2 hlt hb1
    go_wp2_with fail
    go_ret
    exact HF.out
  · obtain ⟨m, rfl⟩ := Int.eq_ofNat_of_zero_le h3
    obtain ⟨a, b, N, z, p, S⟩ := small5 h1 h2
    obtain ⟨rfl, rfl, rfl, rfl, ho, h16, hp⟩ := S
    have hpM := part_lt hp ho.zlt
    have CN := Lib.hid (fun (k nn : Nat) (hk : (layK (stepL back (lnsOf (a : Int) b z)) (2 ^ N) p k).length = nn) (Bx vc : Nat) (va : Option Addr) (w : World) hr => specNext (Bx := Bx) (vc := vc) (va := va) back ho h16 hk (by rw [← hk]; exact Nat.le_trans (layK_len hpM k) (Nat.pow_le_pow_right (by decide) h16)) (lay_parts ho hp k) w hr)
    have HLen : Hid (∀ k, (layK (stepL back (lnsOf (a : Int) b z)) (2 ^ N) p k).length ≤ 65536) := fun k => Nat.le_trans (layK_len hpM k) (Nat.pow_le_pow_right (by decide) h16)
    have HNil : Hid (∀ k, k ≤ m → layK (stepL back (lnsOf (a : Int) b z)) (2 ^ N) p k = [] → layK (stepL back (lnsOf (a : Int) b z)) (2 ^ N) p m = []) := fun k hk h => by
      have := layK_nil h (m - k)
      rwa [show k + (m - k) = m by omega] at this
    rw [layL_yes ho h16 hp m]
    have H0 : Hid (layK (stepL back (lnsOf (a : Int) b z)) (2 ^ N) p 0 = [p]) := rfl
    have HS : Hid (∀ k, nextK (stepL back (lnsOf (a : Int) b z)) (2 ^ N) (layK (stepL back (lnsOf (a : Int) b z)) (2 ^ N) p k) = layK (stepL back (lnsOf (a : Int) b z)) (2 ^ N) p (k + 1)) := fun k => rfl
    have CN2 : Hid (∀ (k nn : Nat) (hk : (layK (stepL back (lnsOf (a : Int) b z)) (2 ^ N) p k).length = nn) (Bx vc : Nat) (va : Option Addr) (w : World), w.ownsRow Bx 3 1 (.slice va nn vc) nn (Ints (layK (stepL back (lnsOf (a : Int) b z)) (2 ^ N) p k)) → Calls Try.prog 48 #[.agg #[.int .i64 a, .int .i64 b, .int .i64 z], .slice va nn vc, .bool back] w (OwnInts (layK (stepL back (lnsOf (a : Int) b z)) (2 ^ N) p (k + 1)) w)) := fun k nn hk Bx vc va w hr => CN.out k nn hk Bx vc va w hr
    generalize layK (stepL back (lnsOf (a : Int) b z)) (2 ^ N) p = lay at *
    clear h1 h2 C1 C2 hP ho h16 hp CN HS hpM h3
    have h3 : ¬ (m : Int) < 0 := by omega
    go_enter Try.func45, Try.ntmps45
    go_wp2_with fail
    have B0 := Lib.hid (box_new a b z w)
    generalize w.alloc (.cells #[.int .i64 (a : Int), .int .i64 (b : Int), .int .i64 (z : Int)] 25) = W1 at *
    obtain ⟨c0, c1, c2, hlt, hb1⟩ := B0.out
    go_wp2_with fail
    refine (K1.out _).mono ?_
    rintro e w1 ⟨rfl, hb⟩
    have B1 := Lib.hid (B0.out.later hb)
    clear hb c0 c1 c2 hlt hb1
    obtain ⟨c0, c1, c2, hlt, hb1⟩ := B1.out
    go_wp2_with fail
    refine (K2.out _).mono ?_
    rintro e w2 ⟨rfl, hb⟩
    have B2 := Lib.hid (B1.out.later hb)
    have hba : Below w2.heap.size w2 (w2.alloc (.cells #[.int .i64 (p : Int)] 3)) := (Below.refl _ _).alloc (Nat.le_refl _) _
    have B3 := Lib.hid (B2.out.later hba)
    have HR3 : Hid ((w2.alloc (.cells #[.int .i64 (p : Int)] 3)).ownsRow w.heap.size 3 1 (.slice (some ⟨w2.heap.size, 0, none⟩) 1 1) (lay 0).length (Ints (lay 0))) := by
      unfold Hid
      rw [H0.out]
      exact own_base (own_single w2 p) B2.out.2.2.2.2.size
    clear hb c0 c1 c2 hlt hb1 hba B1 B2
    go_wp2_with fail
    generalize w2.alloc (.cells #[.int .i64 (p : Int)] 3) = w3 at *
    go_loopw [9, 10] (fun s i wr => ∃ (k : Nat) (v : Value), k ≤ m ∧ i = .int .i64 k ∧ v = s ∧ Hid (wr.ownsRow w.heap.size 3 1 v (lay k).length (Ints (lay k))) ∧ Hid (Box w.heap.size a b z w wr)) (fun _ i _ => m - (intOf i).toNat)
    case atStart => exact ⟨0, _, Nat.zero_le _, rfl, rfl, HR3, B3⟩
    case round =>
      clear HR3 B3
      obtain ⟨k, v, hk, rfl, rfl, HR, HB⟩ := hrel
      obtain ⟨nn, hnn⟩ : ∃ nn, (lay k).length = nn := ⟨_, rfl⟩
      have hl65 := HLen.out k
      rw [hnn] at HR hl65
      obtain ⟨va, vc, rfl⟩ := one_form HR.out
      by_cases hkm : k < m
      · have k1 : (k : Int) < (m : Int) := by omega
        by_cases hn0 : 0 < nn
        · have n1 : (0 : Int) < (nn : Int) := by omega
          have CX := Lib.hid (CN2.out k nn hnn w.heap.size vc va)
          obtain ⟨c0, c1, c2, hlt, hb1⟩ := HB.out
          clear hnn
          go_wp2_with fail
          refine (CX.out _ HR.out).mono ?_
          rintro e w5 ⟨v', rfl, hh, hb⟩
          have HR2 := Lib.hid (own_base hh hb1.size)
          have HB2 := Lib.hid (HB.out.later hb)
          clear hh hb c0 c1 c2 hlt hb1 HB HR CX
          go_wp2_with fail
          go_roundw
          case rel => exact ⟨k + 1, _, by omega, by go_num, rfl, HR2, HB2⟩
          case measure => simp [intOf]; omega
        · obtain rfl : nn = 0 := by omega
          have HE := Lib.hid (HNil.out k hk (List.eq_nil_of_length_eq_zero hnn))
          have HE2 : Hid (lay k = []) := List.eq_nil_of_length_eq_zero hnn
          rw [HE2.out] at HR
          have HF : Hid (OwnInts (lay m) w (.returned (.slice va 0 vc)) wr) := by
            unfold Hid
            rw [HE.out]
            exact ⟨_, rfl, HR.out, HB.out.2.2.2.2⟩
          clear hnn HR
          go_wp2_with fail
          go_ret
          exact HF.out
      · obtain rfl : k = m := by omega
        have HF : Hid (OwnInts (lay k) w (.returned (.slice va nn vc)) wr) := ⟨_, rfl, by rw [hnn]; exact HR.out, HB.out.2.2.2.2⟩
        clear hnn HR
        go_wp2_with fail
        go_ret
        exact HF.out
set_option maxRecDepth 100000 in
theorem specLayerOf (W H Z P n : Int) (hP : P ≤ 9223372036854775807) (hn : n ≤ 9223372036854775807) (w : World) : Calls Try.prog 20 #[.agg #[.int .i64 W, .int .i64 H, .int .i64 Z], .int .i64 P, .int .i64 n] w (OwnInts (layL false W H Z P n) w) := by
  have C1 := Lib.hid (fun w => specLayer false W H Z P n hP hn w)
  clear hP hn
  go_enter Try.func20, Try.ntmps20
  go_wp2_with fail
  have B0 := Lib.hid (box_new W H Z w)
  generalize w.alloc (.cells #[.int .i64 W, .int .i64 H, .int .i64 Z] 25) = W1 at *
  obtain ⟨c0, c1, c2, hlt, hb1⟩ := B0.out
  go_wp2_with fail
  refine (C1.out _).mono ?_
  rintro e w1 ⟨v, rfl, ho, hb⟩
  have HO := Lib.hid (own_base ho hb1.size)
  have B1 := Lib.hid (B0.out.later hb)
  clear ho hb c0 c1 c2 hlt hb1 B0
  go_wp2_with fail
  go_ret
  exact ⟨_, rfl, HO.out, B1.out.2.2.2.2⟩
set_option maxRecDepth 100000 in
theorem specBackLayer (W H Z P n : Int) (hP : P ≤ 9223372036854775807) (hn : n ≤ 9223372036854775807) (w : World) : Calls Try.prog 25 #[.agg #[.int .i64 W, .int .i64 H, .int .i64 Z], .int .i64 P, .int .i64 n] w (OwnInts (layL true W H Z P n) w) := by
  have C1 := Lib.hid (fun w => specLayer true W H Z P n hP hn w)
  clear hP hn
  go_enter Try.func25, Try.ntmps25
  go_wp2_with fail
  have B0 := Lib.hid (box_new W H Z w)
  generalize w.alloc (.cells #[.int .i64 W, .int .i64 H, .int .i64 Z] 25) = W1 at *
  obtain ⟨c0, c1, c2, hlt, hb1⟩ := B0.out
  go_wp2_with fail
  refine (C1.out _).mono ?_
  rintro e w1 ⟨v, rfl, ho, hb⟩
  have HO := Lib.hid (own_base ho hb1.size)
  have B1 := Lib.hid (B0.out.later hb)
  clear ho hb c0 c1 c2 hlt hb1 B0
  go_wp2_with fail
  go_ret
  exact ⟨_, rfl, HO.out, B1.out.2.2.2.2⟩
end Go.Proofs.Ytgkmapemnlgldaa
