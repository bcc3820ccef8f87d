/- Pairs of holes, of the model: PairsOf, for every three ints. -/
import Derived.Test.YtkenlighpelhiaaBackA
import Derived.Test.YtkenlighpelhiaaNest
import Derived.Test.YtkenlighpelhiaaBoards
namespace Go.Proofs.Ytkenlighpelhiaa
open Go.RowKit
set_option linter.unusedVariables false
set_option linter.unusedSimpArgs false
def pairRow (W H Z : Int) (k : Nat) (hs : List Nat) : List (List Int) := (hs.filter (fun (m : Nat) => reachB false W H Z (butB W H Z k) ((2 ^ m : Nat) : Int))).map (fun (m : Nat) => [(k : Int), (m : Int)])
def pairL (W H Z : Int) : List (List Int) := if (smallB W H Z && decide ((holesR W H Z).length ≤ 12)) = true then (holesR W H Z).flatMap (fun k => pairRow W H Z k (holesR W H Z)) else []
/-- A list of lists of ints in new memory. -/
def OwnSS (xss : List (List Int)) (w : World) (e : Ending) (w' : World) : Prop := ∃ v n vs, e = .returned v ∧ NestI w.heap.size w'.heap.size 24 3 v n vs xss w' ∧ Below w.heap.size w w'
theorem row_snoc (W H Z : Int) (k : Nat) {hs : List Nat} (i : Nat) {m : Nat} (hi : hs[i]? = some m) : pairRow W H Z k (hs.take (i + 1)) = pairRow W H Z k (hs.take i) ++ (if reachB false W H Z (butB W H Z k) ((2 ^ m : Nat) : Int) = true then [[(k : Int), (m : Int)]] else []) := by
  unfold pairRow
  rw [take_one hi, List.filter_append, List.map_append]
  congr 1
  cases hc : reachB false W H Z (butB W H Z k) ((2 ^ m : Nat) : Int) <;> simp only [List.filter_cons, List.filter_nil, hc, Bool.false_eq_true, if_false, if_true, List.map_nil, List.map_cons]
theorem pairs_snoc (W H Z : Int) (all : List Nat) {hs : List Nat} (i : Nat) {k : Nat} (hi : hs[i]? = some k) : (hs.take (i + 1)).flatMap (fun k => pairRow W H Z k all) = (hs.take i).flatMap (fun k => pairRow W H Z k all) ++ pairRow W H Z k all := by
  rw [take_one hi, List.flatMap_append]
  simp
theorem row_len (W H Z : Int) (k : Nat) (hs : List Nat) : (pairRow W H Z k hs).length ≤ hs.length := by unfold pairRow; rw [List.length_map]; exact List.length_filter_le ..
theorem pairs_len (W H Z : Int) (all : List Nat) : ∀ hs : List Nat, (hs.flatMap (fun k => pairRow W H Z k all)).length ≤ hs.length * all.length
  | [] => by simp
  | k :: hs => by
    rw [List.flatMap_cons, List.length_append, List.length_cons]
    have h1 := row_len W H Z k all
    have h2 := pairs_len W H Z all hs
    rw [Nat.succ_mul]
    omega
/-- The board, the holes, the marks. -/
def PrS (w0 : World) (W H Z : Int) (ha : Option Addr) (m hc : Nat) (hs : List Nat) (v gs : Value) (M : Nat) (s : Nat → Bool) (w : World) : Prop :=
  Box w0.heap.size W H Z w0 w ∧ w.ownsRow w0.heap.size 3 1 (.slice ha m hc) m (Ints hs) ∧ w.ownsRow w0.heap.size 4 1 gs M (bv M s)
theorem closed_prs {w0 : World} {W H Z : Int} {ha : Option Addr} {m hc : Nat} {hs : List Nat} {v gs : Value} {M : Nat} {s : Nat → Bool} : Closed (PrS w0 W H Z ha m hc hs v gs M s) := fun _ _ h k => ⟨h.1.later k, own_below h.2.1 k, own_below h.2.2 k⟩
theorem PrS.grown {w0 w w' : World} {W H Z : Int} {ha : Option Addr} {m hc n b : Nat} {hs : List Nat} {v gs : Value} {M : Nat} {s : Nat → Bool} {vs : List Value} (h : PrS w0 W H Z ha m hc hs v gs M s w) (ho : w.ownsRow b 24 1 v n vs) (hg : w.grownBy w' v.ownBlock) (hb : Below (w0.heap.size + 1) w w') : PrS w0 W H Z ha m hc hs v gs M s w' :=
  ⟨h.1.kept hb (Nat.lt_succ_self _) (Nat.le_succ _), h.2.1.kept hg (own_ne h.2.1 ho (by decide)), h.2.2.kept hg (own_ne h.2.2 ho (by decide))⟩
theorem closed_nest {b B n : Nat} {TO TI : TypeId} {v : Value} {vs : List Value} {xss : List (List Int)} : Closed (NestI b B TO TI v n vs xss) := fun _ _ h k => h.later k
set_option maxHeartbeats 8000000 in
set_option maxRecDepth 100000 in
theorem specPairs (W H Z : Int) (w : World) : Calls Try.prog 18 #[.agg #[.int .i64 W, .int .i64 H, .int .i64 Z]] w (OwnSS (pairL W H Z) w) := by
  obtain ⟨i1, hi1, iz0, iz1, iz2⟩ : ∃ i, Try.prog.info? 24 = some i ∧ i.zero = some (.slice none 0 0) ∧ i.size = 1 ∧ i.bytes = 24 := ⟨_, by rfl, by rfl, by rfl, by rfl⟩
  have C1 := Lib.hid (fun w => specSmall W H Z w)
  have CH := Lib.hid (fun w => specHolesR W H Z w)
  have hhl := holesR_len W H Z
  obtain ⟨res, hres⟩ : ∃ r, pairL W H Z = r := ⟨_, rfl⟩
  rw [hres]
  unfold pairL at hres
  cases hsm : (smallB W H Z && decide ((holesR W H Z).length ≤ 12))
  · rw [hsm] at hres
    simp only [Bool.false_eq_true, if_false] at hres
    subst hres
    have HSM := Lib.hid hsm
    generalize holesR W H Z = hs at *
    obtain ⟨m, hm⟩ : ∃ m, hs.length = m := ⟨_, rfl⟩
    rw [hm] at hhl HSM
    have HM := Lib.hid hm
    generalize smallB W H Z = sm at *
    clear hm hsm
    go_enter Try.func18, Try.ntmps18
    go_wp2_with fail
    have B00 := Lib.hid (box_new W H Z w)
    have hS : (w.alloc (.cells #[.int .i64 W, .int .i64 H, .int .i64 Z] 26)).heap.size = w.heap.size + 1 := by simp
    generalize w.alloc (.cells #[.int .i64 W, .int .i64 H, .int .i64 Z] 26) = W1 at *
    have HL0 : Hid ((W1.alloc (.cells #[] 24)).ownsRow (w.heap.size + 1) 24 1 (.slice (some ⟨w.heap.size + 1, 0, none⟩) 0 0) 0 []) := by
      unfold Hid
      rw [← hS]
      exact World.ownsRow_made W1 #[] 0 (Nat.le_refl _) (by unfold maxLen; omega) rfl
    have B0 := Lib.hid (B00.out.later ((Below.refl _ _).alloc (Nat.le_refl _) (.cells #[] 24)))
    generalize W1.alloc (.cells #[] 24) = W2 at *
    clear B00 hS
    obtain ⟨c0, c1, c2, hlt, hb1⟩ := B0.out
    go_wp2_with fail
    refine (CH.out _).mono ?_
    rintro e w3 ⟨hv, rfl, hh, hb⟩
    rw [HM.out] at hh
    have B3 := Lib.hid (B0.out.later hb)
    have HL3 := Lib.hid (own_below HL0.out hb)
    obtain ⟨ha, hc, rfl⟩ := one_form hh
    clear hb hh HL0 B0 c0 c1 c2 hlt hb1
    go_wp2_with fail
    go_loopw [3, 5] (fun u i wr => i = .int .i64 0 ∧ u = .slice (some ⟨w.heap.size + 1, 0, none⟩) 0 0 ∧ Hid (wr.ownsRow (w.heap.size + 1) 24 1 (.slice (some ⟨w.heap.size + 1, 0, none⟩) 0 0) 0 []) ∧ Hid (Box w.heap.size W H Z w wr)) (fun _ _ _ => 0)
    case atStart => exact ⟨rfl, rfl, HL3, B3⟩
    case round =>
      clear HL3 B3
      obtain ⟨rfl, rfl, HL3, B3⟩ := hrel
      have hp : Hid (∀ w', Below wr.heap.size wr w' → OwnSS [] w (.returned (.slice (some ⟨w.heap.size + 1, 0, none⟩) 0 0)) w') := fun w' hb => by
        have ho := own_base (own_below HL3.out hb) (Nat.le_succ _)
        exact ⟨_, _, _, rfl, nest_nil (B3.out.later hb).2.2.2.2.size (g := 0) ho, (B3.out.later hb).2.2.2.2⟩
      by_cases h0 : 0 < m
      · have k1 : (0 : Int) < (m : Int) := by omega
        obtain ⟨c0, c1, c2, hlt, hb1⟩ := B3.out
        go_wp2_with fail
        refine (C1.out _).mono ?_
        rintro e w4 ⟨rfl, hb⟩
        have hp := Lib.hid (hp.out _ hb)
        clear hb HL3 B3 c0 c1 c2 hlt hb1
        cases sm
        · go_wp2_with fail
          go_ret
          exact hp.out
        · have hm12 : decide ((m : Int) ≤ 12) = false := by
            have := HSM.out
            simp only [Bool.true_and, decide_eq_false_iff_not] at this
            exact decide_eq_false (by omega)
          have hm12' : ¬ (m : Int) ≤ 12 := by simpa using hm12
          clear hm12
          go_wp2_with fail
          go_ret
          exact hp.out
      · obtain rfl : m = 0 := by omega
        have hp := Lib.hid (hp.out _ (Below.refl _ _))
        clear HL3 B3
        go_wp2_with fail
        go_ret
        exact hp.out
  · have hsm' := hsm
    simp only [Bool.and_eq_true, decide_eq_true_eq] at hsm'
    obtain ⟨h1, h12⟩ := hsm'
    rw [hsm] at hres
    simp only [if_true] at hres
    rw [h1] at C1
    obtain ⟨a, b, N, z, rfl, rfl, rfl, ho, hN, h16⟩ := small_nat h1
    obtain ⟨M, hMN⟩ : ∃ M, 2 ^ N = M := ⟨_, rfl⟩
    have hM65 : M ≤ 65536 := by rw [← hMN]; exact Nat.pow_le_pow_right (by decide) h16
    have HSn : Hid (∀ k ∈ holesR (a : Int) b z, k < 49 ∧ ∃ r : Nat, r + 2 ^ k = z ∧ butB (a : Int) b z k = (r : Int) ∧ (∀ w, Calls Try.prog 42 #[.agg #[.int .i64 (a : Int), .int .i64 (b : Int), .int .i64 (z : Int)], .int .i64 (r : Int), .bool false] w (SeenPost M (seenB false (a : Int) b z r) w)) ∧ ∀ m ∈ holesR (a : Int) b z, 2 ^ m < M ∧ seenB false (a : Int) b z r (2 ^ m) = reachB false (a : Int) b z (r : Int) ((2 ^ m : Nat) : Int)) := fun k hk => by
      obtain ⟨N', z', r, e1, ho', hkN, hb', hr, hrp, hbut⟩ := but_hole hk
      obtain rfl : z = z' := by omega
      have h49 := ho'.n49
      have hpr := pos_of ho hrp
      obtain ⟨M', -, hM2, -, hseen⟩ := specSeenL false h1 hpr
      obtain rfl : M = M' := by rw [← hMN, ← hM2, ← Int.natCast_mul, ho.nat.1, Int.toNat_natCast]
      refine ⟨by omega, r, hr, hbut, hseen, fun m hm => ?_⟩
      obtain ⟨N2, z2, r2, e2, ho2, hmN, hmb, -, -, -⟩ := but_hole hm
      obtain rfl : z = z2 := by omega
      have hpm : Part (2 ^ m) z := part_pow hmb
      refine ⟨by rw [← hMN]; exact part_lt hpm ho.zlt, ?_⟩
      unfold reachB
      rw [h1, hpr, pos_of ho hpm, Int.toNat_natCast]
      rfl
    have hz := ho.zbig
    have HRow := Lib.hid (fun k hs i m hi => row_snoc (a : Int) b z k (hs := hs) i (m := m) hi)
    have HPair := Lib.hid (fun all hs i k hi => pairs_snoc (a : Int) b z all (hs := hs) i (k := k) hi)
    have HRl := Lib.hid (fun k hs => row_len (a : Int) b z k hs)
    have HPl := Lib.hid (fun all hs => pairs_len (a : Int) b z all hs)
    have HRes := Lib.hid hres
    generalize holesR (a : Int) b z = hs at *
    obtain ⟨m, hm⟩ : ∃ m, hs.length = m := ⟨_, rfl⟩
    rw [hm] at hhl h12
    have HM := Lib.hid hm
    clear hm hsm hres h1 ho hN h16 hMN
    go_enter Try.func18, Try.ntmps18
    go_wp2_with fail
    have B00 := Lib.hid (box_new a b z w)
    have hS : (w.alloc (.cells #[.int .i64 (a : Int), .int .i64 (b : Int), .int .i64 (z : Int)] 26)).heap.size = w.heap.size + 1 := by simp
    generalize w.alloc (.cells #[.int .i64 (a : Int), .int .i64 (b : Int), .int .i64 (z : Int)] 26) = W1 at *
    have HL0 : Hid ((W1.alloc (.cells #[] 24)).ownsRow (w.heap.size + 1) 24 1 (.slice (some ⟨w.heap.size + 1, 0, none⟩) 0 0) 0 []) := by
      unfold Hid
      rw [← hS]
      exact World.ownsRow_made W1 #[] 0 (Nat.le_refl _) (by unfold maxLen; omega) rfl
    have B0 := Lib.hid (B00.out.later ((Below.refl _ _).alloc (Nat.le_refl _) (.cells #[] 24)))
    generalize W1.alloc (.cells #[] 24) = W2 at *
    clear B00 hS
    obtain ⟨c0, c1, c2, hlt, hb1⟩ := B0.out
    go_wp2_with fail
    refine (CH.out _).mono ?_
    rintro e w3 ⟨hv, rfl, hh, hb⟩
    rw [HM.out] at hh
    obtain ⟨ha, hc, rfl⟩ := one_form hh
    have B3 := Lib.hid (B0.out.later hb)
    have R3 : Hid (w3.ownsRow w.heap.size 3 1 (.slice ha m hc) m (Ints hs)) := own_base hh B0.out.2.2.2.2.size
    have N3 : Hid (NestI (w.heap.size + 1) w3.heap.size 24 3 (.slice (some ⟨w.heap.size + 1, 0, none⟩) 0 0) 0 [] [] w3) := nest_nil (B0.out.later hb).2.2.2.1 (g := 0) (own_below HL0.out hb)
    clear hb hh HL0 B0 c0 c1 c2 hlt hb1 CH
    go_wp2_with fail
    go_loopw [3, 5] (fun u i wr => ∃ (k : Nat) (v : Value) (n : Nat) (vs : List Value), k ≤ m ∧ i = .int .i64 k ∧ v = u ∧ Hid (NestI (w.heap.size + 1) wr.heap.size 24 3 v n vs ((hs.take k).flatMap (fun k => pairRow (a : Int) b z k hs)) wr) ∧ Hid (Box w.heap.size a b z w wr) ∧ Hid (wr.ownsRow w.heap.size 3 1 (.slice ha m hc) m (Ints hs))) (fun _ i _ => m - (intOf i).toNat)
    case atStart => exact ⟨0, _, 0, [], Nat.zero_le _, rfl, rfl, N3, B3, R3⟩
    case round =>
      clear N3 B3 R3
      obtain ⟨k, v, n, vs, hk, rfl, rfl, HN, HB, HR⟩ := hrel
      by_cases hkm : k < m
      · have k0 : (0 : Int) ≤ (k : Int) := by omega
        have k1 : (k : Int) < (m : Int) := by omega
        have hm12 : (m : Int) ≤ 12 := by omega
        obtain ⟨h, hh⟩ : ∃ h, hs[k]? = some h := ⟨_, List.getElem?_eq_getElem (by rw [HM.out]; exact hkm)⟩
        obtain ⟨hh49, r, hr, hbut, hseen, hmk⟩ := HSn.out h (List.mem_of_getElem? hh)
        have HMk := Lib.hid hmk
        have CS := Lib.hid hseen
        obtain ⟨q1, e1, n1, l1, u1⟩ := pow_nat h hh49
        rw [n1] at hr
        have hqw : IntKind.i64.wrap (q1 : Int) = (q1 : Int) := IntWalk.i64_in _ (by omega)
        have hsub : IntKind.i64.wrap ((z : Int) - (q1 : Int)) = (r : Int) := by rw [show (z : Int) - (q1 : Int) = (r : Int) by omega]; exact IntWalk.i64_in _ (by omega)
        have HPX := Lib.hid (HPair.out hs hs k h hh)
        have hpl := HPl.out hs (hs.take k)
        have htk : (hs.take k).length = k := by rw [List.length_take, HM.out]; omega
        rw [htk, HM.out] at hpl
        have hkk : k * m ≤ 144 := Nat.le_trans (Nat.mul_le_mul (show k ≤ 12 by omega) h12) (by decide)
        obtain ⟨out0, hout⟩ : ∃ o, (hs.take k).flatMap (fun k => pairRow (a : Int) b z k hs) = o := ⟨_, rfl⟩
        rw [hout] at HPX HN hpl
        have hol : out0.length ≤ 144 := by omega
        obtain ⟨gh, hha⟩ := one_block HR.out (by omega)
        subst hha
        have hcl : Hid (∀ w', Below wr.heap.size wr w' → w'.cell? ⟨gh, k, none⟩ = some (.int .i64 (h : Int))) := fun w' hb => own_cell (own_below HR.out hb) k hkm _ (by simp [Ints, hh])
        obtain ⟨c0, c1, c2, hlt, hb1⟩ := HB.out
        clear hout n1 hr hseen hmk hpl htk hkk
        go_wp2_with fail
        refine (C1.out _).mono ?_
        rintro e w4 ⟨rfl, hb⟩
        have HCl : Hid (∀ w', Below w4.heap.size w4 w' → w'.cell? ⟨gh, k, none⟩ = some (.int .i64 (h : Int))) := fun w' hb' => hcl.out w' (After.trans hb hb')
        have HN1 := Lib.hid ((HN.out.later hb).raise hb.size (Nat.le_refl _))
        have HB1 := Lib.hid (HB.out.later hb)
        have HR1 := Lib.hid (own_below HR.out hb)
        clear hb HN HB HR c0 c1 c2 hlt hb1 hcl
        go_wp2_with fail
        refine wp_region_script (by kernel_rfl) (by kernel_rfl) ?_
        refine Script.load (i := 0) (v := ?_) rfl (by kernel_rfl) (by kernel_rfl) (fun _ _ _ h => h) (by kernel_rfl) ?_ ?_
        rotate_left
        · (intro wS hSw; have hAf := After.trans (After.drew (After.refl _)) hSw; obtain ⟨c0, c1, c2, -, -⟩ := HB1.out.later hAf; have x0 := HCl.out _ hAf; go_simp; try with_reducible rfl)
        try simp only [Act.put, List.getElem_toArray, List.getElem_cons_succ, List.getElem_cons_zero, List.setIfInBounds_toArray, List.set_cons_zero, List.set_cons_succ]
        refine Script.load (i := 1) (v := ?_) rfl (by kernel_rfl) (by kernel_rfl) (fun _ _ _ h => h) (by kernel_rfl) ?_ ?_
        rotate_left
        · (intro wS hSw; have hAf := After.trans (After.drew (After.refl _)) hSw; obtain ⟨c0, c1, c2, -, -⟩ := HB1.out.later hAf; have x0 := HCl.out _ hAf; go_simp; try with_reducible rfl)
        try simp only [Act.put, List.getElem_toArray, List.getElem_cons_succ, List.getElem_cons_zero, List.setIfInBounds_toArray, List.set_cons_zero, List.set_cons_succ]
        refine Script.load (i := 2) (v := ?_) rfl (by kernel_rfl) (by kernel_rfl) (fun _ _ _ h => h) (by kernel_rfl) ?_ ?_
        rotate_left
        · (intro wS hSw; have hAf := After.trans (After.drew (After.refl _)) hSw; obtain ⟨c0, c1, c2, -, -⟩ := HB1.out.later hAf; have x0 := HCl.out _ hAf; go_simp; try with_reducible rfl)
        try simp only [Act.put, List.getElem_toArray, List.getElem_cons_succ, List.getElem_cons_zero, List.setIfInBounds_toArray, List.set_cons_zero, List.set_cons_succ]
        refine Script.load (i := 3) (v := ?_) rfl (by kernel_rfl) (by kernel_rfl) (fun _ _ _ h => h) (by kernel_rfl) ?_ ?_
        rotate_left
        · (intro wS hSw; have hAf := After.trans (After.drew (After.refl _)) hSw; obtain ⟨c0, c1, c2, -, -⟩ := HB1.out.later hAf; have x0 := HCl.out _ hAf; go_simp; try with_reducible rfl)
        try simp only [Act.put, List.getElem_toArray, List.getElem_cons_succ, List.getElem_cons_zero, List.setIfInBounds_toArray, List.set_cons_zero, List.set_cons_succ]
        refine Script.load (i := 4) (v := ?_) rfl (by kernel_rfl) (by kernel_rfl) (fun _ _ _ h => h) (by kernel_rfl) ?_ ?_
        rotate_left
        · (intro wS hSw; have hAf := After.trans (After.drew (After.refl _)) hSw; obtain ⟨c0, c1, c2, -, -⟩ := HB1.out.later hAf; have x0 := HCl.out _ hAf; go_simp; try with_reducible rfl)
        try simp only [Act.put, List.getElem_toArray, List.getElem_cons_succ, List.getElem_cons_zero, List.setIfInBounds_toArray, List.set_cons_zero, List.set_cons_succ]
        refine Script.load (i := 5) (v := ?_) rfl (by kernel_rfl) (by kernel_rfl) (fun _ _ _ h => h) (by kernel_rfl) ?_ ?_
        rotate_left
        · (intro wS hSw; have hAf := After.trans (After.drew (After.refl _)) hSw; obtain ⟨c0, c1, c2, -, -⟩ := HB1.out.later hAf; have x0 := HCl.out _ hAf; go_simp; try with_reducible rfl)
        try simp only [Act.put, List.getElem_toArray, List.getElem_cons_succ, List.getElem_cons_zero, List.setIfInBounds_toArray, List.set_cons_zero, List.set_cons_succ]
        refine Script.load (i := 6) (v := ?_) rfl (by kernel_rfl) (by kernel_rfl) (fun _ _ _ h => h) (by kernel_rfl) ?_ ?_
        rotate_left
        · (intro wS hSw; have hAf := After.trans (After.drew (After.refl _)) hSw; obtain ⟨c0, c1, c2, -, -⟩ := HB1.out.later hAf; have x0 := HCl.out _ hAf; go_simp; try with_reducible rfl)
        try simp only [Act.put, List.getElem_toArray, List.getElem_cons_succ, List.getElem_cons_zero, List.setIfInBounds_toArray, List.set_cons_zero, List.set_cons_succ]
        refine Script.load (i := 7) (v := ?_) rfl (by kernel_rfl) (by kernel_rfl) (fun _ _ _ h => h) (by kernel_rfl) ?_ ?_
        rotate_left
        · (intro wS hSw; have hAf := After.trans (After.drew (After.refl _)) hSw; obtain ⟨c0, c1, c2, -, -⟩ := HB1.out.later hAf; have x0 := HCl.out _ hAf; go_simp; try with_reducible rfl)
        try simp only [Act.put, List.getElem_toArray, List.getElem_cons_succ, List.getElem_cons_zero, List.setIfInBounds_toArray, List.set_cons_zero, List.set_cons_succ]
        refine Script.load (i := 8) (v := ?_) rfl (by kernel_rfl) (by kernel_rfl) (fun _ _ _ h => h) (by kernel_rfl) ?_ ?_
        rotate_left
        · (intro wS hSw; have hAf := After.trans (After.drew (After.refl _)) hSw; obtain ⟨c0, c1, c2, -, -⟩ := HB1.out.later hAf; have x0 := HCl.out _ hAf; go_simp; try with_reducible rfl)
        try simp only [Act.put, List.getElem_toArray, List.getElem_cons_succ, List.getElem_cons_zero, List.setIfInBounds_toArray, List.set_cons_zero, List.set_cons_succ]
        refine Script.one (i := 9) rfl (by kernel_rfl) (by kernel_rfl) ?_
        intro wO hO K hK; have hSw := hO; have hAf := After.trans (After.drew (After.refl _)) hSw; obtain ⟨c0, c1, c2, -, -⟩ := HB1.out.later hAf; have x0 := HCl.out _ hAf; go_simp
        clear hSw
        go_at_call 42; refine (CS.out _).mono ?_; rintro e wv ⟨gs, rfl, hhs, hbc⟩
        refine hK.out _ _ hbc ?_
        clear hK K
        try simp only [Act.put, List.getElem_toArray, List.getElem_cons_succ, List.getElem_cons_zero, List.setIfInBounds_toArray, List.set_cons_zero, List.set_cons_succ]
        have HAv := Lib.hid (After.trans (After.drew (After.refl _)) (After.trans hO hbc))
        have hOs := hO.size
        clear c0 c1 c2 x0 hAf
        refine Script.load (i := 10) (v := ?_) rfl (by kernel_rfl) (by kernel_rfl) (fun _ _ _ h => h) (by kernel_rfl) ?_ ?_
        rotate_left
        · (intro wS hSw; skip; go_simp; try with_reducible rfl)
        try simp only [Act.put, List.getElem_toArray, List.getElem_cons_succ, List.getElem_cons_zero, List.setIfInBounds_toArray, List.set_cons_zero, List.set_cons_succ]
        refine Script.done (by kernel_rfl) ?_
        intro wD hD hG
        have hAD := Lib.hid (After.trans HAv.out hD)
        have hszz := (After.trans (After.drew (After.refl _)) hO : After w4 wO).size
        have HN2 := Lib.hid ((HN1.out.later hAD.out).raise hAD.out.size (Nat.le_refl _))
        have HP2 : Hid (PrS w a b z (some ⟨gh, 0, none⟩) m hc hs v (.slice (some ⟨gs, 0, none⟩) M M) M (seenB false (a : Int) b z r) wD) := ⟨HB1.out.later hAD.out, own_below HR1.out hAD.out, own_base (own_below hhs hD) (by have := HB1.out.2.2.2.2.size; omega)⟩
        clear hD hG HN1 HB1 HR1 HAv hhs hAD HCl hszz hOs hO hbc
        generalize seenB false (a : Int) b z r = s at *
        have HK1 : Hid (hs[k]? = some h) := hh
        clear hh
        go_wp2_with fail
        go_loopw [3, 7] (fun u i wr => ∃ (j : Nat) (v : Value) (n : Nat) (vs : List Value), j ≤ m ∧ i = .int .i64 j ∧ v = u ∧ Hid (NestI (w.heap.size + 1) wr.heap.size 24 3 v n vs (out0 ++ pairRow (a : Int) b z h (hs.take j)) wr) ∧ Hid (PrS w a b z (some ⟨gh, 0, none⟩) m hc hs v (.slice (some ⟨gs, 0, none⟩) M M) M s wr)) (fun _ i _ => m - (intOf i).toNat)
        case atStart => exact ⟨0, v, n, vs, Nat.zero_le _, rfl, rfl, by unfold Hid; rw [List.take_zero]; unfold pairRow; simpa using HN2.out, HP2⟩
        case round =>
          clear HN2 HP2
          obtain ⟨j, v, n, vs, hj, rfl, rfl, HN, HP⟩ := hrel
          by_cases hjm : j < m
          · have j0 : (0 : Int) ≤ (j : Int) := by omega
            have j1 : (j : Int) < (m : Int) := by omega
            obtain ⟨h2, hh2⟩ : ∃ h, hs[j]? = some h := ⟨_, List.getElem?_eq_getElem (by rw [HM.out]; exact hjm)⟩
            obtain ⟨hlt2, hsee⟩ := HMk.out h2 (List.mem_of_getElem? hh2)
            have h249 := (HSn.out h2 (List.mem_of_getElem? hh2)).1
            obtain ⟨q2, e2, n2, l2, u2⟩ := pow_nat h2 h249
            have HRX := Lib.hid (HRow.out h hs j h2 hh2)
            rw [hbut] at HRX
            have hrl := HRl.out h (hs.take j)
            have htj : (hs.take j).length = j := by rw [List.length_take, HM.out]; omega
            rw [htj] at hrl
            obtain ⟨c, hc'⟩ : ∃ c, reachB false (a : Int) b z (r : Int) ((2 ^ h2 : Nat) : Int) = c := ⟨_, rfl⟩
            rw [hc'] at HRX hsee
            rw [n2] at hlt2 hsee
            have hqw2 : IntKind.i64.wrap (q2 : Int) = (q2 : Int) := IntWalk.i64_in _ (by omega)
            have hnl := HN.out.len
            rw [List.length_append] at hnl
            have hn1 : n ≤ 1000 := by omega
            have x1 : wr.cell? ⟨gh, j, none⟩ = some (.int .i64 (h2 : Int)) := own_cell HP.out.2.1 j hjm _ (by simp [Ints, hh2])
            have x2 : wr.cell? ⟨gs, q2, none⟩ = some (.bool c) := by rw [own_cell HP.out.2.2 q2 hlt2 _ (bv_get _ hlt2), hsee]
            have z0 : (0 : Int) ≤ (q2 : Int) := by omega
            have z1 : (q2 : Int) < (M : Int) := by omega
            have HK2 : Hid (hs[j]? = some h2) := hh2
            clear hh2 hsee n2 hrl htj hc' hnl
            cases c
            · have HO : Hid (out0 ++ pairRow (a : Int) b z h (hs.take (j + 1)) = out0 ++ pairRow (a : Int) b z h (hs.take j)) := by unfold Hid; rw [HRX.out]; simp
              go_wp2_with fail
              go_roundw
              case rel => exact ⟨j + 1, v, n, vs, by omega, by go_num, rfl, by rw [HO.out]; exact HN, HP⟩
              case measure => simp [intOf]; omega
            · have HO : Hid (out0 ++ pairRow (a : Int) b z h (hs.take (j + 1)) = (out0 ++ pairRow (a : Int) b z h (hs.take j)) ++ [[(h : Int), (h2 : Int)]]) := by unfold Hid; rw [HRX.out]; simp
              obtain ⟨outj, houtj⟩ : ∃ o, out0 ++ pairRow (a : Int) b z h (hs.take j) = o := ⟨_, rfl⟩
              rw [houtj] at HO HN
              clear houtj HRX
              obtain ⟨B, hBe⟩ : ∃ B, wr.heap.size = B := ⟨_, rfl⟩
              have HNB : Hid (NestI (w.heap.size + 1) B 24 3 v n vs outj wr) := by rw [← hBe]; exact HN.out
              have hbB : w.heap.size + 1 ≤ B := by rw [← hBe]; exact HP.out.1.2.2.2.1
              clear hBe HN
              go_wp2_with fail
              refine wp_region_from (PrS w a b z (some ⟨gh, 0, none⟩) m hc hs v (.slice (some ⟨gs, 0, none⟩) M M) M s) (NestI (w.heap.size + 1) B 24 3 v n vs outj) (by kernel_rfl) (by kernel_rfl) closed_prs closed_nest (closed_prs _ _ HP.out (After.drew (After.refl _))) (closed_nest _ _ HNB.out (After.drew (After.refl _))) ?_
              refine Script.load (i := 0) (v := ?_) rfl (by kernel_rfl) (by kernel_rfl) (fun _ _ _ h => h) (by kernel_rfl) ?_ ?_
              rotate_left
              · (intro wS hSw; have x1 := own_cell hSw.2.1 k hkm (.int .i64 (h : Int)) (by simp [Ints, HK1.out]); have x2 := own_cell hSw.2.1 j hjm (.int .i64 (h2 : Int)) (by simp [Ints, HK2.out]); go_simp; try with_reducible rfl)
              try simp only [Act.put, List.getElem_toArray, List.getElem_cons_succ, List.getElem_cons_zero, List.setIfInBounds_toArray, List.set_cons_zero, List.set_cons_succ]
              refine Script.load (i := 1) (v := ?_) rfl (by kernel_rfl) (by kernel_rfl) (fun _ _ _ h => h) (by kernel_rfl) ?_ ?_
              rotate_left
              · (intro wS hSw; have x1 := own_cell hSw.2.1 k hkm (.int .i64 (h : Int)) (by simp [Ints, HK1.out]); have x2 := own_cell hSw.2.1 j hjm (.int .i64 (h2 : Int)) (by simp [Ints, HK2.out]); go_simp; try with_reducible rfl)
              try simp only [Act.put, List.getElem_toArray, List.getElem_cons_succ, List.getElem_cons_zero, List.setIfInBounds_toArray, List.set_cons_zero, List.set_cons_succ]
              refine Script.load (i := 2) (v := ?_) rfl (by kernel_rfl) (by kernel_rfl) (fun _ _ _ h => h) (by kernel_rfl) ?_ ?_
              rotate_left
              · (intro wS hSw; have x1 := own_cell hSw.2.1 k hkm (.int .i64 (h : Int)) (by simp [Ints, HK1.out]); have x2 := own_cell hSw.2.1 j hjm (.int .i64 (h2 : Int)) (by simp [Ints, HK2.out]); go_simp; try with_reducible rfl)
              try simp only [Act.put, List.getElem_toArray, List.getElem_cons_succ, List.getElem_cons_zero, List.setIfInBounds_toArray, List.set_cons_zero, List.set_cons_succ]
              refine Script.load (i := 3) (v := ?_) rfl (by kernel_rfl) (by kernel_rfl) (fun _ _ _ h => h) (by kernel_rfl) ?_ ?_
              rotate_left
              · (intro wS hSw; have x1 := own_cell hSw.2.1 k hkm (.int .i64 (h : Int)) (by simp [Ints, HK1.out]); have x2 := own_cell hSw.2.1 j hjm (.int .i64 (h2 : Int)) (by simp [Ints, HK2.out]); go_simp; try with_reducible rfl)
              try simp only [Act.put, List.getElem_toArray, List.getElem_cons_succ, List.getElem_cons_zero, List.setIfInBounds_toArray, List.set_cons_zero, List.set_cons_succ]
              refine Script.load (i := 4) (v := ?_) rfl (by kernel_rfl) (by kernel_rfl) (fun _ _ _ h => h) (by kernel_rfl) ?_ ?_
              rotate_left
              · (intro wS hSw; have x1 := own_cell hSw.2.1 k hkm (.int .i64 (h : Int)) (by simp [Ints, HK1.out]); have x2 := own_cell hSw.2.1 j hjm (.int .i64 (h2 : Int)) (by simp [Ints, HK2.out]); go_simp; try with_reducible rfl)
              try simp only [Act.put, List.getElem_toArray, List.getElem_cons_succ, List.getElem_cons_zero, List.setIfInBounds_toArray, List.set_cons_zero, List.set_cons_succ]
              refine Script.load (i := 5) (v := ?_) rfl (by kernel_rfl) (by kernel_rfl) (fun _ _ _ h => h) (by kernel_rfl) ?_ ?_
              rotate_left
              · (intro wS hSw; have x1 := own_cell hSw.2.1 k hkm (.int .i64 (h : Int)) (by simp [Ints, HK1.out]); have x2 := own_cell hSw.2.1 j hjm (.int .i64 (h2 : Int)) (by simp [Ints, HK2.out]); go_simp; try with_reducible rfl)
              try simp only [Act.put, List.getElem_toArray, List.getElem_cons_succ, List.getElem_cons_zero, List.setIfInBounds_toArray, List.set_cons_zero, List.set_cons_succ]
              refine Script.load (i := 6) (v := ?_) rfl (by kernel_rfl) (by kernel_rfl) (fun _ _ _ h => h) (by kernel_rfl) ?_ ?_
              rotate_left
              · (intro wS hSw; have x1 := own_cell hSw.2.1 k hkm (.int .i64 (h : Int)) (by simp [Ints, HK1.out]); have x2 := own_cell hSw.2.1 j hjm (.int .i64 (h2 : Int)) (by simp [Ints, HK2.out]); go_simp; try with_reducible rfl)
              try simp only [Act.put, List.getElem_toArray, List.getElem_cons_succ, List.getElem_cons_zero, List.setIfInBounds_toArray, List.set_cons_zero, List.set_cons_succ]
              refine Script.load (i := 7) (v := ?_) rfl (by kernel_rfl) (by kernel_rfl) (fun _ _ _ h => h) (by kernel_rfl) ?_ ?_
              rotate_left
              · (intro wS hSw; have x1 := own_cell hSw.2.1 k hkm (.int .i64 (h : Int)) (by simp [Ints, HK1.out]); have x2 := own_cell hSw.2.1 j hjm (.int .i64 (h2 : Int)) (by simp [Ints, HK2.out]); go_simp; try with_reducible rfl)
              try simp only [Act.put, List.getElem_toArray, List.getElem_cons_succ, List.getElem_cons_zero, List.setIfInBounds_toArray, List.set_cons_zero, List.set_cons_succ]
              refine Script.load (i := 8) (v := ?_) rfl (by kernel_rfl) (by kernel_rfl) (fun _ _ _ h => h) (by kernel_rfl) ?_ ?_
              rotate_left
              · (intro wS hSw; have x1 := own_cell hSw.2.1 k hkm (.int .i64 (h : Int)) (by simp [Ints, HK1.out]); have x2 := own_cell hSw.2.1 j hjm (.int .i64 (h2 : Int)) (by simp [Ints, HK2.out]); go_simp; try with_reducible rfl)
              try simp only [Act.put, List.getElem_toArray, List.getElem_cons_succ, List.getElem_cons_zero, List.setIfInBounds_toArray, List.set_cons_zero, List.set_cons_succ]
              refine Script.oneG (i := 9) (fun u w' => NestI (w.heap.size + 1) B 24 3 v n vs outj w' ∧ ∃ p, u = .slice (some ⟨p, 0, none⟩) 2 2 ∧ B ≤ p ∧ w'.heap[p]? = some (.cells #[.int .i64 (h : Int), .int .i64 (h2 : Int)] 3 (0, 0))) rfl (by kernel_rfl) (by kernel_rfl) (closed_prs) (fun _ _ _ h k => ⟨h.1.later k, h.2.imp fun p hp => ⟨hp.1, hp.2.1, closed_row p _ _ _ hp.2.2 k⟩⟩) ?_
              intro wO9 hO9 hG9 K hK
              go_simp; refine hK.out _ _ (closed_prs _ _ hO9 ((Below.refl _ _).alloc (Nat.le_refl _) _)) ⟨hG9.later ((Below.refl _ _).alloc (Nat.le_refl _) _), _, rfl, hG9.size, heap_alloc_new _ _⟩ ?_
              clear hK K
              try simp only [Act.put, List.getElem_toArray, List.getElem_cons_succ, List.getElem_cons_zero, List.setIfInBounds_toArray, List.set_cons_zero, List.set_cons_succ]
              refine Script.oneG (i := 10) (fun u w' => NestI (w.heap.size + 1) B 24 3 v n vs outj w' ∧ B ≤ wO9.heap.size ∧ w'.heap[wO9.heap.size]? = some (.cells #[.int .i64 (h : Int), .int .i64 (h2 : Int)] 3 (0, 0)) ∧ ∃ q, u = .slice (some ⟨q, 0, none⟩) 1 1 ∧ w'.heap[q]? = some (.cells #[.slice (some ⟨wO9.heap.size, 0, none⟩) 2 2] 24 (0, 0))) rfl (by kernel_rfl) (by kernel_rfl) (closed_prs) (fun _ _ _ h k => ⟨h.1.later k, h.2.1, closed_row _ _ _ _ h.2.2.1 k, h.2.2.2.imp fun q hq => ⟨hq.1, closed_row q _ _ _ hq.2 k⟩⟩) ?_
              intro wO10 hO10 hG10 K hK
              obtain ⟨hN10, p10, hp10, hB10, hrow10⟩ := hG10; obtain rfl : wO9.heap.size = p10 := (by simpa using hp10); go_simp; refine hK.out _ _ (closed_prs _ _ hO10 ((Below.refl _ _).alloc (Nat.le_refl _) _)) ⟨hN10.later ((Below.refl _ _).alloc (Nat.le_refl _) _), hB10, closed_row _ _ _ _ hrow10 ((Below.refl _ _).alloc (Nat.le_refl _) _), _, rfl, heap_alloc_new _ _⟩ ?_
              clear hK K
              try simp only [Act.put, List.getElem_toArray, List.getElem_cons_succ, List.getElem_cons_zero, List.setIfInBounds_toArray, List.set_cons_zero, List.set_cons_succ]
              refine Script.oneG (i := 11) (fun u w' => ∃ B', NestI (w.heap.size + 1) B' 24 3 u (n + 1) (vs ++ [.slice (some ⟨wO9.heap.size, 0, none⟩) 2 2]) (outj ++ [[(h : Int), (h2 : Int)]]) w') rfl (by kernel_rfl) (by kernel_rfl) (closed_prs) (fun _ _ _ h k => h.imp fun B' hn => hn.later k) ?_
              intro wO11 hO11 hG11 K hK
              obtain ⟨hN11, hB11, hrow11, q11, hq11, hro11⟩ := hG11; obtain rfl : wO10.heap.size = q11 := (by simpa using hq11); refine wp_append_one (.tmp 50) (.tmp 60) 33 rfl (w.heap.size + 1) 24 i1 (.slice none 0 0) 24 Try.underlying33 hi1 iz0 iz1 iz2 rfl (by decide) v n vs rfl hN11.outer _ rfl hro11 rfl (by omega) hO11.1.2.2.2.1 ?_; intro g9 cap9 w9 hown hgrow hb9; refine hK.out _ _ (hO11.grown hN11.outer hgrow hb9) ⟨_, hN11.push (by decide) (ys := [(h : Int), (h2 : Int)]) (m := 2) hB11 (Nat.le_trans hbB hB11) rfl (by unfold maxLen; omega) hrow11 hown hgrow⟩ ?_
              clear hK K
              try simp only [Act.put, List.getElem_toArray, List.getElem_cons_succ, List.getElem_cons_zero, List.setIfInBounds_toArray, List.set_cons_zero, List.set_cons_succ]
              refine Script.load (i := 12) (v := ?_) rfl (by kernel_rfl) (by kernel_rfl) (fun _ _ _ h => h) (by kernel_rfl) ?_ ?_
              rotate_left
              · (intro wS hSw; have x1 := own_cell hSw.2.1 k hkm (.int .i64 (h : Int)) (by simp [Ints, HK1.out]); have x2 := own_cell hSw.2.1 j hjm (.int .i64 (h2 : Int)) (by simp [Ints, HK2.out]); go_simp; try with_reducible rfl)
              try simp only [Act.put, List.getElem_toArray, List.getElem_cons_succ, List.getElem_cons_zero, List.setIfInBounds_toArray, List.set_cons_zero, List.set_cons_succ]
              refine Script.done (by kernel_rfl) ?_
              intro wD hD hG
              obtain ⟨B', hN'⟩ := hG
              have HN' := Lib.hid (hN'.raise hN'.size (Nat.le_refl _))
              rw [← HO.out] at HN'
              have HP' := Lib.hid hD
              clear hD hN' hO9 hG9 hO10 hO11 hN10 hN11 hB11 hrow11 hro11 hown hgrow hb9 HNB HP x1 x2
              go_wp2_with fail
              go_roundw
              case rel => exact ⟨j + 1, _, _, _, by omega, by go_num, rfl, HN', HP'⟩
              case measure => simp [intOf]; omega
          · obtain rfl : j = m := by omega
            have hfull : Hid (hs.take j = hs) := List.take_of_length_le (by rw [HM.out]; exact Nat.le_refl _)
            rw [hfull.out, ← HPX.out] at HN
            go_wp2_with fail
            go_roundw
            case rel => exact ⟨k + 1, v, n, vs, by omega, by go_num, rfl, HN, HP.out.1, HP.out.2.1⟩
            case measure => simp [intOf]; omega
      · obtain rfl : k = m := by omega
        have hfull : Hid (hs.take k = hs) := List.take_of_length_le (by rw [HM.out]; exact Nat.le_refl _)
        rw [hfull.out, HRes.out] at HN
        have hp : Hid (OwnSS res w (.returned v) wr) := ⟨v, n, vs, rfl, HN.out.mono (Nat.le_succ _), HB.out.2.2.2.2⟩
        clear HN HB HR
        go_wp2_with fail
        go_ret
        exact hp.out
end Go.Proofs.Ytkenlighpelhiaa
