/- The law FnReach returns true for every code: of a drawn small board and position: the list of what is reached holds the position, in ascending order; nothing of it has more pegs, and as many only the position itself; jumps from it stay in it; one peg is left at best just if there is a hole for a single peg; each such hole is one that the key allows; the fewest pegs are the least number of pegs of the list. No condition. -/
import Derived.Test.YtllfgdcplbfdhaaRows
import Derived.WalkKit
import Derived.WalkSpells
import Derived.ProofKit
import Derived.OpenShut
import Derived.ShutString
import Derived.ChangeOld
import Derived.Below
import Derived.Lib.Hide
import Derived.Lib.SmallJoins
import Derived.ChangeArms
import Derived.Test.YtllfgdcplbfdhaaDrawReach
import Derived.Test.YtllfgdcplbfdhaaReachFacts
import Derived.Test.YtllfgdcplbfdhaaReachC
import Derived.Test.YtllfgdcplbfdhaaReachI
import Derived.Test.YtllfgdcplbfdhaaClasses
import Derived.Test.YtllfgdcplbfdhaaJumps
import Derived.Test.YtllfgdcplbfdhaaBoards
import Derived.Test.YtllfgdcplbfdhaaHas
import Derived.Deep.DeepCutAuto
namespace Go.Proofs.Ytllfgdcplbfdhaa.fnReach
open Go.ChangeShapes Go.WideShapes Go.ChangeAt Go.RowKit
open Go.ChangeMaps (open_string shut_string)
set_option linter.unusedVariables false
set_option linter.unusedSimpArgs false
theorem own : ownKnob Try.prog.godebug = none := by kernel_rfl
theorem laidOut : laidOutB Try.prog = true := by kernel_rfl
/-- What the walk is told of a slice of integers that came in. -/
def IsRow (k : IntKind) (w : World) (a : Option Addr) (len cap : Nat) (zs : List Int) : Prop :=
  (a = none ∧ len = 0 ∧ cap = 0 ∧ zs = []) ∨
  ∃ x, a = some x ∧ len ≤ cap ∧ cap ≤ maxLen ∧ zs.length = cap ∧ (∀ i, i < zs.length → w.cell? (x.add i) = some (.int k (zs.getD i 0))) ∧ ∀ n ∈ zs, (Lit.int k n).wf = true
theorem byteAt0 {a : Option Addr} {len cap : Nat} (w : World) (hcode : CodeAt w a len) : Calls Try.prog 19 #[.slice a len cap, .int .i64 0] w (AtPost w) := byteAt 0 (by omega) w hcode
/-- The board's block, the list of what is reached, the list of holes. -/
structure RSt (w0 : World) (q W H z : Nat) (B1 B2 : Nat) (va : Option Addr) (n vc : Nat) (l : List Nat) (fa : Option Addr) (m fc : Nat) (f : List Nat) (w : World) : Prop where
  board : w.heap[q]? = some (.cells #[.int .i64 W, .int .i64 H, .int .i64 z] 25 (0, 0))
  l : w.ownsRow B1 3 1 (.slice va n vc) n (Ints l)
  f : w.ownsRow B2 3 1 (.slice fa m fc) m (Ints f)
  below : Below w0.heap.size w0 w
theorem RSt.later {w0 w w' : World} {q W H z B1 B2 n vc m fc : Nat} {va fa : Option Addr} {l f : List Nat} (h : RSt w0 q W H z B1 B2 va n vc l fa m fc f w) (hb : Below w.heap.size w w') : RSt w0 q W H z B1 B2 va n vc l fa m fc f w' :=
  ⟨closed_row _ _ _ _ h.board hb, own_below h.l hb, own_below h.f hb, h.below.trans (hb.mono h.below.size)⟩
theorem seq_get {w : World} {B n c k y : Nat} {a : Option Addr} {T : TypeId} {l : List Nat} (h : w.ownsRow B T 1 (.slice a n c) n (Ints l)) (hk : k < n) (hy : l[k]? = some y) : ∃ g, a = some ⟨g, 0, none⟩ ∧ w.cell? ⟨g, k, none⟩ = some (.int .i64 (y : Int)) := by
  obtain ⟨g, rfl⟩ := one_block h (by omega)
  exact ⟨g, rfl, own_cell h k hk _ (by simp [Ints, hy])⟩
set_option maxHeartbeats 8000000 in
set_option maxRecDepth 100000 in
theorem walk_in {a0 : Option Addr} {len cap : Nat} (w : World) (hcode : CodeAt w a0 len) :
    Calls Try.prog 3 #[.slice a0 len cap] w fun e w' => e = .returned (.bool true) ∧ Below w.heap.size w w' := by
  have HCO := Lib.hid hcode
  clear hcode
  go_enter Try.func3, Try.ntmps3
  go_wp2_with fail
  refine (big_no _ HCO.out.1).mono ?_
  rintro e w' ⟨rfl, rfl⟩
  go_wp2_with fail
  refine (drawStart w HCO.out).mono ?_
  rintro e w1 ⟨W, H, N, z, p, ho, hN, h13, hp, rfl, hb1⟩
  unfold bd
  obtain ⟨a, rfl⟩ := Int.eq_ofNat_of_zero_le (show 0 ≤ W by have := ho.w1; omega)
  obtain ⟨b, rfl⟩ := Int.eq_ofNat_of_zero_le (show 0 ≤ H by have := ho.h1; omega)
  have S : Small5 (a : Int) (b : Int) (z : Int) (p : Int) a b N z p := ⟨rfl, rfl, rfl, rfl, ho, hN, hp⟩
  have HSm := Lib.hid S
  have hp63 : (p : Int) ≤ 9223372036854775807 := by have := hp.le; have := ho.zbig; omega
  obtain ⟨l, hl⟩ : ∃ l, reachL false (a : Int) (b : Int) (z : Int) (p : Int) = l := ⟨_, rfl⟩
  obtain ⟨f, hf⟩ : ∃ f, finL (a : Int) (b : Int) (z : Int) (p : Int) = f := ⟨_, rfl⟩
  obtain ⟨n, hn⟩ : ∃ n, l.length = n := ⟨_, rfl⟩
  obtain ⟨m, hm⟩ : ∃ m, f.length = m := ⟨_, rfl⟩
  have hn65 : n ≤ 65536 := by rw [← hn, ← hl]; exact reach_len _ _ _ _ _
  have hm49 : m ≤ 49 := by rw [← hm, ← hf]; exact Nat.le_trans (List.length_filter_le ..) (holesR_len _ _ _)
  have CR := Lib.hid (fun w => implReach (a : Int) b z p hp63 w)
  have CF := Lib.hid (fun w => implFinals (a : Int) b z p hp63 w)
  have CW := Lib.hid (fun w => implFewest (a : Int) b z p hp63 w)
  have CC := Lib.hid (fun w => implCountReach (a : Int) b z p hp63 w)
  rw [hl] at CR CW CC
  rw [hf] at CF
  rw [hn] at CC
  have CSm : Hid (∀ w, Calls Try.prog 17 #[.agg #[.int .i64 (a : Int), .int .i64 (b : Int), .int .i64 (z : Int)]] w (QB true w)) := fun w => by have := implSmall (a : Int) b z w; rwa [S.small] at this
  have CCan : Hid (∀ q ∈ l, ∀ w, Calls Try.prog 16 #[.agg #[.int .i64 (a : Int), .int .i64 (b : Int), .int .i64 (z : Int)], .int .i64 (p : Int), .int .i64 (q : Int)] w (QB true w)) := fun q hq w => by
    rw [← hl] at hq
    have := implCanRch (a : Int) b z p q hp63 (by have := reach_lt hq; omega) w
    rwa [reach_mem.1 hq] at this
  have CP : Hid (∀ q ∈ l, ∀ w, Calls Try.prog 18 #[.agg #[.int .i64 (a : Int), .int .i64 (b : Int), .int .i64 (z : Int)], .int .i64 (q : Int)] w (QI (pc 49 q : Nat) w)) := fun q hq w => by
    rw [← hl] at hq
    have h1 := reach_lt hq
    have := specPegs (a : Int) b z (q : Int) (by omega) w
    rw [countB, if_pos (reach_pos hq), Int.toNat_natCast] at this
    exact this
  have hself : p ∈ l := by rw [← hl]; exact S.self
  have HSelf := Lib.hid hself
  have HPg : Hid (∀ q ∈ l, pc 49 q ≤ pc 49 p ∧ (pc 49 q = pc 49 p → q = p)) := fun q hq => S.pegs (by rw [hl]; exact hq)
  have HOr : Hid (∀ i j q r : Nat, i < j → l[i]? = some q → l[j]? = some r → q < r) := fun i j q r hij hi hj => reach_order false (a : Int) b z p hij (by rw [hl]; exact hi) (by rw [hl]; exact hj)
  have HJm : Hid (∀ q ∈ l, ∀ x, jumpB (a : Int) b z (q : Int) x = true → ∃ r : Nat, flipL (q : Int) x = (r : Int) ∧ r ∈ l) := fun q hq x hx => by
    obtain ⟨r, h1, h2⟩ := S.jump (by rw [hl]; exact hq) hx
    exact ⟨r, h1, by rw [← hl]; exact h2⟩
  have hsg := S.single
  rw [hl, hf, hm] at hsg
  obtain ⟨hfew, hfew0, -, -⟩ := few_is hself
  have HFin : Hid (∀ k ∈ f, k < 49 ∧ k < N ∧ bit z k = true ∧ 2 ^ k ∈ l ∧ k ∈ finalB (a : Int) b z p) := fun k hk => by
    have := S.final (by rw [hf]; exact hk)
    rw [hl] at this
    exact this
  have HLt : Hid (∀ q ∈ l, q < 65536) := fun q hq => reach_lt (by rw [hl]; exact hq)
  obtain ⟨x, hx⟩ : ∃ x, fewL l = x := ⟨_, rfl⟩
  rw [hx] at CW hsg hfew hfew0
  have HFew := Lib.hid hfew
  have hn1 : 1 ≤ n := by rw [← hn]; exact List.length_pos_of_mem hself
  have HN := Lib.hid hn
  have HM := Lib.hid hm
  have HOk := Lib.hid ho
  have HP63 := Lib.hid hp63
  have HB1 := Lib.hid hb1
  clear hb1 hl hf hn hm hself hfew hx S ho hp h13 hp63
  have HQ2 : Hid ((w1.alloc (.cells #[.int .i64 (a : Int), .int .i64 (b : Int), .int .i64 (z : Int)] 25)).heap[w1.heap.size]? = some (.cells #[.int .i64 (a : Int), .int .i64 (b : Int), .int .i64 (z : Int)] 25 (0, 0))) := heap_alloc_new w1 _
  have HB2 : Hid (Below w.heap.size w (w1.alloc (.cells #[.int .i64 (a : Int), .int .i64 (b : Int), .int .i64 (z : Int)] 25))) := HB1.out.alloc HB1.out.size _
  obtain ⟨c0, c1, c2, -, -, -⟩ := row_facts HQ2.out
  go_wp2_with fail
  clear c0 c1 c2
  generalize w1.alloc (.cells #[.int .i64 (a : Int), .int .i64 (b : Int), .int .i64 (z : Int)] 25) = w2 at *
  generalize w1.heap.size = q at *
  refine (CR.out _).mono ?_
  rintro e w3 ⟨v, rfl, hh, hb⟩
  rw [HN.out] at hh
  obtain ⟨va, vc, rfl⟩ := one_form hh
  have HL3 := Lib.hid hh
  have HQ3 := Lib.hid (closed_row _ _ _ _ HQ2.out hb)
  have HB3 := Lib.hid (HB2.out.trans (hb.mono HB2.out.size))
  clear hh hb HQ2 HB2 CR
  obtain ⟨c0, c1, c2, -, -, -⟩ := row_facts HQ3.out
  go_wp2_with fail
  clear c0 c1 c2
  refine (CF.out _).mono ?_
  rintro e w4 ⟨v, rfl, hh, hb⟩
  rw [HM.out] at hh
  obtain ⟨fa, fc, rfl⟩ := one_form hh
  have HS4 : Hid (RSt w q a b z w2.heap.size w3.heap.size va n vc l fa m fc f w4) := ⟨closed_row _ _ _ _ HQ3.out hb, own_below HL3.out hb, hh, HB3.out.trans (hb.mono HB3.out.size)⟩
  clear hh hb HQ3 HB3 HL3 CF
  generalize w2.heap.size = B1 at *
  generalize w3.heap.size = B2 at *
  obtain ⟨c0, c1, c2, -, -, -⟩ := row_facts HS4.out.board
  go_wp2_with fail
  clear c0 c1 c2
  refine (CW.out _).mono ?_
  rintro e w5 ⟨rfl, hb⟩
  have HS5 := Lib.hid (HS4.out.later hb)
  clear hb HS4 CW
  have CCs := Lib.hid (CCan.out p HSelf.out)
  go_upto_region 7 with fail
  go_cut [63] (fun cc wx => cc = .bool false ∧ Hid (RSt w q a b z B1 B2 va n vc l fa m fc f wx))
  case first =>
    have hn0 : ((n : Int) == 0) = false := by simp; omega
    obtain ⟨c0, c1, c2, -, -, -⟩ := row_facts HS5.out.board
    by_cases hm0 : 0 < m
    all_goals
      first | rw [decide_eq_true hm0] at hsg | rw [decide_eq_false hm0] at hsg
      go_wp2_with fail
      refine (CC.out _).mono ?_
      rintro e w6 ⟨rfl, hb⟩
      have HS6 := Lib.hid (HS5.out.later hb)
      clear hb
      obtain ⟨c0, c1, c2, -, -, -⟩ := row_facts HS6.out.board
      go_wp2_with fail
      refine (CCs.out _).mono ?_
      rintro e w7 ⟨rfl, hb⟩
      have HS7 := Lib.hid (HS6.out.later hb)
      clear hb
      obtain ⟨c0, c1, c2, -, -, -⟩ := row_facts HS7.out.board
      go_wp2_with fail
      refine (CSm.out _).mono ?_
      rintro e w8 ⟨rfl, hb⟩
      have HS8 := Lib.hid (HS7.out.later hb)
      clear hb
      go_wp2_with fail
      go_meet
      exact ⟨by first | rfl | (congr 1; simp; omega), HS8⟩
  case rest =>
    clear HS5 hsg CC CSm CCs
    obtain ⟨rfl, HS6⟩ := hcut
    have CP0 := Lib.hid (CP.out p HSelf.out)
    obtain ⟨c0, c1, c2, -, -, -⟩ := row_facts HS6.out.board
    obtain ⟨pn, hpn⟩ : ∃ pn, pc 49 p = pn := ⟨_, rfl⟩
    have hpn49 : pn ≤ 49 := by rw [← hpn]; exact pc_le _ _
    rw [hpn] at CP0 HPg HFew
    clear hpn
    go_wp2_with fail
    refine (CP0.out _).mono ?_
    rintro e w8 ⟨rfl, hb⟩
    have HS8 := Lib.hid (HS6.out.later hb)
    clear hb HS6 c0 c1 c2
    go_wp2_with fail
    go_loopw [8, 9] (fun u i wr => ∃ (k : Nat) (y : Int), k ≤ n ∧ i = .int .i64 k ∧ u = .int .i64 y ∧ 0 ≤ y ∧ y ≤ 49 ∧ Hid ((l.take k).foldl fewF (pn : Int) = y) ∧ Hid (RSt w q a b z B1 B2 va n vc l fa m fc f wr)) (fun _ i _ => n - (intOf i).toNat)
    case atStart => exact ⟨0, pn, Nat.zero_le _, rfl, rfl, by omega, by omega, rfl, HS8⟩
    case round =>
      clear HS8
      obtain ⟨k, y, hk, rfl, rfl, hy0, hy49, HY, HS⟩ := hrel
      by_cases hkn : k < n
      · have k0 : (0 : Int) ≤ (k : Int) := by omega
        have k1 : (k : Int) < (n : Int) := by omega
        obtain ⟨r, hr⟩ : ∃ r, l[k]? = some r := ⟨_, List.getElem?_eq_getElem (by rw [HN.out]; exact hkn)⟩
        have hrl := List.mem_of_getElem? hr
        obtain ⟨g, rfl, -⟩ := seq_get HS.out.l hkn hr
        have HCl : Hid (∀ w', RSt w q a b z B1 B2 (some ⟨g, 0, none⟩) n vc l fa m fc f w' → w'.cell? ⟨g, k, none⟩ = some (.int .i64 (r : Int))) := fun w' h => by
          obtain ⟨g', e, h'⟩ := seq_get h.l hkn hr
          cases e; exact h'
        have CPr := Lib.hid (CP.out r hrl)
        obtain ⟨hle, heq⟩ := HPg.out r hrl
        have HY2 : Hid ((l.take (k + 1)).foldl fewF (pn : Int) = min y ((pc 49 r : Nat) : Int)) := by unfold Hid; rw [take_one hr, List.foldl_append, HY.out]; exact fewF_min r hy0
        obtain ⟨rn, hrn⟩ : ∃ rn, pc 49 r = rn := ⟨_, rfl⟩
        rw [hrn] at CPr hle heq HY2
        have hr65 := HLt.out r hrl
        have HEq := Lib.hid heq
        have HRk := Lib.hid hr
        clear hrn hrl heq hr HY
        go_wp2_with fail
        refine wp_region_script (by kernel_rfl) (by kernel_rfl) ?_
        refine Script.load (i := 0) (v := ?_) rfl (by kernel_rfl) (by kernel_rfl) (fun _ _ _ h => h) (by kernel_rfl) ?_ ?_
        rotate_left
        · (intro wS hSw; obtain ⟨c0, c1, c2, -, -, -⟩ := row_facts (HS.out.later (After.trans (After.drew (After.refl _)) hSw)).board; have hcl := HCl.out wS (HS.out.later (After.trans (After.drew (After.refl _)) hSw)); go_simp; try with_reducible rfl)
        try simp only [Act.put, List.getElem_toArray, List.getElem_cons_succ, List.getElem_cons_zero, List.setIfInBounds_toArray, List.set_cons_zero, List.set_cons_succ]
        refine Script.load (i := 1) (v := ?_) rfl (by kernel_rfl) (by kernel_rfl) (fun _ _ _ h => h) (by kernel_rfl) ?_ ?_
        rotate_left
        · (intro wS hSw; obtain ⟨c0, c1, c2, -, -, -⟩ := row_facts (HS.out.later (After.trans (After.drew (After.refl _)) hSw)).board; have hcl := HCl.out wS (HS.out.later (After.trans (After.drew (After.refl _)) hSw)); go_simp; try with_reducible rfl)
        try simp only [Act.put, List.getElem_toArray, List.getElem_cons_succ, List.getElem_cons_zero, List.setIfInBounds_toArray, List.set_cons_zero, List.set_cons_succ]
        refine Script.load (i := 2) (v := ?_) rfl (by kernel_rfl) (by kernel_rfl) (fun _ _ _ h => h) (by kernel_rfl) ?_ ?_
        rotate_left
        · (intro wS hSw; obtain ⟨c0, c1, c2, -, -, -⟩ := row_facts (HS.out.later (After.trans (After.drew (After.refl _)) hSw)).board; have hcl := HCl.out wS (HS.out.later (After.trans (After.drew (After.refl _)) hSw)); go_simp; try with_reducible rfl)
        try simp only [Act.put, List.getElem_toArray, List.getElem_cons_succ, List.getElem_cons_zero, List.setIfInBounds_toArray, List.set_cons_zero, List.set_cons_succ]
        refine Script.load (i := 3) (v := ?_) rfl (by kernel_rfl) (by kernel_rfl) (fun _ _ _ h => h) (by kernel_rfl) ?_ ?_
        rotate_left
        · (intro wS hSw; obtain ⟨c0, c1, c2, -, -, -⟩ := row_facts (HS.out.later (After.trans (After.drew (After.refl _)) hSw)).board; have hcl := HCl.out wS (HS.out.later (After.trans (After.drew (After.refl _)) hSw)); go_simp; try with_reducible rfl)
        try simp only [Act.put, List.getElem_toArray, List.getElem_cons_succ, List.getElem_cons_zero, List.setIfInBounds_toArray, List.set_cons_zero, List.set_cons_succ]
        refine Script.load (i := 4) (v := ?_) rfl (by kernel_rfl) (by kernel_rfl) (fun _ _ _ h => h) (by kernel_rfl) ?_ ?_
        rotate_left
        · (intro wS hSw; obtain ⟨c0, c1, c2, -, -, -⟩ := row_facts (HS.out.later (After.trans (After.drew (After.refl _)) hSw)).board; have hcl := HCl.out wS (HS.out.later (After.trans (After.drew (After.refl _)) hSw)); go_simp; try with_reducible rfl)
        try simp only [Act.put, List.getElem_toArray, List.getElem_cons_succ, List.getElem_cons_zero, List.setIfInBounds_toArray, List.set_cons_zero, List.set_cons_succ]
        refine Script.call (i := 5) (v := ?_) rfl (by kernel_rfl) (by kernel_rfl) (fun _ _ _ h => h) (by kernel_rfl) ?_ ?_
        rotate_left
        · (intro wS hSw K hK; obtain ⟨c0, c1, c2, -, -, -⟩ := row_facts (HS.out.later (After.trans (After.drew (After.refl _)) hSw)).board; have hcl := HCl.out wS (HS.out.later (After.trans (After.drew (After.refl _)) hSw)); go_simp; go_at_call 18; refine (CPr.out _).mono ?_; rintro e wc' ⟨rfl, hbc⟩; exact hK.out _ hbc)
        try simp only [Act.put, List.getElem_toArray, List.getElem_cons_succ, List.getElem_cons_zero, List.setIfInBounds_toArray, List.set_cons_zero, List.set_cons_succ]
        refine Script.load (i := 6) (v := ?_) rfl (by kernel_rfl) (by kernel_rfl) (fun _ _ _ h => h) (by kernel_rfl) ?_ ?_
        rotate_left
        · (intro wS hSw; obtain ⟨c0, c1, c2, -, -, -⟩ := row_facts (HS.out.later (After.trans (After.drew (After.refl _)) hSw)).board; have hcl := HCl.out wS (HS.out.later (After.trans (After.drew (After.refl _)) hSw)); go_simp; try with_reducible rfl)
        try simp only [Act.put, List.getElem_toArray, List.getElem_cons_succ, List.getElem_cons_zero, List.setIfInBounds_toArray, List.set_cons_zero, List.set_cons_succ]
        refine Script.done (by kernel_rfl) ?_
        intro wD hD hG
        have HS2 := Lib.hid (HS.out.later (After.trans (After.drew (After.refl _)) hD))
        clear hD hG HS
        obtain ⟨y2, hy2⟩ : ∃ y2, min y (rn : Int) = y2 := ⟨_, rfl⟩
        rw [hy2] at HY2
        have hy2b : 0 ≤ y2 ∧ y2 ≤ 49 := by omega
        go_upto_region 14 with fail
        go_cut [8] from 67 to 117 (fun u wx => u = .int .i64 y2 ∧ Hid (RSt w q a b z B1 B2 (some ⟨g, 0, none⟩) n vc l fa m fc f wx))
        case first =>
          by_cases hyr : y ≤ (rn : Int)
          · have hmin : min y (rn : Int) = y := by omega
            have HE : Hid (y = y2) := by unfold Hid; omega
            clear hy2
            go_wp2_with fail
            go_meet
            exact ⟨by rw [HE.out], HS2⟩
          · have hyr' : (rn : Int) ≤ y := by omega
            have hmin : min y (rn : Int) = (rn : Int) := by omega
            have HE : Hid ((rn : Int) = y2) := by unfold Hid; omega
            clear hy2
            go_wp2_with fail
            go_meet
            exact ⟨by rw [HE.out], HS2⟩
        case rest =>
          clear HS2 hy2
          obtain ⟨rfl, HS3⟩ := hcut
          go_upto_region 15 with fail
          go_cut [117] from 67 to 116 (fun u wx => u = .bool false ∧ Hid (RSt w q a b z B1 B2 (some ⟨g, 0, none⟩) n vc l fa m fc f wx))
          case first =>
            have hgt : decide (pn < rn) = false := decide_eq_false (by omega)
            have hrw : IntKind.i64.wrap (r : Int) = (r : Int) := IntWalk.i64_in _ (by omega)
            by_cases hrp : rn = pn
            · have hrq : r = p := HEq.out hrp
              have hne : ((r : Int) != (p : Int)) = false := by simp [hrq]
              have hrpb : ((rn : Int) == (pn : Int)) = true := by simp; omega
              clear hrp hrq
              by_cases hk0 : 0 < k
              · have hk0d : decide (0 < k) = true := decide_eq_true hk0
                obtain ⟨k', hk'⟩ : ∃ k', k = k' + 1 := ⟨k - 1, by omega⟩
                have hkm : (k : Int) - 1 = (k' : Int) := by omega
                have hkn' : k' < n := by omega
                have hkw : IntKind.i64.wrap (k' : Int) = (k' : Int) := IntWalk.i64_in _ (by omega)
                have k0' : (0 : Int) ≤ (k' : Int) := by omega
                have k1' : (k' : Int) < (n : Int) := by omega
                obtain ⟨r', hr'⟩ : ∃ r, l[k']? = some r := ⟨_, List.getElem?_eq_getElem (by rw [HN.out]; exact hkn')⟩
                have hlt := HOr.out k' k r' r (by omega) hr' HRk.out
                have hled : decide (r ≤ r') = false := decide_eq_false (by omega)
                have HCm : Hid (∀ w', RSt w q a b z B1 B2 (some ⟨g, 0, none⟩) n vc l fa m fc f w' → w'.cell? ⟨g, k', none⟩ = some (.int .i64 (r' : Int))) := fun w' h => by
                  obtain ⟨g', e, h'⟩ := seq_get h.l hkn' hr'
                  cases e; exact h'
                clear hr' hk'
                go_wp2_with fail
                refine wp_region_script (by kernel_rfl) (by kernel_rfl) ?_
                refine Script.load (i := 0) (v := ?_) rfl (by kernel_rfl) (by kernel_rfl) (fun _ _ _ h => h) (by kernel_rfl) ?_ ?_
                rotate_left
                · (intro wS hSw; have hRS := HS3.out.later (After.trans (After.drew (After.refl _)) hSw); obtain ⟨c0, c1, c2, -, -, -⟩ := row_facts hRS.board; have hcl := HCl.out wS hRS; have hcm := HCm.out wS hRS; go_simp; try with_reducible rfl)
                try simp only [Act.put, List.getElem_toArray, List.getElem_cons_succ, List.getElem_cons_zero, List.setIfInBounds_toArray, List.set_cons_zero, List.set_cons_succ]
                refine Script.load (i := 1) (v := ?_) rfl (by kernel_rfl) (by kernel_rfl) (fun _ _ _ h => h) (by kernel_rfl) ?_ ?_
                rotate_left
                · (intro wS hSw; have hRS := HS3.out.later (After.trans (After.drew (After.refl _)) hSw); obtain ⟨c0, c1, c2, -, -, -⟩ := row_facts hRS.board; have hcl := HCl.out wS hRS; have hcm := HCm.out wS hRS; go_simp; try with_reducible rfl)
                try simp only [Act.put, List.getElem_toArray, List.getElem_cons_succ, List.getElem_cons_zero, List.setIfInBounds_toArray, List.set_cons_zero, List.set_cons_succ]
                refine Script.load (i := 2) (v := ?_) rfl (by kernel_rfl) (by kernel_rfl) (fun _ _ _ h => h) (by kernel_rfl) ?_ ?_
                rotate_left
                · (intro wS hSw; have hRS := HS3.out.later (After.trans (After.drew (After.refl _)) hSw); obtain ⟨c0, c1, c2, -, -, -⟩ := row_facts hRS.board; have hcl := HCl.out wS hRS; have hcm := HCm.out wS hRS; go_simp; try with_reducible rfl)
                try simp only [Act.put, List.getElem_toArray, List.getElem_cons_succ, List.getElem_cons_zero, List.setIfInBounds_toArray, List.set_cons_zero, List.set_cons_succ]
                refine Script.call (i := 3) (v := ?_) rfl (by kernel_rfl) (by kernel_rfl) (fun _ _ _ h => h) (by kernel_rfl) ?_ ?_
                rotate_left
                · (intro wS hSw K hK; have hRS := HS3.out.later (After.trans (After.drew (After.refl _)) hSw); obtain ⟨c0, c1, c2, -, -, -⟩ := row_facts hRS.board; have hcl := HCl.out wS hRS; have hcm := HCm.out wS hRS; go_simp; go_at_call 18; refine (CP0.out _).mono ?_; rintro e wc' ⟨rfl, hbc⟩; exact hK.out _ hbc)
                try simp only [Act.put, List.getElem_toArray, List.getElem_cons_succ, List.getElem_cons_zero, List.setIfInBounds_toArray, List.set_cons_zero, List.set_cons_succ]
                refine Script.load (i := 4) (v := ?_) rfl (by kernel_rfl) (by kernel_rfl) (fun _ _ _ h => h) (by kernel_rfl) ?_ ?_
                rotate_left
                · (intro wS hSw; have hRS := HS3.out.later (After.trans (After.drew (After.refl _)) hSw); obtain ⟨c0, c1, c2, -, -, -⟩ := row_facts hRS.board; have hcl := HCl.out wS hRS; have hcm := HCm.out wS hRS; go_simp; try with_reducible rfl)
                try simp only [Act.put, List.getElem_toArray, List.getElem_cons_succ, List.getElem_cons_zero, List.setIfInBounds_toArray, List.set_cons_zero, List.set_cons_succ]
                refine Script.load (i := 5) (v := ?_) rfl (by kernel_rfl) (by kernel_rfl) (fun _ _ _ h => h) (by kernel_rfl) ?_ ?_
                rotate_left
                · (intro wS hSw; have hRS := HS3.out.later (After.trans (After.drew (After.refl _)) hSw); obtain ⟨c0, c1, c2, -, -, -⟩ := row_facts hRS.board; have hcl := HCl.out wS hRS; have hcm := HCm.out wS hRS; go_simp; try with_reducible rfl)
                try simp only [Act.put, List.getElem_toArray, List.getElem_cons_succ, List.getElem_cons_zero, List.setIfInBounds_toArray, List.set_cons_zero, List.set_cons_succ]
                refine Script.load (i := 6) (v := ?_) rfl (by kernel_rfl) (by kernel_rfl) (fun _ _ _ h => h) (by kernel_rfl) ?_ ?_
                rotate_left
                · (intro wS hSw; have hRS := HS3.out.later (After.trans (After.drew (After.refl _)) hSw); obtain ⟨c0, c1, c2, -, -, -⟩ := row_facts hRS.board; have hcl := HCl.out wS hRS; have hcm := HCm.out wS hRS; go_simp; try with_reducible rfl)
                try simp only [Act.put, List.getElem_toArray, List.getElem_cons_succ, List.getElem_cons_zero, List.setIfInBounds_toArray, List.set_cons_zero, List.set_cons_succ]
                refine Script.load (i := 7) (v := ?_) rfl (by kernel_rfl) (by kernel_rfl) (fun _ _ _ h => h) (by kernel_rfl) ?_ ?_
                rotate_left
                · (intro wS hSw; have hRS := HS3.out.later (After.trans (After.drew (After.refl _)) hSw); obtain ⟨c0, c1, c2, -, -, -⟩ := row_facts hRS.board; have hcl := HCl.out wS hRS; have hcm := HCm.out wS hRS; go_simp; try with_reducible rfl)
                try simp only [Act.put, List.getElem_toArray, List.getElem_cons_succ, List.getElem_cons_zero, List.setIfInBounds_toArray, List.set_cons_zero, List.set_cons_succ]
                refine Script.load (i := 8) (v := ?_) rfl (by kernel_rfl) (by kernel_rfl) (fun _ _ _ h => h) (by kernel_rfl) ?_ ?_
                rotate_left
                · (intro wS hSw; have hRS := HS3.out.later (After.trans (After.drew (After.refl _)) hSw); obtain ⟨c0, c1, c2, -, -, -⟩ := row_facts hRS.board; have hcl := HCl.out wS hRS; have hcm := HCm.out wS hRS; go_simp; try with_reducible rfl)
                try simp only [Act.put, List.getElem_toArray, List.getElem_cons_succ, List.getElem_cons_zero, List.setIfInBounds_toArray, List.set_cons_zero, List.set_cons_succ]
                refine Script.call (i := 9) (v := ?_) rfl (by kernel_rfl) (by kernel_rfl) (fun _ _ _ h => h) (by kernel_rfl) ?_ ?_
                rotate_left
                · (intro wS hSw K hK; have hRS := HS3.out.later (After.trans (After.drew (After.refl _)) hSw); obtain ⟨c0, c1, c2, -, -, -⟩ := row_facts hRS.board; have hcl := HCl.out wS hRS; have hcm := HCm.out wS hRS; go_simp; go_at_call 18; refine (CP0.out _).mono ?_; rintro e wc' ⟨rfl, hbc⟩; exact hK.out _ hbc)
                try simp only [Act.put, List.getElem_toArray, List.getElem_cons_succ, List.getElem_cons_zero, List.setIfInBounds_toArray, List.set_cons_zero, List.set_cons_succ]
                refine Script.load (i := 10) (v := ?_) rfl (by kernel_rfl) (by kernel_rfl) (fun _ _ _ h => h) (by kernel_rfl) ?_ ?_
                rotate_left
                · (intro wS hSw; have hRS := HS3.out.later (After.trans (After.drew (After.refl _)) hSw); obtain ⟨c0, c1, c2, -, -, -⟩ := row_facts hRS.board; have hcl := HCl.out wS hRS; have hcm := HCm.out wS hRS; go_simp; try with_reducible rfl)
                try simp only [Act.put, List.getElem_toArray, List.getElem_cons_succ, List.getElem_cons_zero, List.setIfInBounds_toArray, List.set_cons_zero, List.set_cons_succ]
                refine Script.load (i := 11) (v := ?_) rfl (by kernel_rfl) (by kernel_rfl) (fun _ _ _ h => h) (by kernel_rfl) ?_ ?_
                rotate_left
                · (intro wS hSw; have hRS := HS3.out.later (After.trans (After.drew (After.refl _)) hSw); obtain ⟨c0, c1, c2, -, -, -⟩ := row_facts hRS.board; have hcl := HCl.out wS hRS; have hcm := HCm.out wS hRS; go_simp; try with_reducible rfl)
                try simp only [Act.put, List.getElem_toArray, List.getElem_cons_succ, List.getElem_cons_zero, List.setIfInBounds_toArray, List.set_cons_zero, List.set_cons_succ]
                refine Script.load (i := 12) (v := ?_) rfl (by kernel_rfl) (by kernel_rfl) (fun _ _ _ h => h) (by kernel_rfl) ?_ ?_
                rotate_left
                · (intro wS hSw; have hRS := HS3.out.later (After.trans (After.drew (After.refl _)) hSw); obtain ⟨c0, c1, c2, -, -, -⟩ := row_facts hRS.board; have hcl := HCl.out wS hRS; have hcm := HCm.out wS hRS; go_simp; try with_reducible rfl)
                try simp only [Act.put, List.getElem_toArray, List.getElem_cons_succ, List.getElem_cons_zero, List.setIfInBounds_toArray, List.set_cons_zero, List.set_cons_succ]
                refine Script.load (i := 13) (v := ?_) rfl (by kernel_rfl) (by kernel_rfl) (fun _ _ _ h => h) (by kernel_rfl) ?_ ?_
                rotate_left
                · (intro wS hSw; have hRS := HS3.out.later (After.trans (After.drew (After.refl _)) hSw); obtain ⟨c0, c1, c2, -, -, -⟩ := row_facts hRS.board; have hcl := HCl.out wS hRS; have hcm := HCm.out wS hRS; go_simp; try with_reducible rfl)
                try simp only [Act.put, List.getElem_toArray, List.getElem_cons_succ, List.getElem_cons_zero, List.setIfInBounds_toArray, List.set_cons_zero, List.set_cons_succ]
                refine Script.load (i := 14) (v := ?_) rfl (by kernel_rfl) (by kernel_rfl) (fun _ _ _ h => h) (by kernel_rfl) ?_ ?_
                rotate_left
                · (intro wS hSw; have hRS := HS3.out.later (After.trans (After.drew (After.refl _)) hSw); obtain ⟨c0, c1, c2, -, -, -⟩ := row_facts hRS.board; have hcl := HCl.out wS hRS; have hcm := HCm.out wS hRS; go_simp; try with_reducible rfl)
                try simp only [Act.put, List.getElem_toArray, List.getElem_cons_succ, List.getElem_cons_zero, List.setIfInBounds_toArray, List.set_cons_zero, List.set_cons_succ]
                refine Script.load (i := 15) (v := ?_) rfl (by kernel_rfl) (by kernel_rfl) (fun _ _ _ h => h) (by kernel_rfl) ?_ ?_
                rotate_left
                · (intro wS hSw; have hRS := HS3.out.later (After.trans (After.drew (After.refl _)) hSw); obtain ⟨c0, c1, c2, -, -, -⟩ := row_facts hRS.board; have hcl := HCl.out wS hRS; have hcm := HCm.out wS hRS; go_simp; try with_reducible rfl)
                try simp only [Act.put, List.getElem_toArray, List.getElem_cons_succ, List.getElem_cons_zero, List.setIfInBounds_toArray, List.set_cons_zero, List.set_cons_succ]
                refine Script.load (i := 16) (v := ?_) rfl (by kernel_rfl) (by kernel_rfl) (fun _ _ _ h => h) (by kernel_rfl) ?_ ?_
                rotate_left
                · (intro wS hSw; have hRS := HS3.out.later (After.trans (After.drew (After.refl _)) hSw); obtain ⟨c0, c1, c2, -, -, -⟩ := row_facts hRS.board; have hcl := HCl.out wS hRS; have hcm := HCm.out wS hRS; go_simp; try with_reducible rfl)
                try simp only [Act.put, List.getElem_toArray, List.getElem_cons_succ, List.getElem_cons_zero, List.setIfInBounds_toArray, List.set_cons_zero, List.set_cons_succ]
                refine Script.load (i := 17) (v := ?_) rfl (by kernel_rfl) (by kernel_rfl) (fun _ _ _ h => h) (by kernel_rfl) ?_ ?_
                rotate_left
                · (intro wS hSw; have hRS := HS3.out.later (After.trans (After.drew (After.refl _)) hSw); obtain ⟨c0, c1, c2, -, -, -⟩ := row_facts hRS.board; have hcl := HCl.out wS hRS; have hcm := HCm.out wS hRS; go_simp; try with_reducible rfl)
                try simp only [Act.put, List.getElem_toArray, List.getElem_cons_succ, List.getElem_cons_zero, List.setIfInBounds_toArray, List.set_cons_zero, List.set_cons_succ]
                refine Script.load (i := 18) (v := ?_) rfl (by kernel_rfl) (by kernel_rfl) (fun _ _ _ h => h) (by kernel_rfl) ?_ ?_
                rotate_left
                · (intro wS hSw; have hRS := HS3.out.later (After.trans (After.drew (After.refl _)) hSw); obtain ⟨c0, c1, c2, -, -, -⟩ := row_facts hRS.board; have hcl := HCl.out wS hRS; have hcm := HCm.out wS hRS; go_simp; try with_reducible rfl)
                try simp only [Act.put, List.getElem_toArray, List.getElem_cons_succ, List.getElem_cons_zero, List.setIfInBounds_toArray, List.set_cons_zero, List.set_cons_succ]
                refine Script.load (i := 19) (v := ?_) rfl (by kernel_rfl) (by kernel_rfl) (fun _ _ _ h => h) (by kernel_rfl) ?_ ?_
                rotate_left
                · (intro wS hSw; have hRS := HS3.out.later (After.trans (After.drew (After.refl _)) hSw); obtain ⟨c0, c1, c2, -, -, -⟩ := row_facts hRS.board; have hcl := HCl.out wS hRS; have hcm := HCm.out wS hRS; go_simp; try with_reducible rfl)
                try simp only [Act.put, List.getElem_toArray, List.getElem_cons_succ, List.getElem_cons_zero, List.setIfInBounds_toArray, List.set_cons_zero, List.set_cons_succ]
                refine Script.load (i := 20) (v := ?_) rfl (by kernel_rfl) (by kernel_rfl) (fun _ _ _ h => h) (by kernel_rfl) ?_ ?_
                rotate_left
                · (intro wS hSw; have hRS := HS3.out.later (After.trans (After.drew (After.refl _)) hSw); obtain ⟨c0, c1, c2, -, -, -⟩ := row_facts hRS.board; have hcl := HCl.out wS hRS; have hcm := HCm.out wS hRS; go_simp; try with_reducible rfl)
                try simp only [Act.put, List.getElem_toArray, List.getElem_cons_succ, List.getElem_cons_zero, List.setIfInBounds_toArray, List.set_cons_zero, List.set_cons_succ]
                refine Script.load (i := 21) (v := ?_) rfl (by kernel_rfl) (by kernel_rfl) (fun _ _ _ h => h) (by kernel_rfl) ?_ ?_
                rotate_left
                · (intro wS hSw; have hRS := HS3.out.later (After.trans (After.drew (After.refl _)) hSw); obtain ⟨c0, c1, c2, -, -, -⟩ := row_facts hRS.board; have hcl := HCl.out wS hRS; have hcm := HCm.out wS hRS; go_simp; try with_reducible rfl)
                try simp only [Act.put, List.getElem_toArray, List.getElem_cons_succ, List.getElem_cons_zero, List.setIfInBounds_toArray, List.set_cons_zero, List.set_cons_succ]
                refine Script.load (i := 22) (v := ?_) rfl (by kernel_rfl) (by kernel_rfl) (fun _ _ _ h => h) (by kernel_rfl) ?_ ?_
                rotate_left
                · (intro wS hSw; have hRS := HS3.out.later (After.trans (After.drew (After.refl _)) hSw); obtain ⟨c0, c1, c2, -, -, -⟩ := row_facts hRS.board; have hcl := HCl.out wS hRS; have hcm := HCm.out wS hRS; go_simp; try with_reducible rfl)
                try simp only [Act.put, List.getElem_toArray, List.getElem_cons_succ, List.getElem_cons_zero, List.setIfInBounds_toArray, List.set_cons_zero, List.set_cons_succ]
                refine Script.load (i := 23) (v := ?_) rfl (by kernel_rfl) (by kernel_rfl) (fun _ _ _ h => h) (by kernel_rfl) ?_ ?_
                rotate_left
                · (intro wS hSw; have hRS := HS3.out.later (After.trans (After.drew (After.refl _)) hSw); obtain ⟨c0, c1, c2, -, -, -⟩ := row_facts hRS.board; have hcl := HCl.out wS hRS; have hcm := HCm.out wS hRS; go_simp; try with_reducible rfl)
                try simp only [Act.put, List.getElem_toArray, List.getElem_cons_succ, List.getElem_cons_zero, List.setIfInBounds_toArray, List.set_cons_zero, List.set_cons_succ]
                refine Script.load (i := 24) (v := ?_) rfl (by kernel_rfl) (by kernel_rfl) (fun _ _ _ h => h) (by kernel_rfl) ?_ ?_
                rotate_left
                · (intro wS hSw; have hRS := HS3.out.later (After.trans (After.drew (After.refl _)) hSw); obtain ⟨c0, c1, c2, -, -, -⟩ := row_facts hRS.board; have hcl := HCl.out wS hRS; have hcm := HCm.out wS hRS; go_simp; try with_reducible rfl)
                try simp only [Act.put, List.getElem_toArray, List.getElem_cons_succ, List.getElem_cons_zero, List.setIfInBounds_toArray, List.set_cons_zero, List.set_cons_succ]
                refine Script.load (i := 25) (v := ?_) rfl (by kernel_rfl) (by kernel_rfl) (fun _ _ _ h => h) (by kernel_rfl) ?_ ?_
                rotate_left
                · (intro wS hSw; have hRS := HS3.out.later (After.trans (After.drew (After.refl _)) hSw); obtain ⟨c0, c1, c2, -, -, -⟩ := row_facts hRS.board; have hcl := HCl.out wS hRS; have hcm := HCm.out wS hRS; go_simp; try with_reducible rfl)
                try simp only [Act.put, List.getElem_toArray, List.getElem_cons_succ, List.getElem_cons_zero, List.setIfInBounds_toArray, List.set_cons_zero, List.set_cons_succ]
                refine Script.load (i := 26) (v := ?_) rfl (by kernel_rfl) (by kernel_rfl) (fun _ _ _ h => h) (by kernel_rfl) ?_ ?_
                rotate_left
                · (intro wS hSw; have hRS := HS3.out.later (After.trans (After.drew (After.refl _)) hSw); obtain ⟨c0, c1, c2, -, -, -⟩ := row_facts hRS.board; have hcl := HCl.out wS hRS; have hcm := HCm.out wS hRS; go_simp; try with_reducible rfl)
                try simp only [Act.put, List.getElem_toArray, List.getElem_cons_succ, List.getElem_cons_zero, List.setIfInBounds_toArray, List.set_cons_zero, List.set_cons_succ]
                refine Script.load (i := 27) (v := ?_) rfl (by kernel_rfl) (by kernel_rfl) (fun _ _ _ h => h) (by kernel_rfl) ?_ ?_
                rotate_left
                · (intro wS hSw; have hRS := HS3.out.later (After.trans (After.drew (After.refl _)) hSw); obtain ⟨c0, c1, c2, -, -, -⟩ := row_facts hRS.board; have hcl := HCl.out wS hRS; have hcm := HCm.out wS hRS; go_simp; try with_reducible rfl)
                try simp only [Act.put, List.getElem_toArray, List.getElem_cons_succ, List.getElem_cons_zero, List.setIfInBounds_toArray, List.set_cons_zero, List.set_cons_succ]
                refine Script.load (i := 28) (v := ?_) rfl (by kernel_rfl) (by kernel_rfl) (fun _ _ _ h => h) (by kernel_rfl) ?_ ?_
                rotate_left
                · (intro wS hSw; have hRS := HS3.out.later (After.trans (After.drew (After.refl _)) hSw); obtain ⟨c0, c1, c2, -, -, -⟩ := row_facts hRS.board; have hcl := HCl.out wS hRS; have hcm := HCm.out wS hRS; go_simp; try with_reducible rfl)
                try simp only [Act.put, List.getElem_toArray, List.getElem_cons_succ, List.getElem_cons_zero, List.setIfInBounds_toArray, List.set_cons_zero, List.set_cons_succ]
                refine Script.load (i := 29) (v := ?_) rfl (by kernel_rfl) (by kernel_rfl) (fun _ _ _ h => h) (by kernel_rfl) ?_ ?_
                rotate_left
                · (intro wS hSw; have hRS := HS3.out.later (After.trans (After.drew (After.refl _)) hSw); obtain ⟨c0, c1, c2, -, -, -⟩ := row_facts hRS.board; have hcl := HCl.out wS hRS; have hcm := HCm.out wS hRS; go_simp; try with_reducible rfl)
                try simp only [Act.put, List.getElem_toArray, List.getElem_cons_succ, List.getElem_cons_zero, List.setIfInBounds_toArray, List.set_cons_zero, List.set_cons_succ]
                refine Script.load (i := 30) (v := ?_) rfl (by kernel_rfl) (by kernel_rfl) (fun _ _ _ h => h) (by kernel_rfl) ?_ ?_
                rotate_left
                · (intro wS hSw; have hRS := HS3.out.later (After.trans (After.drew (After.refl _)) hSw); obtain ⟨c0, c1, c2, -, -, -⟩ := row_facts hRS.board; have hcl := HCl.out wS hRS; have hcm := HCm.out wS hRS; go_simp; try with_reducible rfl)
                try simp only [Act.put, List.getElem_toArray, List.getElem_cons_succ, List.getElem_cons_zero, List.setIfInBounds_toArray, List.set_cons_zero, List.set_cons_succ]
                refine Script.load (i := 31) (v := ?_) rfl (by kernel_rfl) (by kernel_rfl) (fun _ _ _ h => h) (by kernel_rfl) ?_ ?_
                rotate_left
                · (intro wS hSw; have hRS := HS3.out.later (After.trans (After.drew (After.refl _)) hSw); obtain ⟨c0, c1, c2, -, -, -⟩ := row_facts hRS.board; have hcl := HCl.out wS hRS; have hcm := HCm.out wS hRS; go_simp; try with_reducible rfl)
                try simp only [Act.put, List.getElem_toArray, List.getElem_cons_succ, List.getElem_cons_zero, List.setIfInBounds_toArray, List.set_cons_zero, List.set_cons_succ]
                refine Script.load (i := 32) (v := ?_) rfl (by kernel_rfl) (by kernel_rfl) (fun _ _ _ h => h) (by kernel_rfl) ?_ ?_
                rotate_left
                · (intro wS hSw; have hRS := HS3.out.later (After.trans (After.drew (After.refl _)) hSw); obtain ⟨c0, c1, c2, -, -, -⟩ := row_facts hRS.board; have hcl := HCl.out wS hRS; have hcm := HCm.out wS hRS; go_simp; try with_reducible rfl)
                try simp only [Act.put, List.getElem_toArray, List.getElem_cons_succ, List.getElem_cons_zero, List.setIfInBounds_toArray, List.set_cons_zero, List.set_cons_succ]
                refine Script.load (i := 33) (v := ?_) rfl (by kernel_rfl) (by kernel_rfl) (fun _ _ _ h => h) (by kernel_rfl) ?_ ?_
                rotate_left
                · (intro wS hSw; have hRS := HS3.out.later (After.trans (After.drew (After.refl _)) hSw); obtain ⟨c0, c1, c2, -, -, -⟩ := row_facts hRS.board; have hcl := HCl.out wS hRS; have hcm := HCm.out wS hRS; go_simp; try with_reducible rfl)
                try simp only [Act.put, List.getElem_toArray, List.getElem_cons_succ, List.getElem_cons_zero, List.setIfInBounds_toArray, List.set_cons_zero, List.set_cons_succ]
                refine Script.load (i := 34) (v := ?_) rfl (by kernel_rfl) (by kernel_rfl) (fun _ _ _ h => h) (by kernel_rfl) ?_ ?_
                rotate_left
                · (intro wS hSw; have hRS := HS3.out.later (After.trans (After.drew (After.refl _)) hSw); obtain ⟨c0, c1, c2, -, -, -⟩ := row_facts hRS.board; have hcl := HCl.out wS hRS; have hcm := HCm.out wS hRS; go_simp; try with_reducible rfl)
                try simp only [Act.put, List.getElem_toArray, List.getElem_cons_succ, List.getElem_cons_zero, List.setIfInBounds_toArray, List.set_cons_zero, List.set_cons_succ]
                refine Script.load (i := 35) (v := ?_) rfl (by kernel_rfl) (by kernel_rfl) (fun _ _ _ h => h) (by kernel_rfl) ?_ ?_
                rotate_left
                · (intro wS hSw; have hRS := HS3.out.later (After.trans (After.drew (After.refl _)) hSw); obtain ⟨c0, c1, c2, -, -, -⟩ := row_facts hRS.board; have hcl := HCl.out wS hRS; have hcm := HCm.out wS hRS; go_simp; try with_reducible rfl)
                try simp only [Act.put, List.getElem_toArray, List.getElem_cons_succ, List.getElem_cons_zero, List.setIfInBounds_toArray, List.set_cons_zero, List.set_cons_succ]
                refine Script.done (by kernel_rfl) ?_
                intro wD hD hG
                have HS5 := Lib.hid (HS3.out.later (After.trans (After.drew (After.refl _)) hD))
                clear hD hG
                go_wp2_with fail
                go_meet
                exact ⟨rfl, HS5⟩
              · have hk0d : decide (0 < k) = false := decide_eq_false hk0
                go_wp2_with fail
                refine wp_region_script (by kernel_rfl) (by kernel_rfl) ?_
                refine Script.load (i := 0) (v := ?_) rfl (by kernel_rfl) (by kernel_rfl) (fun _ _ _ h => h) (by kernel_rfl) ?_ ?_
                rotate_left
                · (intro wS hSw; have hRS := HS3.out.later (After.trans (After.drew (After.refl _)) hSw); obtain ⟨c0, c1, c2, -, -, -⟩ := row_facts hRS.board; have hcl := HCl.out wS hRS; go_simp; try with_reducible rfl)
                try simp only [Act.put, List.getElem_toArray, List.getElem_cons_succ, List.getElem_cons_zero, List.setIfInBounds_toArray, List.set_cons_zero, List.set_cons_succ]
                refine Script.load (i := 1) (v := ?_) rfl (by kernel_rfl) (by kernel_rfl) (fun _ _ _ h => h) (by kernel_rfl) ?_ ?_
                rotate_left
                · (intro wS hSw; have hRS := HS3.out.later (After.trans (After.drew (After.refl _)) hSw); obtain ⟨c0, c1, c2, -, -, -⟩ := row_facts hRS.board; have hcl := HCl.out wS hRS; go_simp; try with_reducible rfl)
                try simp only [Act.put, List.getElem_toArray, List.getElem_cons_succ, List.getElem_cons_zero, List.setIfInBounds_toArray, List.set_cons_zero, List.set_cons_succ]
                refine Script.load (i := 2) (v := ?_) rfl (by kernel_rfl) (by kernel_rfl) (fun _ _ _ h => h) (by kernel_rfl) ?_ ?_
                rotate_left
                · (intro wS hSw; have hRS := HS3.out.later (After.trans (After.drew (After.refl _)) hSw); obtain ⟨c0, c1, c2, -, -, -⟩ := row_facts hRS.board; have hcl := HCl.out wS hRS; go_simp; try with_reducible rfl)
                try simp only [Act.put, List.getElem_toArray, List.getElem_cons_succ, List.getElem_cons_zero, List.setIfInBounds_toArray, List.set_cons_zero, List.set_cons_succ]
                refine Script.call (i := 3) (v := ?_) rfl (by kernel_rfl) (by kernel_rfl) (fun _ _ _ h => h) (by kernel_rfl) ?_ ?_
                rotate_left
                · (intro wS hSw K hK; have hRS := HS3.out.later (After.trans (After.drew (After.refl _)) hSw); obtain ⟨c0, c1, c2, -, -, -⟩ := row_facts hRS.board; have hcl := HCl.out wS hRS; go_simp; go_at_call 18; refine (CP0.out _).mono ?_; rintro e wc' ⟨rfl, hbc⟩; exact hK.out _ hbc)
                try simp only [Act.put, List.getElem_toArray, List.getElem_cons_succ, List.getElem_cons_zero, List.setIfInBounds_toArray, List.set_cons_zero, List.set_cons_succ]
                refine Script.load (i := 4) (v := ?_) rfl (by kernel_rfl) (by kernel_rfl) (fun _ _ _ h => h) (by kernel_rfl) ?_ ?_
                rotate_left
                · (intro wS hSw; have hRS := HS3.out.later (After.trans (After.drew (After.refl _)) hSw); obtain ⟨c0, c1, c2, -, -, -⟩ := row_facts hRS.board; have hcl := HCl.out wS hRS; go_simp; try with_reducible rfl)
                try simp only [Act.put, List.getElem_toArray, List.getElem_cons_succ, List.getElem_cons_zero, List.setIfInBounds_toArray, List.set_cons_zero, List.set_cons_succ]
                refine Script.load (i := 5) (v := ?_) rfl (by kernel_rfl) (by kernel_rfl) (fun _ _ _ h => h) (by kernel_rfl) ?_ ?_
                rotate_left
                · (intro wS hSw; have hRS := HS3.out.later (After.trans (After.drew (After.refl _)) hSw); obtain ⟨c0, c1, c2, -, -, -⟩ := row_facts hRS.board; have hcl := HCl.out wS hRS; go_simp; try with_reducible rfl)
                try simp only [Act.put, List.getElem_toArray, List.getElem_cons_succ, List.getElem_cons_zero, List.setIfInBounds_toArray, List.set_cons_zero, List.set_cons_succ]
                refine Script.load (i := 6) (v := ?_) rfl (by kernel_rfl) (by kernel_rfl) (fun _ _ _ h => h) (by kernel_rfl) ?_ ?_
                rotate_left
                · (intro wS hSw; have hRS := HS3.out.later (After.trans (After.drew (After.refl _)) hSw); obtain ⟨c0, c1, c2, -, -, -⟩ := row_facts hRS.board; have hcl := HCl.out wS hRS; go_simp; try with_reducible rfl)
                try simp only [Act.put, List.getElem_toArray, List.getElem_cons_succ, List.getElem_cons_zero, List.setIfInBounds_toArray, List.set_cons_zero, List.set_cons_succ]
                refine Script.load (i := 7) (v := ?_) rfl (by kernel_rfl) (by kernel_rfl) (fun _ _ _ h => h) (by kernel_rfl) ?_ ?_
                rotate_left
                · (intro wS hSw; have hRS := HS3.out.later (After.trans (After.drew (After.refl _)) hSw); obtain ⟨c0, c1, c2, -, -, -⟩ := row_facts hRS.board; have hcl := HCl.out wS hRS; go_simp; try with_reducible rfl)
                try simp only [Act.put, List.getElem_toArray, List.getElem_cons_succ, List.getElem_cons_zero, List.setIfInBounds_toArray, List.set_cons_zero, List.set_cons_succ]
                refine Script.load (i := 8) (v := ?_) rfl (by kernel_rfl) (by kernel_rfl) (fun _ _ _ h => h) (by kernel_rfl) ?_ ?_
                rotate_left
                · (intro wS hSw; have hRS := HS3.out.later (After.trans (After.drew (After.refl _)) hSw); obtain ⟨c0, c1, c2, -, -, -⟩ := row_facts hRS.board; have hcl := HCl.out wS hRS; go_simp; try with_reducible rfl)
                try simp only [Act.put, List.getElem_toArray, List.getElem_cons_succ, List.getElem_cons_zero, List.setIfInBounds_toArray, List.set_cons_zero, List.set_cons_succ]
                refine Script.call (i := 9) (v := ?_) rfl (by kernel_rfl) (by kernel_rfl) (fun _ _ _ h => h) (by kernel_rfl) ?_ ?_
                rotate_left
                · (intro wS hSw K hK; have hRS := HS3.out.later (After.trans (After.drew (After.refl _)) hSw); obtain ⟨c0, c1, c2, -, -, -⟩ := row_facts hRS.board; have hcl := HCl.out wS hRS; go_simp; go_at_call 18; refine (CP0.out _).mono ?_; rintro e wc' ⟨rfl, hbc⟩; exact hK.out _ hbc)
                try simp only [Act.put, List.getElem_toArray, List.getElem_cons_succ, List.getElem_cons_zero, List.setIfInBounds_toArray, List.set_cons_zero, List.set_cons_succ]
                refine Script.load (i := 10) (v := ?_) rfl (by kernel_rfl) (by kernel_rfl) (fun _ _ _ h => h) (by kernel_rfl) ?_ ?_
                rotate_left
                · (intro wS hSw; have hRS := HS3.out.later (After.trans (After.drew (After.refl _)) hSw); obtain ⟨c0, c1, c2, -, -, -⟩ := row_facts hRS.board; have hcl := HCl.out wS hRS; go_simp; try with_reducible rfl)
                try simp only [Act.put, List.getElem_toArray, List.getElem_cons_succ, List.getElem_cons_zero, List.setIfInBounds_toArray, List.set_cons_zero, List.set_cons_succ]
                refine Script.load (i := 11) (v := ?_) rfl (by kernel_rfl) (by kernel_rfl) (fun _ _ _ h => h) (by kernel_rfl) ?_ ?_
                rotate_left
                · (intro wS hSw; have hRS := HS3.out.later (After.trans (After.drew (After.refl _)) hSw); obtain ⟨c0, c1, c2, -, -, -⟩ := row_facts hRS.board; have hcl := HCl.out wS hRS; go_simp; try with_reducible rfl)
                try simp only [Act.put, List.getElem_toArray, List.getElem_cons_succ, List.getElem_cons_zero, List.setIfInBounds_toArray, List.set_cons_zero, List.set_cons_succ]
                refine Script.load (i := 12) (v := ?_) rfl (by kernel_rfl) (by kernel_rfl) (fun _ _ _ h => h) (by kernel_rfl) ?_ ?_
                rotate_left
                · (intro wS hSw; have hRS := HS3.out.later (After.trans (After.drew (After.refl _)) hSw); obtain ⟨c0, c1, c2, -, -, -⟩ := row_facts hRS.board; have hcl := HCl.out wS hRS; go_simp; try with_reducible rfl)
                try simp only [Act.put, List.getElem_toArray, List.getElem_cons_succ, List.getElem_cons_zero, List.setIfInBounds_toArray, List.set_cons_zero, List.set_cons_succ]
                refine Script.load (i := 13) (v := ?_) rfl (by kernel_rfl) (by kernel_rfl) (fun _ _ _ h => h) (by kernel_rfl) ?_ ?_
                rotate_left
                · (intro wS hSw; have hRS := HS3.out.later (After.trans (After.drew (After.refl _)) hSw); obtain ⟨c0, c1, c2, -, -, -⟩ := row_facts hRS.board; have hcl := HCl.out wS hRS; go_simp; try with_reducible rfl)
                try simp only [Act.put, List.getElem_toArray, List.getElem_cons_succ, List.getElem_cons_zero, List.setIfInBounds_toArray, List.set_cons_zero, List.set_cons_succ]
                refine Script.load (i := 14) (v := ?_) rfl (by kernel_rfl) (by kernel_rfl) (fun _ _ _ h => h) (by kernel_rfl) ?_ ?_
                rotate_left
                · (intro wS hSw; have hRS := HS3.out.later (After.trans (After.drew (After.refl _)) hSw); obtain ⟨c0, c1, c2, -, -, -⟩ := row_facts hRS.board; have hcl := HCl.out wS hRS; go_simp; try with_reducible rfl)
                try simp only [Act.put, List.getElem_toArray, List.getElem_cons_succ, List.getElem_cons_zero, List.setIfInBounds_toArray, List.set_cons_zero, List.set_cons_succ]
                refine Script.load (i := 15) (v := ?_) rfl (by kernel_rfl) (by kernel_rfl) (fun _ _ _ h => h) (by kernel_rfl) ?_ ?_
                rotate_left
                · (intro wS hSw; have hRS := HS3.out.later (After.trans (After.drew (After.refl _)) hSw); obtain ⟨c0, c1, c2, -, -, -⟩ := row_facts hRS.board; have hcl := HCl.out wS hRS; go_simp; try with_reducible rfl)
                try simp only [Act.put, List.getElem_toArray, List.getElem_cons_succ, List.getElem_cons_zero, List.setIfInBounds_toArray, List.set_cons_zero, List.set_cons_succ]
                refine Script.load (i := 16) (v := ?_) rfl (by kernel_rfl) (by kernel_rfl) (fun _ _ _ h => h) (by kernel_rfl) ?_ ?_
                rotate_left
                · (intro wS hSw; have hRS := HS3.out.later (After.trans (After.drew (After.refl _)) hSw); obtain ⟨c0, c1, c2, -, -, -⟩ := row_facts hRS.board; have hcl := HCl.out wS hRS; go_simp; try with_reducible rfl)
                try simp only [Act.put, List.getElem_toArray, List.getElem_cons_succ, List.getElem_cons_zero, List.setIfInBounds_toArray, List.set_cons_zero, List.set_cons_succ]
                refine Script.load (i := 17) (v := ?_) rfl (by kernel_rfl) (by kernel_rfl) (fun _ _ _ h => h) (by kernel_rfl) ?_ ?_
                rotate_left
                · (intro wS hSw; have hRS := HS3.out.later (After.trans (After.drew (After.refl _)) hSw); obtain ⟨c0, c1, c2, -, -, -⟩ := row_facts hRS.board; have hcl := HCl.out wS hRS; go_simp; try with_reducible rfl)
                try simp only [Act.put, List.getElem_toArray, List.getElem_cons_succ, List.getElem_cons_zero, List.setIfInBounds_toArray, List.set_cons_zero, List.set_cons_succ]
                refine Script.load (i := 18) (v := ?_) rfl (by kernel_rfl) (by kernel_rfl) (fun _ _ _ h => h) (by kernel_rfl) ?_ ?_
                rotate_left
                · (intro wS hSw; have hRS := HS3.out.later (After.trans (After.drew (After.refl _)) hSw); obtain ⟨c0, c1, c2, -, -, -⟩ := row_facts hRS.board; have hcl := HCl.out wS hRS; go_simp; try with_reducible rfl)
                try simp only [Act.put, List.getElem_toArray, List.getElem_cons_succ, List.getElem_cons_zero, List.setIfInBounds_toArray, List.set_cons_zero, List.set_cons_succ]
                refine Script.load (i := 19) (v := ?_) rfl (by kernel_rfl) (by kernel_rfl) (fun _ _ _ h => h) (by kernel_rfl) ?_ ?_
                rotate_left
                · (intro wS hSw; have hRS := HS3.out.later (After.trans (After.drew (After.refl _)) hSw); obtain ⟨c0, c1, c2, -, -, -⟩ := row_facts hRS.board; have hcl := HCl.out wS hRS; go_simp; try with_reducible rfl)
                try simp only [Act.put, List.getElem_toArray, List.getElem_cons_succ, List.getElem_cons_zero, List.setIfInBounds_toArray, List.set_cons_zero, List.set_cons_succ]
                refine Script.load (i := 20) (v := ?_) rfl (by kernel_rfl) (by kernel_rfl) (fun _ _ _ h => h) (by kernel_rfl) ?_ ?_
                rotate_left
                · (intro wS hSw; have hRS := HS3.out.later (After.trans (After.drew (After.refl _)) hSw); obtain ⟨c0, c1, c2, -, -, -⟩ := row_facts hRS.board; have hcl := HCl.out wS hRS; go_simp; try with_reducible rfl)
                try simp only [Act.put, List.getElem_toArray, List.getElem_cons_succ, List.getElem_cons_zero, List.setIfInBounds_toArray, List.set_cons_zero, List.set_cons_succ]
                refine Script.load (i := 21) (v := ?_) rfl (by kernel_rfl) (by kernel_rfl) (fun _ _ _ h => h) (by kernel_rfl) ?_ ?_
                rotate_left
                · (intro wS hSw; have hRS := HS3.out.later (After.trans (After.drew (After.refl _)) hSw); obtain ⟨c0, c1, c2, -, -, -⟩ := row_facts hRS.board; have hcl := HCl.out wS hRS; go_simp; try with_reducible rfl)
                try simp only [Act.put, List.getElem_toArray, List.getElem_cons_succ, List.getElem_cons_zero, List.setIfInBounds_toArray, List.set_cons_zero, List.set_cons_succ]
                refine Script.load (i := 22) (v := ?_) rfl (by kernel_rfl) (by kernel_rfl) (fun _ _ _ h => h) (by kernel_rfl) ?_ ?_
                rotate_left
                · (intro wS hSw; have hRS := HS3.out.later (After.trans (After.drew (After.refl _)) hSw); obtain ⟨c0, c1, c2, -, -, -⟩ := row_facts hRS.board; have hcl := HCl.out wS hRS; go_simp; try with_reducible rfl)
                try simp only [Act.put, List.getElem_toArray, List.getElem_cons_succ, List.getElem_cons_zero, List.setIfInBounds_toArray, List.set_cons_zero, List.set_cons_succ]
                refine Script.load (i := 23) (v := ?_) rfl (by kernel_rfl) (by kernel_rfl) (fun _ _ _ h => h) (by kernel_rfl) ?_ ?_
                rotate_left
                · (intro wS hSw; have hRS := HS3.out.later (After.trans (After.drew (After.refl _)) hSw); obtain ⟨c0, c1, c2, -, -, -⟩ := row_facts hRS.board; have hcl := HCl.out wS hRS; go_simp; try with_reducible rfl)
                try simp only [Act.put, List.getElem_toArray, List.getElem_cons_succ, List.getElem_cons_zero, List.setIfInBounds_toArray, List.set_cons_zero, List.set_cons_succ]
                refine Script.skip (i := 24) rfl (by kernel_rfl) (by kernel_rfl) (fun _ _ _ h => h) (by kernel_rfl) ?_
                try simp only [Act.put, List.getElem_toArray, List.getElem_cons_succ, List.getElem_cons_zero, List.setIfInBounds_toArray, List.set_cons_zero, List.set_cons_succ]
                refine Script.skip (i := 25) rfl (by kernel_rfl) (by kernel_rfl) (fun _ _ _ h => h) (by kernel_rfl) ?_
                try simp only [Act.put, List.getElem_toArray, List.getElem_cons_succ, List.getElem_cons_zero, List.setIfInBounds_toArray, List.set_cons_zero, List.set_cons_succ]
                refine Script.skip (i := 26) rfl (by kernel_rfl) (by kernel_rfl) (fun _ _ _ h => h) (by kernel_rfl) ?_
                try simp only [Act.put, List.getElem_toArray, List.getElem_cons_succ, List.getElem_cons_zero, List.setIfInBounds_toArray, List.set_cons_zero, List.set_cons_succ]
                refine Script.skip (i := 27) rfl (by kernel_rfl) (by kernel_rfl) (fun _ _ _ h => h) (by kernel_rfl) ?_
                try simp only [Act.put, List.getElem_toArray, List.getElem_cons_succ, List.getElem_cons_zero, List.setIfInBounds_toArray, List.set_cons_zero, List.set_cons_succ]
                refine Script.skip (i := 28) rfl (by kernel_rfl) (by kernel_rfl) (fun _ _ _ h => h) (by kernel_rfl) ?_
                try simp only [Act.put, List.getElem_toArray, List.getElem_cons_succ, List.getElem_cons_zero, List.setIfInBounds_toArray, List.set_cons_zero, List.set_cons_succ]
                refine Script.skip (i := 29) rfl (by kernel_rfl) (by kernel_rfl) (fun _ _ _ h => h) (by kernel_rfl) ?_
                try simp only [Act.put, List.getElem_toArray, List.getElem_cons_succ, List.getElem_cons_zero, List.setIfInBounds_toArray, List.set_cons_zero, List.set_cons_succ]
                refine Script.skip (i := 30) rfl (by kernel_rfl) (by kernel_rfl) (fun _ _ _ h => h) (by kernel_rfl) ?_
                try simp only [Act.put, List.getElem_toArray, List.getElem_cons_succ, List.getElem_cons_zero, List.setIfInBounds_toArray, List.set_cons_zero, List.set_cons_succ]
                refine Script.skip (i := 31) rfl (by kernel_rfl) (by kernel_rfl) (fun _ _ _ h => h) (by kernel_rfl) ?_
                try simp only [Act.put, List.getElem_toArray, List.getElem_cons_succ, List.getElem_cons_zero, List.setIfInBounds_toArray, List.set_cons_zero, List.set_cons_succ]
                refine Script.skip (i := 32) rfl (by kernel_rfl) (by kernel_rfl) (fun _ _ _ h => h) (by kernel_rfl) ?_
                try simp only [Act.put, List.getElem_toArray, List.getElem_cons_succ, List.getElem_cons_zero, List.setIfInBounds_toArray, List.set_cons_zero, List.set_cons_succ]
                refine Script.skip (i := 33) rfl (by kernel_rfl) (by kernel_rfl) (fun _ _ _ h => h) (by kernel_rfl) ?_
                try simp only [Act.put, List.getElem_toArray, List.getElem_cons_succ, List.getElem_cons_zero, List.setIfInBounds_toArray, List.set_cons_zero, List.set_cons_succ]
                refine Script.load (i := 34) (v := ?_) rfl (by kernel_rfl) (by kernel_rfl) (fun _ _ _ h => h) (by kernel_rfl) ?_ ?_
                rotate_left
                · (intro wS hSw; have hRS := HS3.out.later (After.trans (After.drew (After.refl _)) hSw); obtain ⟨c0, c1, c2, -, -, -⟩ := row_facts hRS.board; have hcl := HCl.out wS hRS; go_simp; try with_reducible rfl)
                try simp only [Act.put, List.getElem_toArray, List.getElem_cons_succ, List.getElem_cons_zero, List.setIfInBounds_toArray, List.set_cons_zero, List.set_cons_succ]
                refine Script.load (i := 35) (v := ?_) rfl (by kernel_rfl) (by kernel_rfl) (fun _ _ _ h => h) (by kernel_rfl) ?_ ?_
                rotate_left
                · (intro wS hSw; have hRS := HS3.out.later (After.trans (After.drew (After.refl _)) hSw); obtain ⟨c0, c1, c2, -, -, -⟩ := row_facts hRS.board; have hcl := HCl.out wS hRS; go_simp; try with_reducible rfl)
                try simp only [Act.put, List.getElem_toArray, List.getElem_cons_succ, List.getElem_cons_zero, List.setIfInBounds_toArray, List.set_cons_zero, List.set_cons_succ]
                refine Script.done (by kernel_rfl) ?_
                intro wD hD hG
                have HS5 := Lib.hid (HS3.out.later (After.trans (After.drew (After.refl _)) hD))
                clear hD hG
                go_wp2_with fail
                go_meet
                exact ⟨rfl, HS5⟩
            · have hrpb : ((rn : Int) == (pn : Int)) = false := by simp; omega
              clear hrp
              by_cases hk0 : 0 < k
              · have hk0d : decide (0 < k) = true := decide_eq_true hk0
                obtain ⟨k', hk'⟩ : ∃ k', k = k' + 1 := ⟨k - 1, by omega⟩
                have hkm : (k : Int) - 1 = (k' : Int) := by omega
                have hkn' : k' < n := by omega
                have hkw : IntKind.i64.wrap (k' : Int) = (k' : Int) := IntWalk.i64_in _ (by omega)
                have k0' : (0 : Int) ≤ (k' : Int) := by omega
                have k1' : (k' : Int) < (n : Int) := by omega
                obtain ⟨r', hr'⟩ : ∃ r, l[k']? = some r := ⟨_, List.getElem?_eq_getElem (by rw [HN.out]; exact hkn')⟩
                have hlt := HOr.out k' k r' r (by omega) hr' HRk.out
                have hled : decide (r ≤ r') = false := decide_eq_false (by omega)
                have HCm : Hid (∀ w', RSt w q a b z B1 B2 (some ⟨g, 0, none⟩) n vc l fa m fc f w' → w'.cell? ⟨g, k', none⟩ = some (.int .i64 (r' : Int))) := fun w' h => by
                  obtain ⟨g', e, h'⟩ := seq_get h.l hkn' hr'
                  cases e; exact h'
                clear hr' hk'
                go_wp2_with fail
                refine wp_region_script (by kernel_rfl) (by kernel_rfl) ?_
                refine Script.load (i := 0) (v := ?_) rfl (by kernel_rfl) (by kernel_rfl) (fun _ _ _ h => h) (by kernel_rfl) ?_ ?_
                rotate_left
                · (intro wS hSw; have hRS := HS3.out.later (After.trans (After.drew (After.refl _)) hSw); obtain ⟨c0, c1, c2, -, -, -⟩ := row_facts hRS.board; have hcl := HCl.out wS hRS; have hcm := HCm.out wS hRS; go_simp; try with_reducible rfl)
                try simp only [Act.put, List.getElem_toArray, List.getElem_cons_succ, List.getElem_cons_zero, List.setIfInBounds_toArray, List.set_cons_zero, List.set_cons_succ]
                refine Script.load (i := 1) (v := ?_) rfl (by kernel_rfl) (by kernel_rfl) (fun _ _ _ h => h) (by kernel_rfl) ?_ ?_
                rotate_left
                · (intro wS hSw; have hRS := HS3.out.later (After.trans (After.drew (After.refl _)) hSw); obtain ⟨c0, c1, c2, -, -, -⟩ := row_facts hRS.board; have hcl := HCl.out wS hRS; have hcm := HCm.out wS hRS; go_simp; try with_reducible rfl)
                try simp only [Act.put, List.getElem_toArray, List.getElem_cons_succ, List.getElem_cons_zero, List.setIfInBounds_toArray, List.set_cons_zero, List.set_cons_succ]
                refine Script.load (i := 2) (v := ?_) rfl (by kernel_rfl) (by kernel_rfl) (fun _ _ _ h => h) (by kernel_rfl) ?_ ?_
                rotate_left
                · (intro wS hSw; have hRS := HS3.out.later (After.trans (After.drew (After.refl _)) hSw); obtain ⟨c0, c1, c2, -, -, -⟩ := row_facts hRS.board; have hcl := HCl.out wS hRS; have hcm := HCm.out wS hRS; go_simp; try with_reducible rfl)
                try simp only [Act.put, List.getElem_toArray, List.getElem_cons_succ, List.getElem_cons_zero, List.setIfInBounds_toArray, List.set_cons_zero, List.set_cons_succ]
                refine Script.call (i := 3) (v := ?_) rfl (by kernel_rfl) (by kernel_rfl) (fun _ _ _ h => h) (by kernel_rfl) ?_ ?_
                rotate_left
                · (intro wS hSw K hK; have hRS := HS3.out.later (After.trans (After.drew (After.refl _)) hSw); obtain ⟨c0, c1, c2, -, -, -⟩ := row_facts hRS.board; have hcl := HCl.out wS hRS; have hcm := HCm.out wS hRS; go_simp; go_at_call 18; refine (CP0.out _).mono ?_; rintro e wc' ⟨rfl, hbc⟩; exact hK.out _ hbc)
                try simp only [Act.put, List.getElem_toArray, List.getElem_cons_succ, List.getElem_cons_zero, List.setIfInBounds_toArray, List.set_cons_zero, List.set_cons_succ]
                refine Script.load (i := 4) (v := ?_) rfl (by kernel_rfl) (by kernel_rfl) (fun _ _ _ h => h) (by kernel_rfl) ?_ ?_
                rotate_left
                · (intro wS hSw; have hRS := HS3.out.later (After.trans (After.drew (After.refl _)) hSw); obtain ⟨c0, c1, c2, -, -, -⟩ := row_facts hRS.board; have hcl := HCl.out wS hRS; have hcm := HCm.out wS hRS; go_simp; try with_reducible rfl)
                try simp only [Act.put, List.getElem_toArray, List.getElem_cons_succ, List.getElem_cons_zero, List.setIfInBounds_toArray, List.set_cons_zero, List.set_cons_succ]
                refine Script.load (i := 5) (v := ?_) rfl (by kernel_rfl) (by kernel_rfl) (fun _ _ _ h => h) (by kernel_rfl) ?_ ?_
                rotate_left
                · (intro wS hSw; have hRS := HS3.out.later (After.trans (After.drew (After.refl _)) hSw); obtain ⟨c0, c1, c2, -, -, -⟩ := row_facts hRS.board; have hcl := HCl.out wS hRS; have hcm := HCm.out wS hRS; go_simp; try with_reducible rfl)
                try simp only [Act.put, List.getElem_toArray, List.getElem_cons_succ, List.getElem_cons_zero, List.setIfInBounds_toArray, List.set_cons_zero, List.set_cons_succ]
                refine Script.load (i := 6) (v := ?_) rfl (by kernel_rfl) (by kernel_rfl) (fun _ _ _ h => h) (by kernel_rfl) ?_ ?_
                rotate_left
                · (intro wS hSw; have hRS := HS3.out.later (After.trans (After.drew (After.refl _)) hSw); obtain ⟨c0, c1, c2, -, -, -⟩ := row_facts hRS.board; have hcl := HCl.out wS hRS; have hcm := HCm.out wS hRS; go_simp; try with_reducible rfl)
                try simp only [Act.put, List.getElem_toArray, List.getElem_cons_succ, List.getElem_cons_zero, List.setIfInBounds_toArray, List.set_cons_zero, List.set_cons_succ]
                refine Script.load (i := 7) (v := ?_) rfl (by kernel_rfl) (by kernel_rfl) (fun _ _ _ h => h) (by kernel_rfl) ?_ ?_
                rotate_left
                · (intro wS hSw; have hRS := HS3.out.later (After.trans (After.drew (After.refl _)) hSw); obtain ⟨c0, c1, c2, -, -, -⟩ := row_facts hRS.board; have hcl := HCl.out wS hRS; have hcm := HCm.out wS hRS; go_simp; try with_reducible rfl)
                try simp only [Act.put, List.getElem_toArray, List.getElem_cons_succ, List.getElem_cons_zero, List.setIfInBounds_toArray, List.set_cons_zero, List.set_cons_succ]
                refine Script.load (i := 8) (v := ?_) rfl (by kernel_rfl) (by kernel_rfl) (fun _ _ _ h => h) (by kernel_rfl) ?_ ?_
                rotate_left
                · (intro wS hSw; have hRS := HS3.out.later (After.trans (After.drew (After.refl _)) hSw); obtain ⟨c0, c1, c2, -, -, -⟩ := row_facts hRS.board; have hcl := HCl.out wS hRS; have hcm := HCm.out wS hRS; go_simp; try with_reducible rfl)
                try simp only [Act.put, List.getElem_toArray, List.getElem_cons_succ, List.getElem_cons_zero, List.setIfInBounds_toArray, List.set_cons_zero, List.set_cons_succ]
                refine Script.call (i := 9) (v := ?_) rfl (by kernel_rfl) (by kernel_rfl) (fun _ _ _ h => h) (by kernel_rfl) ?_ ?_
                rotate_left
                · (intro wS hSw K hK; have hRS := HS3.out.later (After.trans (After.drew (After.refl _)) hSw); obtain ⟨c0, c1, c2, -, -, -⟩ := row_facts hRS.board; have hcl := HCl.out wS hRS; have hcm := HCm.out wS hRS; go_simp; go_at_call 18; refine (CP0.out _).mono ?_; rintro e wc' ⟨rfl, hbc⟩; exact hK.out _ hbc)
                try simp only [Act.put, List.getElem_toArray, List.getElem_cons_succ, List.getElem_cons_zero, List.setIfInBounds_toArray, List.set_cons_zero, List.set_cons_succ]
                refine Script.load (i := 10) (v := ?_) rfl (by kernel_rfl) (by kernel_rfl) (fun _ _ _ h => h) (by kernel_rfl) ?_ ?_
                rotate_left
                · (intro wS hSw; have hRS := HS3.out.later (After.trans (After.drew (After.refl _)) hSw); obtain ⟨c0, c1, c2, -, -, -⟩ := row_facts hRS.board; have hcl := HCl.out wS hRS; have hcm := HCm.out wS hRS; go_simp; try with_reducible rfl)
                try simp only [Act.put, List.getElem_toArray, List.getElem_cons_succ, List.getElem_cons_zero, List.setIfInBounds_toArray, List.set_cons_zero, List.set_cons_succ]
                refine Script.load (i := 11) (v := ?_) rfl (by kernel_rfl) (by kernel_rfl) (fun _ _ _ h => h) (by kernel_rfl) ?_ ?_
                rotate_left
                · (intro wS hSw; have hRS := HS3.out.later (After.trans (After.drew (After.refl _)) hSw); obtain ⟨c0, c1, c2, -, -, -⟩ := row_facts hRS.board; have hcl := HCl.out wS hRS; have hcm := HCm.out wS hRS; go_simp; try with_reducible rfl)
                try simp only [Act.put, List.getElem_toArray, List.getElem_cons_succ, List.getElem_cons_zero, List.setIfInBounds_toArray, List.set_cons_zero, List.set_cons_succ]
                refine Script.skip (i := 12) rfl (by kernel_rfl) (by kernel_rfl) (fun _ _ _ h => h) (by kernel_rfl) ?_
                try simp only [Act.put, List.getElem_toArray, List.getElem_cons_succ, List.getElem_cons_zero, List.setIfInBounds_toArray, List.set_cons_zero, List.set_cons_succ]
                refine Script.skip (i := 13) rfl (by kernel_rfl) (by kernel_rfl) (fun _ _ _ h => h) (by kernel_rfl) ?_
                try simp only [Act.put, List.getElem_toArray, List.getElem_cons_succ, List.getElem_cons_zero, List.setIfInBounds_toArray, List.set_cons_zero, List.set_cons_succ]
                refine Script.skip (i := 14) rfl (by kernel_rfl) (by kernel_rfl) (fun _ _ _ h => h) (by kernel_rfl) ?_
                try simp only [Act.put, List.getElem_toArray, List.getElem_cons_succ, List.getElem_cons_zero, List.setIfInBounds_toArray, List.set_cons_zero, List.set_cons_succ]
                refine Script.skip (i := 15) rfl (by kernel_rfl) (by kernel_rfl) (fun _ _ _ h => h) (by kernel_rfl) ?_
                try simp only [Act.put, List.getElem_toArray, List.getElem_cons_succ, List.getElem_cons_zero, List.setIfInBounds_toArray, List.set_cons_zero, List.set_cons_succ]
                refine Script.skip (i := 16) rfl (by kernel_rfl) (by kernel_rfl) (fun _ _ _ h => h) (by kernel_rfl) ?_
                try simp only [Act.put, List.getElem_toArray, List.getElem_cons_succ, List.getElem_cons_zero, List.setIfInBounds_toArray, List.set_cons_zero, List.set_cons_succ]
                refine Script.skip (i := 17) rfl (by kernel_rfl) (by kernel_rfl) (fun _ _ _ h => h) (by kernel_rfl) ?_
                try simp only [Act.put, List.getElem_toArray, List.getElem_cons_succ, List.getElem_cons_zero, List.setIfInBounds_toArray, List.set_cons_zero, List.set_cons_succ]
                refine Script.load (i := 18) (v := ?_) rfl (by kernel_rfl) (by kernel_rfl) (fun _ _ _ h => h) (by kernel_rfl) ?_ ?_
                rotate_left
                · (intro wS hSw; have hRS := HS3.out.later (After.trans (After.drew (After.refl _)) hSw); obtain ⟨c0, c1, c2, -, -, -⟩ := row_facts hRS.board; have hcl := HCl.out wS hRS; have hcm := HCm.out wS hRS; go_simp; try with_reducible rfl)
                try simp only [Act.put, List.getElem_toArray, List.getElem_cons_succ, List.getElem_cons_zero, List.setIfInBounds_toArray, List.set_cons_zero, List.set_cons_succ]
                refine Script.load (i := 19) (v := ?_) rfl (by kernel_rfl) (by kernel_rfl) (fun _ _ _ h => h) (by kernel_rfl) ?_ ?_
                rotate_left
                · (intro wS hSw; have hRS := HS3.out.later (After.trans (After.drew (After.refl _)) hSw); obtain ⟨c0, c1, c2, -, -, -⟩ := row_facts hRS.board; have hcl := HCl.out wS hRS; have hcm := HCm.out wS hRS; go_simp; try with_reducible rfl)
                try simp only [Act.put, List.getElem_toArray, List.getElem_cons_succ, List.getElem_cons_zero, List.setIfInBounds_toArray, List.set_cons_zero, List.set_cons_succ]
                refine Script.load (i := 20) (v := ?_) rfl (by kernel_rfl) (by kernel_rfl) (fun _ _ _ h => h) (by kernel_rfl) ?_ ?_
                rotate_left
                · (intro wS hSw; have hRS := HS3.out.later (After.trans (After.drew (After.refl _)) hSw); obtain ⟨c0, c1, c2, -, -, -⟩ := row_facts hRS.board; have hcl := HCl.out wS hRS; have hcm := HCm.out wS hRS; go_simp; try with_reducible rfl)
                try simp only [Act.put, List.getElem_toArray, List.getElem_cons_succ, List.getElem_cons_zero, List.setIfInBounds_toArray, List.set_cons_zero, List.set_cons_succ]
                refine Script.load (i := 21) (v := ?_) rfl (by kernel_rfl) (by kernel_rfl) (fun _ _ _ h => h) (by kernel_rfl) ?_ ?_
                rotate_left
                · (intro wS hSw; have hRS := HS3.out.later (After.trans (After.drew (After.refl _)) hSw); obtain ⟨c0, c1, c2, -, -, -⟩ := row_facts hRS.board; have hcl := HCl.out wS hRS; have hcm := HCm.out wS hRS; go_simp; try with_reducible rfl)
                try simp only [Act.put, List.getElem_toArray, List.getElem_cons_succ, List.getElem_cons_zero, List.setIfInBounds_toArray, List.set_cons_zero, List.set_cons_succ]
                refine Script.load (i := 22) (v := ?_) rfl (by kernel_rfl) (by kernel_rfl) (fun _ _ _ h => h) (by kernel_rfl) ?_ ?_
                rotate_left
                · (intro wS hSw; have hRS := HS3.out.later (After.trans (After.drew (After.refl _)) hSw); obtain ⟨c0, c1, c2, -, -, -⟩ := row_facts hRS.board; have hcl := HCl.out wS hRS; have hcm := HCm.out wS hRS; go_simp; try with_reducible rfl)
                try simp only [Act.put, List.getElem_toArray, List.getElem_cons_succ, List.getElem_cons_zero, List.setIfInBounds_toArray, List.set_cons_zero, List.set_cons_succ]
                refine Script.load (i := 23) (v := ?_) rfl (by kernel_rfl) (by kernel_rfl) (fun _ _ _ h => h) (by kernel_rfl) ?_ ?_
                rotate_left
                · (intro wS hSw; have hRS := HS3.out.later (After.trans (After.drew (After.refl _)) hSw); obtain ⟨c0, c1, c2, -, -, -⟩ := row_facts hRS.board; have hcl := HCl.out wS hRS; have hcm := HCm.out wS hRS; go_simp; try with_reducible rfl)
                try simp only [Act.put, List.getElem_toArray, List.getElem_cons_succ, List.getElem_cons_zero, List.setIfInBounds_toArray, List.set_cons_zero, List.set_cons_succ]
                refine Script.load (i := 24) (v := ?_) rfl (by kernel_rfl) (by kernel_rfl) (fun _ _ _ h => h) (by kernel_rfl) ?_ ?_
                rotate_left
                · (intro wS hSw; have hRS := HS3.out.later (After.trans (After.drew (After.refl _)) hSw); obtain ⟨c0, c1, c2, -, -, -⟩ := row_facts hRS.board; have hcl := HCl.out wS hRS; have hcm := HCm.out wS hRS; go_simp; try with_reducible rfl)
                try simp only [Act.put, List.getElem_toArray, List.getElem_cons_succ, List.getElem_cons_zero, List.setIfInBounds_toArray, List.set_cons_zero, List.set_cons_succ]
                refine Script.load (i := 25) (v := ?_) rfl (by kernel_rfl) (by kernel_rfl) (fun _ _ _ h => h) (by kernel_rfl) ?_ ?_
                rotate_left
                · (intro wS hSw; have hRS := HS3.out.later (After.trans (After.drew (After.refl _)) hSw); obtain ⟨c0, c1, c2, -, -, -⟩ := row_facts hRS.board; have hcl := HCl.out wS hRS; have hcm := HCm.out wS hRS; go_simp; try with_reducible rfl)
                try simp only [Act.put, List.getElem_toArray, List.getElem_cons_succ, List.getElem_cons_zero, List.setIfInBounds_toArray, List.set_cons_zero, List.set_cons_succ]
                refine Script.load (i := 26) (v := ?_) rfl (by kernel_rfl) (by kernel_rfl) (fun _ _ _ h => h) (by kernel_rfl) ?_ ?_
                rotate_left
                · (intro wS hSw; have hRS := HS3.out.later (After.trans (After.drew (After.refl _)) hSw); obtain ⟨c0, c1, c2, -, -, -⟩ := row_facts hRS.board; have hcl := HCl.out wS hRS; have hcm := HCm.out wS hRS; go_simp; try with_reducible rfl)
                try simp only [Act.put, List.getElem_toArray, List.getElem_cons_succ, List.getElem_cons_zero, List.setIfInBounds_toArray, List.set_cons_zero, List.set_cons_succ]
                refine Script.load (i := 27) (v := ?_) rfl (by kernel_rfl) (by kernel_rfl) (fun _ _ _ h => h) (by kernel_rfl) ?_ ?_
                rotate_left
                · (intro wS hSw; have hRS := HS3.out.later (After.trans (After.drew (After.refl _)) hSw); obtain ⟨c0, c1, c2, -, -, -⟩ := row_facts hRS.board; have hcl := HCl.out wS hRS; have hcm := HCm.out wS hRS; go_simp; try with_reducible rfl)
                try simp only [Act.put, List.getElem_toArray, List.getElem_cons_succ, List.getElem_cons_zero, List.setIfInBounds_toArray, List.set_cons_zero, List.set_cons_succ]
                refine Script.load (i := 28) (v := ?_) rfl (by kernel_rfl) (by kernel_rfl) (fun _ _ _ h => h) (by kernel_rfl) ?_ ?_
                rotate_left
                · (intro wS hSw; have hRS := HS3.out.later (After.trans (After.drew (After.refl _)) hSw); obtain ⟨c0, c1, c2, -, -, -⟩ := row_facts hRS.board; have hcl := HCl.out wS hRS; have hcm := HCm.out wS hRS; go_simp; try with_reducible rfl)
                try simp only [Act.put, List.getElem_toArray, List.getElem_cons_succ, List.getElem_cons_zero, List.setIfInBounds_toArray, List.set_cons_zero, List.set_cons_succ]
                refine Script.load (i := 29) (v := ?_) rfl (by kernel_rfl) (by kernel_rfl) (fun _ _ _ h => h) (by kernel_rfl) ?_ ?_
                rotate_left
                · (intro wS hSw; have hRS := HS3.out.later (After.trans (After.drew (After.refl _)) hSw); obtain ⟨c0, c1, c2, -, -, -⟩ := row_facts hRS.board; have hcl := HCl.out wS hRS; have hcm := HCm.out wS hRS; go_simp; try with_reducible rfl)
                try simp only [Act.put, List.getElem_toArray, List.getElem_cons_succ, List.getElem_cons_zero, List.setIfInBounds_toArray, List.set_cons_zero, List.set_cons_succ]
                refine Script.load (i := 30) (v := ?_) rfl (by kernel_rfl) (by kernel_rfl) (fun _ _ _ h => h) (by kernel_rfl) ?_ ?_
                rotate_left
                · (intro wS hSw; have hRS := HS3.out.later (After.trans (After.drew (After.refl _)) hSw); obtain ⟨c0, c1, c2, -, -, -⟩ := row_facts hRS.board; have hcl := HCl.out wS hRS; have hcm := HCm.out wS hRS; go_simp; try with_reducible rfl)
                try simp only [Act.put, List.getElem_toArray, List.getElem_cons_succ, List.getElem_cons_zero, List.setIfInBounds_toArray, List.set_cons_zero, List.set_cons_succ]
                refine Script.load (i := 31) (v := ?_) rfl (by kernel_rfl) (by kernel_rfl) (fun _ _ _ h => h) (by kernel_rfl) ?_ ?_
                rotate_left
                · (intro wS hSw; have hRS := HS3.out.later (After.trans (After.drew (After.refl _)) hSw); obtain ⟨c0, c1, c2, -, -, -⟩ := row_facts hRS.board; have hcl := HCl.out wS hRS; have hcm := HCm.out wS hRS; go_simp; try with_reducible rfl)
                try simp only [Act.put, List.getElem_toArray, List.getElem_cons_succ, List.getElem_cons_zero, List.setIfInBounds_toArray, List.set_cons_zero, List.set_cons_succ]
                refine Script.load (i := 32) (v := ?_) rfl (by kernel_rfl) (by kernel_rfl) (fun _ _ _ h => h) (by kernel_rfl) ?_ ?_
                rotate_left
                · (intro wS hSw; have hRS := HS3.out.later (After.trans (After.drew (After.refl _)) hSw); obtain ⟨c0, c1, c2, -, -, -⟩ := row_facts hRS.board; have hcl := HCl.out wS hRS; have hcm := HCm.out wS hRS; go_simp; try with_reducible rfl)
                try simp only [Act.put, List.getElem_toArray, List.getElem_cons_succ, List.getElem_cons_zero, List.setIfInBounds_toArray, List.set_cons_zero, List.set_cons_succ]
                refine Script.load (i := 33) (v := ?_) rfl (by kernel_rfl) (by kernel_rfl) (fun _ _ _ h => h) (by kernel_rfl) ?_ ?_
                rotate_left
                · (intro wS hSw; have hRS := HS3.out.later (After.trans (After.drew (After.refl _)) hSw); obtain ⟨c0, c1, c2, -, -, -⟩ := row_facts hRS.board; have hcl := HCl.out wS hRS; have hcm := HCm.out wS hRS; go_simp; try with_reducible rfl)
                try simp only [Act.put, List.getElem_toArray, List.getElem_cons_succ, List.getElem_cons_zero, List.setIfInBounds_toArray, List.set_cons_zero, List.set_cons_succ]
                refine Script.load (i := 34) (v := ?_) rfl (by kernel_rfl) (by kernel_rfl) (fun _ _ _ h => h) (by kernel_rfl) ?_ ?_
                rotate_left
                · (intro wS hSw; have hRS := HS3.out.later (After.trans (After.drew (After.refl _)) hSw); obtain ⟨c0, c1, c2, -, -, -⟩ := row_facts hRS.board; have hcl := HCl.out wS hRS; have hcm := HCm.out wS hRS; go_simp; try with_reducible rfl)
                try simp only [Act.put, List.getElem_toArray, List.getElem_cons_succ, List.getElem_cons_zero, List.setIfInBounds_toArray, List.set_cons_zero, List.set_cons_succ]
                refine Script.load (i := 35) (v := ?_) rfl (by kernel_rfl) (by kernel_rfl) (fun _ _ _ h => h) (by kernel_rfl) ?_ ?_
                rotate_left
                · (intro wS hSw; have hRS := HS3.out.later (After.trans (After.drew (After.refl _)) hSw); obtain ⟨c0, c1, c2, -, -, -⟩ := row_facts hRS.board; have hcl := HCl.out wS hRS; have hcm := HCm.out wS hRS; go_simp; try with_reducible rfl)
                try simp only [Act.put, List.getElem_toArray, List.getElem_cons_succ, List.getElem_cons_zero, List.setIfInBounds_toArray, List.set_cons_zero, List.set_cons_succ]
                refine Script.done (by kernel_rfl) ?_
                intro wD hD hG
                have HS5 := Lib.hid (HS3.out.later (After.trans (After.drew (After.refl _)) hD))
                clear hD hG
                go_wp2_with fail
                go_meet
                exact ⟨rfl, HS5⟩
              · have hk0d : decide (0 < k) = false := decide_eq_false hk0
                go_wp2_with fail
                refine wp_region_script (by kernel_rfl) (by kernel_rfl) ?_
                refine Script.load (i := 0) (v := ?_) rfl (by kernel_rfl) (by kernel_rfl) (fun _ _ _ h => h) (by kernel_rfl) ?_ ?_
                rotate_left
                · (intro wS hSw; have hRS := HS3.out.later (After.trans (After.drew (After.refl _)) hSw); obtain ⟨c0, c1, c2, -, -, -⟩ := row_facts hRS.board; have hcl := HCl.out wS hRS; go_simp; try with_reducible rfl)
                try simp only [Act.put, List.getElem_toArray, List.getElem_cons_succ, List.getElem_cons_zero, List.setIfInBounds_toArray, List.set_cons_zero, List.set_cons_succ]
                refine Script.load (i := 1) (v := ?_) rfl (by kernel_rfl) (by kernel_rfl) (fun _ _ _ h => h) (by kernel_rfl) ?_ ?_
                rotate_left
                · (intro wS hSw; have hRS := HS3.out.later (After.trans (After.drew (After.refl _)) hSw); obtain ⟨c0, c1, c2, -, -, -⟩ := row_facts hRS.board; have hcl := HCl.out wS hRS; go_simp; try with_reducible rfl)
                try simp only [Act.put, List.getElem_toArray, List.getElem_cons_succ, List.getElem_cons_zero, List.setIfInBounds_toArray, List.set_cons_zero, List.set_cons_succ]
                refine Script.load (i := 2) (v := ?_) rfl (by kernel_rfl) (by kernel_rfl) (fun _ _ _ h => h) (by kernel_rfl) ?_ ?_
                rotate_left
                · (intro wS hSw; have hRS := HS3.out.later (After.trans (After.drew (After.refl _)) hSw); obtain ⟨c0, c1, c2, -, -, -⟩ := row_facts hRS.board; have hcl := HCl.out wS hRS; go_simp; try with_reducible rfl)
                try simp only [Act.put, List.getElem_toArray, List.getElem_cons_succ, List.getElem_cons_zero, List.setIfInBounds_toArray, List.set_cons_zero, List.set_cons_succ]
                refine Script.call (i := 3) (v := ?_) rfl (by kernel_rfl) (by kernel_rfl) (fun _ _ _ h => h) (by kernel_rfl) ?_ ?_
                rotate_left
                · (intro wS hSw K hK; have hRS := HS3.out.later (After.trans (After.drew (After.refl _)) hSw); obtain ⟨c0, c1, c2, -, -, -⟩ := row_facts hRS.board; have hcl := HCl.out wS hRS; go_simp; go_at_call 18; refine (CP0.out _).mono ?_; rintro e wc' ⟨rfl, hbc⟩; exact hK.out _ hbc)
                try simp only [Act.put, List.getElem_toArray, List.getElem_cons_succ, List.getElem_cons_zero, List.setIfInBounds_toArray, List.set_cons_zero, List.set_cons_succ]
                refine Script.load (i := 4) (v := ?_) rfl (by kernel_rfl) (by kernel_rfl) (fun _ _ _ h => h) (by kernel_rfl) ?_ ?_
                rotate_left
                · (intro wS hSw; have hRS := HS3.out.later (After.trans (After.drew (After.refl _)) hSw); obtain ⟨c0, c1, c2, -, -, -⟩ := row_facts hRS.board; have hcl := HCl.out wS hRS; go_simp; try with_reducible rfl)
                try simp only [Act.put, List.getElem_toArray, List.getElem_cons_succ, List.getElem_cons_zero, List.setIfInBounds_toArray, List.set_cons_zero, List.set_cons_succ]
                refine Script.load (i := 5) (v := ?_) rfl (by kernel_rfl) (by kernel_rfl) (fun _ _ _ h => h) (by kernel_rfl) ?_ ?_
                rotate_left
                · (intro wS hSw; have hRS := HS3.out.later (After.trans (After.drew (After.refl _)) hSw); obtain ⟨c0, c1, c2, -, -, -⟩ := row_facts hRS.board; have hcl := HCl.out wS hRS; go_simp; try with_reducible rfl)
                try simp only [Act.put, List.getElem_toArray, List.getElem_cons_succ, List.getElem_cons_zero, List.setIfInBounds_toArray, List.set_cons_zero, List.set_cons_succ]
                refine Script.load (i := 6) (v := ?_) rfl (by kernel_rfl) (by kernel_rfl) (fun _ _ _ h => h) (by kernel_rfl) ?_ ?_
                rotate_left
                · (intro wS hSw; have hRS := HS3.out.later (After.trans (After.drew (After.refl _)) hSw); obtain ⟨c0, c1, c2, -, -, -⟩ := row_facts hRS.board; have hcl := HCl.out wS hRS; go_simp; try with_reducible rfl)
                try simp only [Act.put, List.getElem_toArray, List.getElem_cons_succ, List.getElem_cons_zero, List.setIfInBounds_toArray, List.set_cons_zero, List.set_cons_succ]
                refine Script.load (i := 7) (v := ?_) rfl (by kernel_rfl) (by kernel_rfl) (fun _ _ _ h => h) (by kernel_rfl) ?_ ?_
                rotate_left
                · (intro wS hSw; have hRS := HS3.out.later (After.trans (After.drew (After.refl _)) hSw); obtain ⟨c0, c1, c2, -, -, -⟩ := row_facts hRS.board; have hcl := HCl.out wS hRS; go_simp; try with_reducible rfl)
                try simp only [Act.put, List.getElem_toArray, List.getElem_cons_succ, List.getElem_cons_zero, List.setIfInBounds_toArray, List.set_cons_zero, List.set_cons_succ]
                refine Script.load (i := 8) (v := ?_) rfl (by kernel_rfl) (by kernel_rfl) (fun _ _ _ h => h) (by kernel_rfl) ?_ ?_
                rotate_left
                · (intro wS hSw; have hRS := HS3.out.later (After.trans (After.drew (After.refl _)) hSw); obtain ⟨c0, c1, c2, -, -, -⟩ := row_facts hRS.board; have hcl := HCl.out wS hRS; go_simp; try with_reducible rfl)
                try simp only [Act.put, List.getElem_toArray, List.getElem_cons_succ, List.getElem_cons_zero, List.setIfInBounds_toArray, List.set_cons_zero, List.set_cons_succ]
                refine Script.call (i := 9) (v := ?_) rfl (by kernel_rfl) (by kernel_rfl) (fun _ _ _ h => h) (by kernel_rfl) ?_ ?_
                rotate_left
                · (intro wS hSw K hK; have hRS := HS3.out.later (After.trans (After.drew (After.refl _)) hSw); obtain ⟨c0, c1, c2, -, -, -⟩ := row_facts hRS.board; have hcl := HCl.out wS hRS; go_simp; go_at_call 18; refine (CP0.out _).mono ?_; rintro e wc' ⟨rfl, hbc⟩; exact hK.out _ hbc)
                try simp only [Act.put, List.getElem_toArray, List.getElem_cons_succ, List.getElem_cons_zero, List.setIfInBounds_toArray, List.set_cons_zero, List.set_cons_succ]
                refine Script.load (i := 10) (v := ?_) rfl (by kernel_rfl) (by kernel_rfl) (fun _ _ _ h => h) (by kernel_rfl) ?_ ?_
                rotate_left
                · (intro wS hSw; have hRS := HS3.out.later (After.trans (After.drew (After.refl _)) hSw); obtain ⟨c0, c1, c2, -, -, -⟩ := row_facts hRS.board; have hcl := HCl.out wS hRS; go_simp; try with_reducible rfl)
                try simp only [Act.put, List.getElem_toArray, List.getElem_cons_succ, List.getElem_cons_zero, List.setIfInBounds_toArray, List.set_cons_zero, List.set_cons_succ]
                refine Script.load (i := 11) (v := ?_) rfl (by kernel_rfl) (by kernel_rfl) (fun _ _ _ h => h) (by kernel_rfl) ?_ ?_
                rotate_left
                · (intro wS hSw; have hRS := HS3.out.later (After.trans (After.drew (After.refl _)) hSw); obtain ⟨c0, c1, c2, -, -, -⟩ := row_facts hRS.board; have hcl := HCl.out wS hRS; go_simp; try with_reducible rfl)
                try simp only [Act.put, List.getElem_toArray, List.getElem_cons_succ, List.getElem_cons_zero, List.setIfInBounds_toArray, List.set_cons_zero, List.set_cons_succ]
                refine Script.skip (i := 12) rfl (by kernel_rfl) (by kernel_rfl) (fun _ _ _ h => h) (by kernel_rfl) ?_
                try simp only [Act.put, List.getElem_toArray, List.getElem_cons_succ, List.getElem_cons_zero, List.setIfInBounds_toArray, List.set_cons_zero, List.set_cons_succ]
                refine Script.skip (i := 13) rfl (by kernel_rfl) (by kernel_rfl) (fun _ _ _ h => h) (by kernel_rfl) ?_
                try simp only [Act.put, List.getElem_toArray, List.getElem_cons_succ, List.getElem_cons_zero, List.setIfInBounds_toArray, List.set_cons_zero, List.set_cons_succ]
                refine Script.skip (i := 14) rfl (by kernel_rfl) (by kernel_rfl) (fun _ _ _ h => h) (by kernel_rfl) ?_
                try simp only [Act.put, List.getElem_toArray, List.getElem_cons_succ, List.getElem_cons_zero, List.setIfInBounds_toArray, List.set_cons_zero, List.set_cons_succ]
                refine Script.skip (i := 15) rfl (by kernel_rfl) (by kernel_rfl) (fun _ _ _ h => h) (by kernel_rfl) ?_
                try simp only [Act.put, List.getElem_toArray, List.getElem_cons_succ, List.getElem_cons_zero, List.setIfInBounds_toArray, List.set_cons_zero, List.set_cons_succ]
                refine Script.skip (i := 16) rfl (by kernel_rfl) (by kernel_rfl) (fun _ _ _ h => h) (by kernel_rfl) ?_
                try simp only [Act.put, List.getElem_toArray, List.getElem_cons_succ, List.getElem_cons_zero, List.setIfInBounds_toArray, List.set_cons_zero, List.set_cons_succ]
                refine Script.skip (i := 17) rfl (by kernel_rfl) (by kernel_rfl) (fun _ _ _ h => h) (by kernel_rfl) ?_
                try simp only [Act.put, List.getElem_toArray, List.getElem_cons_succ, List.getElem_cons_zero, List.setIfInBounds_toArray, List.set_cons_zero, List.set_cons_succ]
                refine Script.load (i := 18) (v := ?_) rfl (by kernel_rfl) (by kernel_rfl) (fun _ _ _ h => h) (by kernel_rfl) ?_ ?_
                rotate_left
                · (intro wS hSw; have hRS := HS3.out.later (After.trans (After.drew (After.refl _)) hSw); obtain ⟨c0, c1, c2, -, -, -⟩ := row_facts hRS.board; have hcl := HCl.out wS hRS; go_simp; try with_reducible rfl)
                try simp only [Act.put, List.getElem_toArray, List.getElem_cons_succ, List.getElem_cons_zero, List.setIfInBounds_toArray, List.set_cons_zero, List.set_cons_succ]
                refine Script.load (i := 19) (v := ?_) rfl (by kernel_rfl) (by kernel_rfl) (fun _ _ _ h => h) (by kernel_rfl) ?_ ?_
                rotate_left
                · (intro wS hSw; have hRS := HS3.out.later (After.trans (After.drew (After.refl _)) hSw); obtain ⟨c0, c1, c2, -, -, -⟩ := row_facts hRS.board; have hcl := HCl.out wS hRS; go_simp; try with_reducible rfl)
                try simp only [Act.put, List.getElem_toArray, List.getElem_cons_succ, List.getElem_cons_zero, List.setIfInBounds_toArray, List.set_cons_zero, List.set_cons_succ]
                refine Script.load (i := 20) (v := ?_) rfl (by kernel_rfl) (by kernel_rfl) (fun _ _ _ h => h) (by kernel_rfl) ?_ ?_
                rotate_left
                · (intro wS hSw; have hRS := HS3.out.later (After.trans (After.drew (After.refl _)) hSw); obtain ⟨c0, c1, c2, -, -, -⟩ := row_facts hRS.board; have hcl := HCl.out wS hRS; go_simp; try with_reducible rfl)
                try simp only [Act.put, List.getElem_toArray, List.getElem_cons_succ, List.getElem_cons_zero, List.setIfInBounds_toArray, List.set_cons_zero, List.set_cons_succ]
                refine Script.load (i := 21) (v := ?_) rfl (by kernel_rfl) (by kernel_rfl) (fun _ _ _ h => h) (by kernel_rfl) ?_ ?_
                rotate_left
                · (intro wS hSw; have hRS := HS3.out.later (After.trans (After.drew (After.refl _)) hSw); obtain ⟨c0, c1, c2, -, -, -⟩ := row_facts hRS.board; have hcl := HCl.out wS hRS; go_simp; try with_reducible rfl)
                try simp only [Act.put, List.getElem_toArray, List.getElem_cons_succ, List.getElem_cons_zero, List.setIfInBounds_toArray, List.set_cons_zero, List.set_cons_succ]
                refine Script.load (i := 22) (v := ?_) rfl (by kernel_rfl) (by kernel_rfl) (fun _ _ _ h => h) (by kernel_rfl) ?_ ?_
                rotate_left
                · (intro wS hSw; have hRS := HS3.out.later (After.trans (After.drew (After.refl _)) hSw); obtain ⟨c0, c1, c2, -, -, -⟩ := row_facts hRS.board; have hcl := HCl.out wS hRS; go_simp; try with_reducible rfl)
                try simp only [Act.put, List.getElem_toArray, List.getElem_cons_succ, List.getElem_cons_zero, List.setIfInBounds_toArray, List.set_cons_zero, List.set_cons_succ]
                refine Script.load (i := 23) (v := ?_) rfl (by kernel_rfl) (by kernel_rfl) (fun _ _ _ h => h) (by kernel_rfl) ?_ ?_
                rotate_left
                · (intro wS hSw; have hRS := HS3.out.later (After.trans (After.drew (After.refl _)) hSw); obtain ⟨c0, c1, c2, -, -, -⟩ := row_facts hRS.board; have hcl := HCl.out wS hRS; go_simp; try with_reducible rfl)
                try simp only [Act.put, List.getElem_toArray, List.getElem_cons_succ, List.getElem_cons_zero, List.setIfInBounds_toArray, List.set_cons_zero, List.set_cons_succ]
                refine Script.skip (i := 24) rfl (by kernel_rfl) (by kernel_rfl) (fun _ _ _ h => h) (by kernel_rfl) ?_
                try simp only [Act.put, List.getElem_toArray, List.getElem_cons_succ, List.getElem_cons_zero, List.setIfInBounds_toArray, List.set_cons_zero, List.set_cons_succ]
                refine Script.skip (i := 25) rfl (by kernel_rfl) (by kernel_rfl) (fun _ _ _ h => h) (by kernel_rfl) ?_
                try simp only [Act.put, List.getElem_toArray, List.getElem_cons_succ, List.getElem_cons_zero, List.setIfInBounds_toArray, List.set_cons_zero, List.set_cons_succ]
                refine Script.skip (i := 26) rfl (by kernel_rfl) (by kernel_rfl) (fun _ _ _ h => h) (by kernel_rfl) ?_
                try simp only [Act.put, List.getElem_toArray, List.getElem_cons_succ, List.getElem_cons_zero, List.setIfInBounds_toArray, List.set_cons_zero, List.set_cons_succ]
                refine Script.skip (i := 27) rfl (by kernel_rfl) (by kernel_rfl) (fun _ _ _ h => h) (by kernel_rfl) ?_
                try simp only [Act.put, List.getElem_toArray, List.getElem_cons_succ, List.getElem_cons_zero, List.setIfInBounds_toArray, List.set_cons_zero, List.set_cons_succ]
                refine Script.skip (i := 28) rfl (by kernel_rfl) (by kernel_rfl) (fun _ _ _ h => h) (by kernel_rfl) ?_
                try simp only [Act.put, List.getElem_toArray, List.getElem_cons_succ, List.getElem_cons_zero, List.setIfInBounds_toArray, List.set_cons_zero, List.set_cons_succ]
                refine Script.skip (i := 29) rfl (by kernel_rfl) (by kernel_rfl) (fun _ _ _ h => h) (by kernel_rfl) ?_
                try simp only [Act.put, List.getElem_toArray, List.getElem_cons_succ, List.getElem_cons_zero, List.setIfInBounds_toArray, List.set_cons_zero, List.set_cons_succ]
                refine Script.skip (i := 30) rfl (by kernel_rfl) (by kernel_rfl) (fun _ _ _ h => h) (by kernel_rfl) ?_
                try simp only [Act.put, List.getElem_toArray, List.getElem_cons_succ, List.getElem_cons_zero, List.setIfInBounds_toArray, List.set_cons_zero, List.set_cons_succ]
                refine Script.skip (i := 31) rfl (by kernel_rfl) (by kernel_rfl) (fun _ _ _ h => h) (by kernel_rfl) ?_
                try simp only [Act.put, List.getElem_toArray, List.getElem_cons_succ, List.getElem_cons_zero, List.setIfInBounds_toArray, List.set_cons_zero, List.set_cons_succ]
                refine Script.skip (i := 32) rfl (by kernel_rfl) (by kernel_rfl) (fun _ _ _ h => h) (by kernel_rfl) ?_
                try simp only [Act.put, List.getElem_toArray, List.getElem_cons_succ, List.getElem_cons_zero, List.setIfInBounds_toArray, List.set_cons_zero, List.set_cons_succ]
                refine Script.skip (i := 33) rfl (by kernel_rfl) (by kernel_rfl) (fun _ _ _ h => h) (by kernel_rfl) ?_
                try simp only [Act.put, List.getElem_toArray, List.getElem_cons_succ, List.getElem_cons_zero, List.setIfInBounds_toArray, List.set_cons_zero, List.set_cons_succ]
                refine Script.load (i := 34) (v := ?_) rfl (by kernel_rfl) (by kernel_rfl) (fun _ _ _ h => h) (by kernel_rfl) ?_ ?_
                rotate_left
                · (intro wS hSw; have hRS := HS3.out.later (After.trans (After.drew (After.refl _)) hSw); obtain ⟨c0, c1, c2, -, -, -⟩ := row_facts hRS.board; have hcl := HCl.out wS hRS; go_simp; try with_reducible rfl)
                try simp only [Act.put, List.getElem_toArray, List.getElem_cons_succ, List.getElem_cons_zero, List.setIfInBounds_toArray, List.set_cons_zero, List.set_cons_succ]
                refine Script.load (i := 35) (v := ?_) rfl (by kernel_rfl) (by kernel_rfl) (fun _ _ _ h => h) (by kernel_rfl) ?_ ?_
                rotate_left
                · (intro wS hSw; have hRS := HS3.out.later (After.trans (After.drew (After.refl _)) hSw); obtain ⟨c0, c1, c2, -, -, -⟩ := row_facts hRS.board; have hcl := HCl.out wS hRS; go_simp; try with_reducible rfl)
                try simp only [Act.put, List.getElem_toArray, List.getElem_cons_succ, List.getElem_cons_zero, List.setIfInBounds_toArray, List.set_cons_zero, List.set_cons_succ]
                refine Script.done (by kernel_rfl) ?_
                intro wD hD hG
                have HS5 := Lib.hid (HS3.out.later (After.trans (After.drew (After.refl _)) hD))
                clear hD hG
                go_wp2_with fail
                go_meet
                exact ⟨rfl, HS5⟩
          case rest =>
            clear HS3
            obtain ⟨rfl, HS4⟩ := hcut
            go_wp2_with fail
            go_roundw
            case rel => exact ⟨k + 1, y2, by omega, by go_num, rfl, hy2b.1, hy2b.2, HY2, HS4⟩
            case measure => simp [intOf]; omega
      · obtain rfl : k = n := by omega
        have hfull : Hid (l.take k = l) := List.take_of_length_le (by rw [HN.out]; exact Nat.le_refl _)
        rw [hfull.out, ← HFew.out] at HY
        clear HPg HFew CP0
        go_wp2_with fail
        refine (byteAt0 _ (HCO.out.below HS.out.below)).mono ?_
        rintro e w9 ⟨d, hd, rfl, rfl⟩
        obtain ⟨y, hy⟩ : ∃ y, d * k = y := ⟨_, rfl⟩
        obtain ⟨i, hi⟩ : ∃ i, y / 256 = i := ⟨_, rfl⟩
        have hyk : y < 256 * k := by rw [← hy]; exact Nat.mul_lt_mul_of_pos_right (show d < 256 by omega) (by omega)
        have hin : i < k := by omega
        have hyi : (d : Int) * (k : Int) = (y : Int) := by rw [← hy]; simp
        have hii : (y : Int) / 256 = (i : Int) := by omega
        have i0 : (0 : Int) ≤ (i : Int) := by omega
        have i1 : (i : Int) < (k : Int) := by omega
        obtain ⟨r, hr⟩ : ∃ r, l[i]? = some r := ⟨_, List.getElem?_eq_getElem (by rw [HN.out]; exact hin)⟩
        have hrl := List.mem_of_getElem? hr
        have hr65 := HLt.out r hrl
        obtain ⟨g, rfl, hcl⟩ := seq_get HS.out.l hin hr
        have CJ := Lib.hid (fun w => specJumps (a : Int) b z (r : Int) (by omega) w)
        have CD := Lib.hid (fun f o t w => specDo (a : Int) b z (r : Int) f o t (by omega) w)
        have HJr := Lib.hid (HJm.out r hrl)
        obtain ⟨js, hjs⟩ : ∃ js, jumpsL (a : Int) b z (r : Int) = js := ⟨_, rfl⟩
        have HJs : Hid (∀ x ∈ js, jumpB (a : Int) b z (r : Int) x = true) := fun x hx => by
          rw [← hjs] at hx
          unfold jumpsL at hx
          split at hx
          · next hp =>
            obtain ⟨h1, h2⟩ := List.mem_filter.1 hx
            simp only [jumpB, hp, h2, Bool.true_and, Bool.and_true]
            exact List.contains_iff_mem.2 h1
          · cases hx
        have hjl : js.length ≤ 196 := by rw [← hjs]; exact jumpsL_le _ _ _ _
        rw [hjs] at CJ
        obtain ⟨nj, hnj⟩ : ∃ nj, js.length = nj := ⟨_, rfl⟩
        rw [hnj] at hjl
        have HNJ := Lib.hid hnj
        have HRl := Lib.hid hrl
        obtain ⟨c0, c1, c2, -, -, -⟩ := row_facts HS.out.board
        clear hjs hnj hrl hr hy hi HJm
        go_wp2_with fail
        refine (CJ.out _).mono ?_
        rintro e w10 ⟨v, rfl, hh, hb⟩
        rw [HNJ.out] at hh
        obtain ⟨ja, jc, rfl⟩ := lines_form hh
        have HS10 := Lib.hid (HS.out.later hb)
        have HJ10 := Lib.hid hh
        clear hh hb HS c0 c1 c2 hcl CJ
        generalize wr.heap.size = B3 at *
        go_wp2_with fail
        go_loopw [13] (fun i wr => ∃ j : Nat, j ≤ nj ∧ i = .int .i64 j ∧ Hid (wr.ownsRow B3 39 3 (.slice ja nj jc) nj (lv js)) ∧ Hid (RSt w q a b z B1 B2 (some ⟨g, 0, none⟩) k vc l fa m fc f wr)) (fun i _ => nj - (intOf i).toNat)
        case atStart => exact ⟨0, Nat.zero_le _, rfl, HJ10, HS10⟩
        case round =>
          clear HJ10 HS10
          obtain ⟨j, hj, rfl, HJ, HS⟩ := hrel
          by_cases hjn : j < nj
          · have j0 : (0 : Int) ≤ (j : Int) := by omega
            have j1 : (j : Int) < (nj : Int) := by omega
            obtain ⟨⟨lf, lo, lt⟩, hx⟩ : ∃ x, js[j]? = some x := ⟨_, List.getElem?_eq_getElem (by rw [HNJ.out]; exact hjn)⟩
            obtain ⟨gj, rfl⟩ : ∃ gj, ja = some ⟨gj, 0, none⟩ := by
              rcases Go.Joins.ownsRow_forms HJ.out with ⟨h1, h2⟩ | ⟨gj, cap, h1⟩
              · omega
              · injection h1 with h1 h2 h3; exact ⟨gj, h1⟩
            have HCl : Hid (∀ w' : World, w'.ownsRow B3 39 3 (.slice (some ⟨gj, 0, none⟩) nj jc) nj (lv js) → w'.cell? ⟨gj, j * 3, none⟩ = some (.int .i64 lf) ∧ w'.cell? ⟨gj, j * 3 + 1, none⟩ = some (.int .i64 lo) ∧ w'.cell? ⟨gj, j * 3 + 2, none⟩ = some (.int .i64 lt)) := fun w' h => line_cells h HNJ.out hx
            have hjb := HJs.out _ (List.mem_of_getElem? hx)
            obtain ⟨x', hx', hxl⟩ := HJr.out _ hjb
            have CDx : Hid (∀ w, Calls Try.prog 21 #[.agg #[.int .i64 (a : Int), .int .i64 (b : Int), .int .i64 (z : Int)], .int .i64 (r : Int), .agg #[.int .i64 lf, .int .i64 lo, .int .i64 lt]] w (QP ((x' : Int), true) w)) := fun w => by
              have := CD.out lf lo lt w
              rw [show doB (a : Int) b z (r : Int) (lf, lo, lt) = ((x' : Int), true) by rw [doB, if_pos hjb, hx']] at this
              exact this
            have HXl := Lib.hid hxl
            clear hx hjb hx' hxl
            go_wp2_with fail
            refine wp_region_script (by kernel_rfl) (by kernel_rfl) ?_
            refine Script.load (i := 0) (v := ?_) rfl (by kernel_rfl) (by kernel_rfl) (fun _ _ _ h => h) (by kernel_rfl) ?_ ?_
            rotate_left
            · (intro wS hSw; have hA := After.trans (After.drew (After.refl _)) hSw; obtain ⟨c0, c1, c2, -, -, -⟩ := row_facts (HS.out.later hA).board; obtain ⟨d0, d1, d2⟩ := HCl.out wS (own_below HJ.out hA); go_simp; try with_reducible rfl)
            try simp only [Act.put, List.getElem_toArray, List.getElem_cons_succ, List.getElem_cons_zero, List.setIfInBounds_toArray, List.set_cons_zero, List.set_cons_succ]
            refine Script.load (i := 1) (v := ?_) rfl (by kernel_rfl) (by kernel_rfl) (fun _ _ _ h => h) (by kernel_rfl) ?_ ?_
            rotate_left
            · (intro wS hSw; have hA := After.trans (After.drew (After.refl _)) hSw; obtain ⟨c0, c1, c2, -, -, -⟩ := row_facts (HS.out.later hA).board; obtain ⟨d0, d1, d2⟩ := HCl.out wS (own_below HJ.out hA); go_simp; try with_reducible rfl)
            try simp only [Act.put, List.getElem_toArray, List.getElem_cons_succ, List.getElem_cons_zero, List.setIfInBounds_toArray, List.set_cons_zero, List.set_cons_succ]
            refine Script.load (i := 2) (v := ?_) rfl (by kernel_rfl) (by kernel_rfl) (fun _ _ _ h => h) (by kernel_rfl) ?_ ?_
            rotate_left
            · (intro wS hSw; have hA := After.trans (After.drew (After.refl _)) hSw; obtain ⟨c0, c1, c2, -, -, -⟩ := row_facts (HS.out.later hA).board; obtain ⟨d0, d1, d2⟩ := HCl.out wS (own_below HJ.out hA); go_simp; try with_reducible rfl)
            try simp only [Act.put, List.getElem_toArray, List.getElem_cons_succ, List.getElem_cons_zero, List.setIfInBounds_toArray, List.set_cons_zero, List.set_cons_succ]
            refine Script.load (i := 3) (v := ?_) rfl (by kernel_rfl) (by kernel_rfl) (fun _ _ _ h => h) (by kernel_rfl) ?_ ?_
            rotate_left
            · (intro wS hSw; have hA := After.trans (After.drew (After.refl _)) hSw; obtain ⟨c0, c1, c2, -, -, -⟩ := row_facts (HS.out.later hA).board; obtain ⟨d0, d1, d2⟩ := HCl.out wS (own_below HJ.out hA); go_simp; try with_reducible rfl)
            try simp only [Act.put, List.getElem_toArray, List.getElem_cons_succ, List.getElem_cons_zero, List.setIfInBounds_toArray, List.set_cons_zero, List.set_cons_succ]
            refine Script.load (i := 4) (v := ?_) rfl (by kernel_rfl) (by kernel_rfl) (fun _ _ _ h => h) (by kernel_rfl) ?_ ?_
            rotate_left
            · (intro wS hSw; have hA := After.trans (After.drew (After.refl _)) hSw; obtain ⟨c0, c1, c2, -, -, -⟩ := row_facts (HS.out.later hA).board; obtain ⟨d0, d1, d2⟩ := HCl.out wS (own_below HJ.out hA); go_simp; try with_reducible rfl)
            try simp only [Act.put, List.getElem_toArray, List.getElem_cons_succ, List.getElem_cons_zero, List.setIfInBounds_toArray, List.set_cons_zero, List.set_cons_succ]
            refine Script.load (i := 5) (v := ?_) rfl (by kernel_rfl) (by kernel_rfl) (fun _ _ _ h => h) (by kernel_rfl) ?_ ?_
            rotate_left
            · (intro wS hSw; have hA := After.trans (After.drew (After.refl _)) hSw; obtain ⟨c0, c1, c2, -, -, -⟩ := row_facts (HS.out.later hA).board; obtain ⟨d0, d1, d2⟩ := HCl.out wS (own_below HJ.out hA); go_simp; try with_reducible rfl)
            try simp only [Act.put, List.getElem_toArray, List.getElem_cons_succ, List.getElem_cons_zero, List.setIfInBounds_toArray, List.set_cons_zero, List.set_cons_succ]
            refine Script.call (i := 6) (v := ?_) rfl (by kernel_rfl) (by kernel_rfl) (fun _ _ _ h => h) (by kernel_rfl) ?_ ?_
            rotate_left
            · (intro wS hSw K hK; have hA := After.trans (After.drew (After.refl _)) hSw; obtain ⟨c0, c1, c2, -, -, -⟩ := row_facts (HS.out.later hA).board; obtain ⟨d0, d1, d2⟩ := HCl.out wS (own_below HJ.out hA); go_simp; go_at_call 21; refine (CDx.out _).mono ?_; rintro e wc' ⟨rfl, hbc⟩; exact hK.out _ hbc)
            try simp only [Act.put, List.getElem_toArray, List.getElem_cons_succ, List.getElem_cons_zero, List.setIfInBounds_toArray, List.set_cons_zero, List.set_cons_succ]
            refine Script.load (i := 7) (v := ?_) rfl (by kernel_rfl) (by kernel_rfl) (fun _ _ _ h => h) (by kernel_rfl) ?_ ?_
            rotate_left
            · (intro wS hSw; have hA := After.trans (After.drew (After.refl _)) hSw; obtain ⟨c0, c1, c2, -, -, -⟩ := row_facts (HS.out.later hA).board; obtain ⟨d0, d1, d2⟩ := HCl.out wS (own_below HJ.out hA); go_simp; try with_reducible rfl)
            try simp only [Act.put, List.getElem_toArray, List.getElem_cons_succ, List.getElem_cons_zero, List.setIfInBounds_toArray, List.set_cons_zero, List.set_cons_succ]
            refine Script.load (i := 8) (v := ?_) rfl (by kernel_rfl) (by kernel_rfl) (fun _ _ _ h => h) (by kernel_rfl) ?_ ?_
            rotate_left
            · (intro wS hSw; have hA := After.trans (After.drew (After.refl _)) hSw; obtain ⟨c0, c1, c2, -, -, -⟩ := row_facts (HS.out.later hA).board; obtain ⟨d0, d1, d2⟩ := HCl.out wS (own_below HJ.out hA); go_simp; try with_reducible rfl)
            try simp only [Act.put, List.getElem_toArray, List.getElem_cons_succ, List.getElem_cons_zero, List.setIfInBounds_toArray, List.set_cons_zero, List.set_cons_succ]
            refine Script.load (i := 9) (v := ?_) rfl (by kernel_rfl) (by kernel_rfl) (fun _ _ _ h => h) (by kernel_rfl) ?_ ?_
            rotate_left
            · (intro wS hSw; have hA := After.trans (After.drew (After.refl _)) hSw; obtain ⟨c0, c1, c2, -, -, -⟩ := row_facts (HS.out.later hA).board; obtain ⟨d0, d1, d2⟩ := HCl.out wS (own_below HJ.out hA); go_simp; try with_reducible rfl)
            try simp only [Act.put, List.getElem_toArray, List.getElem_cons_succ, List.getElem_cons_zero, List.setIfInBounds_toArray, List.set_cons_zero, List.set_cons_succ]
            refine Script.load (i := 10) (v := ?_) rfl (by kernel_rfl) (by kernel_rfl) (fun _ _ _ h => h) (by kernel_rfl) ?_ ?_
            rotate_left
            · (intro wS hSw; have hA := After.trans (After.drew (After.refl _)) hSw; obtain ⟨c0, c1, c2, -, -, -⟩ := row_facts (HS.out.later hA).board; obtain ⟨d0, d1, d2⟩ := HCl.out wS (own_below HJ.out hA); go_simp; try with_reducible rfl)
            try simp only [Act.put, List.getElem_toArray, List.getElem_cons_succ, List.getElem_cons_zero, List.setIfInBounds_toArray, List.set_cons_zero, List.set_cons_succ]
            refine Script.load (i := 11) (v := ?_) rfl (by kernel_rfl) (by kernel_rfl) (fun _ _ _ h => h) (by kernel_rfl) ?_ ?_
            rotate_left
            · (intro wS hSw; have hA := After.trans (After.drew (After.refl _)) hSw; obtain ⟨c0, c1, c2, -, -, -⟩ := row_facts (HS.out.later hA).board; obtain ⟨d0, d1, d2⟩ := HCl.out wS (own_below HJ.out hA); go_simp; try with_reducible rfl)
            try simp only [Act.put, List.getElem_toArray, List.getElem_cons_succ, List.getElem_cons_zero, List.setIfInBounds_toArray, List.set_cons_zero, List.set_cons_succ]
            refine Script.done (by kernel_rfl) ?_
            intro wD hD hG
            have HS2 := Lib.hid (HS.out.later (After.trans (After.drew (After.refl _)) hD))
            have HJ2 := Lib.hid (own_below HJ.out (After.trans (After.drew (After.refl _)) hD))
            have CH := Lib.hid (hasIn _ HN.out HS2.out.l HXl.out (by omega))
            clear hD hG HS HJ HCl CDx
            go_wp2_with fail
            refine CH.out.mono ?_
            rintro e w12 ⟨rfl, hb⟩
            have HS3 := Lib.hid (HS2.out.later hb)
            have HJ3 := Lib.hid (own_below HJ2.out hb)
            clear hb HS2 HJ2
            go_wp2_with fail
            go_roundw
            case rel => exact ⟨j + 1, by omega, by go_num, HJ3, HS3⟩
            case measure => simp [intOf]; omega
          · obtain rfl : j = nj := by omega
            clear HJ HJr HJs CD
            go_wp2_with fail
            have HFb := Lib.hid (fun w => specFinal (a : Int) b z p HP63.out w)
            obtain ⟨fb, hfb⟩ : ∃ fb, finalB (a : Int) b z p = fb := ⟨_, rfl⟩
            have hfbl : fb.length ≤ 49 := by
              rw [← hfb]
              refine Nat.le_trans (List.length_filter_le ..) ?_
              exact holesR_len (a : Int) b z
            rw [hfb] at HFb HFin
            obtain ⟨nb, hnb⟩ : ∃ nb, fb.length = nb := ⟨_, rfl⟩
            rw [hnb] at hfbl
            have HNB := Lib.hid hnb
            clear hfb hnb
            go_loopw [16] (fun i wr => ∃ j : Nat, j ≤ m ∧ i = .int .i64 j ∧ Hid (RSt w q a b z B1 B2 (some ⟨g, 0, none⟩) k vc l fa m fc f wr)) (fun i _ => m - (intOf i).toNat)
            case atStart => exact ⟨0, Nat.zero_le _, rfl, HS⟩
            case round =>
              clear HS
              obtain ⟨i', hi', rfl, HS⟩ := hrel
              by_cases him : i' < m
              · have j0 : (0 : Int) ≤ (i' : Int) := by omega
                have j1 : (i' : Int) < (m : Int) := by omega
                obtain ⟨kk, hkk⟩ : ∃ x, f[i']? = some x := ⟨_, List.getElem?_eq_getElem (by rw [HM.out]; exact him)⟩
                obtain ⟨h49, hkN, hbit, hml, hmf⟩ := HFin.out kk (List.mem_of_getElem? hkk)
                obtain ⟨gf, rfl, -⟩ := seq_get HS.out.f him hkk
                have HCl : Hid (∀ w', RSt w q a b z B1 B2 (some ⟨g, 0, none⟩) k vc l (some ⟨gf, 0, none⟩) m fc f w' → w'.cell? ⟨gf, i', none⟩ = some (.int .i64 (kk : Int))) := fun w' h => by
                  obtain ⟨g', e, h'⟩ := seq_get h.f him hkk
                  cases e; exact h'
                have CHo : Hid (∀ w, Calls Try.prog 23 #[.agg #[.int .i64 (a : Int), .int .i64 (b : Int), .int .i64 (z : Int)], .int .i64 (kk : Int)] w (QB true w)) := fun w => by
                  have := specHole_in HOk.out hkN w
                  rw [hbit] at this
                  exact this
                obtain ⟨q1, e1, n1, l1, u1⟩ := pow_nat kk h49
                have CCq := Lib.hid (CCan.out (2 ^ kk) hml)
                rw [n1] at CCq
                have hqw : IntKind.i64.wrap (q1 : Int) = (q1 : Int) := IntWalk.i64_in _ (by omega)
                have HMf := Lib.hid hmf
                clear hkk hbit hml hmf n1
                go_wp2_with fail
                refine wp_region_script (by kernel_rfl) (by kernel_rfl) ?_
                refine Script.load (i := 0) (v := ?_) rfl (by kernel_rfl) (by kernel_rfl) (fun _ _ _ h => h) (by kernel_rfl) ?_ ?_
                rotate_left
                · (intro wS hSw; have hA := HS.out.later (After.trans (After.drew (After.refl _)) hSw); obtain ⟨c0, c1, c2, -, -, -⟩ := row_facts hA.board; have hcl := HCl.out _ hA; go_simp; try with_reducible rfl)
                try simp only [Act.put, List.getElem_toArray, List.getElem_cons_succ, List.getElem_cons_zero, List.setIfInBounds_toArray, List.set_cons_zero, List.set_cons_succ]
                refine Script.load (i := 1) (v := ?_) rfl (by kernel_rfl) (by kernel_rfl) (fun _ _ _ h => h) (by kernel_rfl) ?_ ?_
                rotate_left
                · (intro wS hSw; have hA := HS.out.later (After.trans (After.drew (After.refl _)) hSw); obtain ⟨c0, c1, c2, -, -, -⟩ := row_facts hA.board; have hcl := HCl.out _ hA; go_simp; try with_reducible rfl)
                try simp only [Act.put, List.getElem_toArray, List.getElem_cons_succ, List.getElem_cons_zero, List.setIfInBounds_toArray, List.set_cons_zero, List.set_cons_succ]
                refine Script.load (i := 2) (v := ?_) rfl (by kernel_rfl) (by kernel_rfl) (fun _ _ _ h => h) (by kernel_rfl) ?_ ?_
                rotate_left
                · (intro wS hSw; have hA := HS.out.later (After.trans (After.drew (After.refl _)) hSw); obtain ⟨c0, c1, c2, -, -, -⟩ := row_facts hA.board; have hcl := HCl.out _ hA; go_simp; try with_reducible rfl)
                try simp only [Act.put, List.getElem_toArray, List.getElem_cons_succ, List.getElem_cons_zero, List.setIfInBounds_toArray, List.set_cons_zero, List.set_cons_succ]
                refine Script.load (i := 3) (v := ?_) rfl (by kernel_rfl) (by kernel_rfl) (fun _ _ _ h => h) (by kernel_rfl) ?_ ?_
                rotate_left
                · (intro wS hSw; have hA := HS.out.later (After.trans (After.drew (After.refl _)) hSw); obtain ⟨c0, c1, c2, -, -, -⟩ := row_facts hA.board; have hcl := HCl.out _ hA; go_simp; try with_reducible rfl)
                try simp only [Act.put, List.getElem_toArray, List.getElem_cons_succ, List.getElem_cons_zero, List.setIfInBounds_toArray, List.set_cons_zero, List.set_cons_succ]
                refine Script.load (i := 4) (v := ?_) rfl (by kernel_rfl) (by kernel_rfl) (fun _ _ _ h => h) (by kernel_rfl) ?_ ?_
                rotate_left
                · (intro wS hSw; have hA := HS.out.later (After.trans (After.drew (After.refl _)) hSw); obtain ⟨c0, c1, c2, -, -, -⟩ := row_facts hA.board; have hcl := HCl.out _ hA; go_simp; try with_reducible rfl)
                try simp only [Act.put, List.getElem_toArray, List.getElem_cons_succ, List.getElem_cons_zero, List.setIfInBounds_toArray, List.set_cons_zero, List.set_cons_succ]
                refine Script.call (i := 5) (v := ?_) rfl (by kernel_rfl) (by kernel_rfl) (fun _ _ _ h => h) (by kernel_rfl) ?_ ?_
                rotate_left
                · (intro wS hSw K hK; have hA := HS.out.later (After.trans (After.drew (After.refl _)) hSw); obtain ⟨c0, c1, c2, -, -, -⟩ := row_facts hA.board; have hcl := HCl.out _ hA; go_simp; go_at_call 23; refine (CHo.out _).mono ?_; rintro e wc' ⟨rfl, hbc⟩; exact hK.out _ hbc)
                try simp only [Act.put, List.getElem_toArray, List.getElem_cons_succ, List.getElem_cons_zero, List.setIfInBounds_toArray, List.set_cons_zero, List.set_cons_succ]
                refine Script.load (i := 6) (v := ?_) rfl (by kernel_rfl) (by kernel_rfl) (fun _ _ _ h => h) (by kernel_rfl) ?_ ?_
                rotate_left
                · (intro wS hSw; have hA := HS.out.later (After.trans (After.drew (After.refl _)) hSw); obtain ⟨c0, c1, c2, -, -, -⟩ := row_facts hA.board; have hcl := HCl.out _ hA; go_simp; try with_reducible rfl)
                try simp only [Act.put, List.getElem_toArray, List.getElem_cons_succ, List.getElem_cons_zero, List.setIfInBounds_toArray, List.set_cons_zero, List.set_cons_succ]
                refine Script.load (i := 7) (v := ?_) rfl (by kernel_rfl) (by kernel_rfl) (fun _ _ _ h => h) (by kernel_rfl) ?_ ?_
                rotate_left
                · (intro wS hSw; have hA := HS.out.later (After.trans (After.drew (After.refl _)) hSw); obtain ⟨c0, c1, c2, -, -, -⟩ := row_facts hA.board; have hcl := HCl.out _ hA; go_simp; try with_reducible rfl)
                try simp only [Act.put, List.getElem_toArray, List.getElem_cons_succ, List.getElem_cons_zero, List.setIfInBounds_toArray, List.set_cons_zero, List.set_cons_succ]
                refine Script.load (i := 8) (v := ?_) rfl (by kernel_rfl) (by kernel_rfl) (fun _ _ _ h => h) (by kernel_rfl) ?_ ?_
                rotate_left
                · (intro wS hSw; have hA := HS.out.later (After.trans (After.drew (After.refl _)) hSw); obtain ⟨c0, c1, c2, -, -, -⟩ := row_facts hA.board; have hcl := HCl.out _ hA; go_simp; try with_reducible rfl)
                try simp only [Act.put, List.getElem_toArray, List.getElem_cons_succ, List.getElem_cons_zero, List.setIfInBounds_toArray, List.set_cons_zero, List.set_cons_succ]
                refine Script.load (i := 9) (v := ?_) rfl (by kernel_rfl) (by kernel_rfl) (fun _ _ _ h => h) (by kernel_rfl) ?_ ?_
                rotate_left
                · (intro wS hSw; have hA := HS.out.later (After.trans (After.drew (After.refl _)) hSw); obtain ⟨c0, c1, c2, -, -, -⟩ := row_facts hA.board; have hcl := HCl.out _ hA; go_simp; try with_reducible rfl)
                try simp only [Act.put, List.getElem_toArray, List.getElem_cons_succ, List.getElem_cons_zero, List.setIfInBounds_toArray, List.set_cons_zero, List.set_cons_succ]
                refine Script.load (i := 10) (v := ?_) rfl (by kernel_rfl) (by kernel_rfl) (fun _ _ _ h => h) (by kernel_rfl) ?_ ?_
                rotate_left
                · (intro wS hSw; have hA := HS.out.later (After.trans (After.drew (After.refl _)) hSw); obtain ⟨c0, c1, c2, -, -, -⟩ := row_facts hA.board; have hcl := HCl.out _ hA; go_simp; try with_reducible rfl)
                try simp only [Act.put, List.getElem_toArray, List.getElem_cons_succ, List.getElem_cons_zero, List.setIfInBounds_toArray, List.set_cons_zero, List.set_cons_succ]
                refine Script.load (i := 11) (v := ?_) rfl (by kernel_rfl) (by kernel_rfl) (fun _ _ _ h => h) (by kernel_rfl) ?_ ?_
                rotate_left
                · (intro wS hSw; have hA := HS.out.later (After.trans (After.drew (After.refl _)) hSw); obtain ⟨c0, c1, c2, -, -, -⟩ := row_facts hA.board; have hcl := HCl.out _ hA; go_simp; try with_reducible rfl)
                try simp only [Act.put, List.getElem_toArray, List.getElem_cons_succ, List.getElem_cons_zero, List.setIfInBounds_toArray, List.set_cons_zero, List.set_cons_succ]
                refine Script.load (i := 12) (v := ?_) rfl (by kernel_rfl) (by kernel_rfl) (fun _ _ _ h => h) (by kernel_rfl) ?_ ?_
                rotate_left
                · (intro wS hSw; have hA := HS.out.later (After.trans (After.drew (After.refl _)) hSw); obtain ⟨c0, c1, c2, -, -, -⟩ := row_facts hA.board; have hcl := HCl.out _ hA; go_simp; try with_reducible rfl)
                try simp only [Act.put, List.getElem_toArray, List.getElem_cons_succ, List.getElem_cons_zero, List.setIfInBounds_toArray, List.set_cons_zero, List.set_cons_succ]
                refine Script.load (i := 13) (v := ?_) rfl (by kernel_rfl) (by kernel_rfl) (fun _ _ _ h => h) (by kernel_rfl) ?_ ?_
                rotate_left
                · (intro wS hSw; have hA := HS.out.later (After.trans (After.drew (After.refl _)) hSw); obtain ⟨c0, c1, c2, -, -, -⟩ := row_facts hA.board; have hcl := HCl.out _ hA; go_simp; try with_reducible rfl)
                try simp only [Act.put, List.getElem_toArray, List.getElem_cons_succ, List.getElem_cons_zero, List.setIfInBounds_toArray, List.set_cons_zero, List.set_cons_succ]
                refine Script.load (i := 14) (v := ?_) rfl (by kernel_rfl) (by kernel_rfl) (fun _ _ _ h => h) (by kernel_rfl) ?_ ?_
                rotate_left
                · (intro wS hSw; have hA := HS.out.later (After.trans (After.drew (After.refl _)) hSw); obtain ⟨c0, c1, c2, -, -, -⟩ := row_facts hA.board; have hcl := HCl.out _ hA; go_simp; try with_reducible rfl)
                try simp only [Act.put, List.getElem_toArray, List.getElem_cons_succ, List.getElem_cons_zero, List.setIfInBounds_toArray, List.set_cons_zero, List.set_cons_succ]
                refine Script.call (i := 15) (v := ?_) rfl (by kernel_rfl) (by kernel_rfl) (fun _ _ _ h => h) (by kernel_rfl) ?_ ?_
                rotate_left
                · (intro wS hSw K hK; have hA := HS.out.later (After.trans (After.drew (After.refl _)) hSw); obtain ⟨c0, c1, c2, -, -, -⟩ := row_facts hA.board; have hcl := HCl.out _ hA; go_simp; go_at_call 16; refine (CCq.out _).mono ?_; rintro e wc' ⟨rfl, hbc⟩; exact hK.out _ hbc)
                try simp only [Act.put, List.getElem_toArray, List.getElem_cons_succ, List.getElem_cons_zero, List.setIfInBounds_toArray, List.set_cons_zero, List.set_cons_succ]
                refine Script.load (i := 16) (v := ?_) rfl (by kernel_rfl) (by kernel_rfl) (fun _ _ _ h => h) (by kernel_rfl) ?_ ?_
                rotate_left
                · (intro wS hSw; have hA := HS.out.later (After.trans (After.drew (After.refl _)) hSw); obtain ⟨c0, c1, c2, -, -, -⟩ := row_facts hA.board; have hcl := HCl.out _ hA; go_simp; try with_reducible rfl)
                try simp only [Act.put, List.getElem_toArray, List.getElem_cons_succ, List.getElem_cons_zero, List.setIfInBounds_toArray, List.set_cons_zero, List.set_cons_succ]
                refine Script.load (i := 17) (v := ?_) rfl (by kernel_rfl) (by kernel_rfl) (fun _ _ _ h => h) (by kernel_rfl) ?_ ?_
                rotate_left
                · (intro wS hSw; have hA := HS.out.later (After.trans (After.drew (After.refl _)) hSw); obtain ⟨c0, c1, c2, -, -, -⟩ := row_facts hA.board; have hcl := HCl.out _ hA; go_simp; try with_reducible rfl)
                try simp only [Act.put, List.getElem_toArray, List.getElem_cons_succ, List.getElem_cons_zero, List.setIfInBounds_toArray, List.set_cons_zero, List.set_cons_succ]
                refine Script.load (i := 18) (v := ?_) rfl (by kernel_rfl) (by kernel_rfl) (fun _ _ _ h => h) (by kernel_rfl) ?_ ?_
                rotate_left
                · (intro wS hSw; have hA := HS.out.later (After.trans (After.drew (After.refl _)) hSw); obtain ⟨c0, c1, c2, -, -, -⟩ := row_facts hA.board; have hcl := HCl.out _ hA; go_simp; try with_reducible rfl)
                try simp only [Act.put, List.getElem_toArray, List.getElem_cons_succ, List.getElem_cons_zero, List.setIfInBounds_toArray, List.set_cons_zero, List.set_cons_succ]
                refine Script.load (i := 19) (v := ?_) rfl (by kernel_rfl) (by kernel_rfl) (fun _ _ _ h => h) (by kernel_rfl) ?_ ?_
                rotate_left
                · (intro wS hSw; have hA := HS.out.later (After.trans (After.drew (After.refl _)) hSw); obtain ⟨c0, c1, c2, -, -, -⟩ := row_facts hA.board; have hcl := HCl.out _ hA; go_simp; try with_reducible rfl)
                try simp only [Act.put, List.getElem_toArray, List.getElem_cons_succ, List.getElem_cons_zero, List.setIfInBounds_toArray, List.set_cons_zero, List.set_cons_succ]
                refine Script.load (i := 20) (v := ?_) rfl (by kernel_rfl) (by kernel_rfl) (fun _ _ _ h => h) (by kernel_rfl) ?_ ?_
                rotate_left
                · (intro wS hSw; have hA := HS.out.later (After.trans (After.drew (After.refl _)) hSw); obtain ⟨c0, c1, c2, -, -, -⟩ := row_facts hA.board; have hcl := HCl.out _ hA; go_simp; try with_reducible rfl)
                try simp only [Act.put, List.getElem_toArray, List.getElem_cons_succ, List.getElem_cons_zero, List.setIfInBounds_toArray, List.set_cons_zero, List.set_cons_succ]
                refine Script.load (i := 22) (v := ?_) rfl (by kernel_rfl) (by kernel_rfl) (fun _ _ _ h => h) (by kernel_rfl) ?_ ?_
                rotate_left
                · (intro wS hSw; have hA := HS.out.later (After.trans (After.drew (After.refl _)) hSw); obtain ⟨c0, c1, c2, -, -, -⟩ := row_facts hA.board; have hcl := HCl.out _ hA; go_simp; try with_reducible rfl)
                try simp only [Act.put, List.getElem_toArray, List.getElem_cons_succ, List.getElem_cons_zero, List.setIfInBounds_toArray, List.set_cons_zero, List.set_cons_succ]
                refine Script.load (i := 23) (v := ?_) rfl (by kernel_rfl) (by kernel_rfl) (fun _ _ _ h => h) (by kernel_rfl) ?_ ?_
                rotate_left
                · (intro wS hSw; have hA := HS.out.later (After.trans (After.drew (After.refl _)) hSw); obtain ⟨c0, c1, c2, -, -, -⟩ := row_facts hA.board; have hcl := HCl.out _ hA; go_simp; try with_reducible rfl)
                try simp only [Act.put, List.getElem_toArray, List.getElem_cons_succ, List.getElem_cons_zero, List.setIfInBounds_toArray, List.set_cons_zero, List.set_cons_succ]
                refine Script.load (i := 24) (v := ?_) rfl (by kernel_rfl) (by kernel_rfl) (fun _ _ _ h => h) (by kernel_rfl) ?_ ?_
                rotate_left
                · (intro wS hSw; have hA := HS.out.later (After.trans (After.drew (After.refl _)) hSw); obtain ⟨c0, c1, c2, -, -, -⟩ := row_facts hA.board; have hcl := HCl.out _ hA; go_simp; try with_reducible rfl)
                try simp only [Act.put, List.getElem_toArray, List.getElem_cons_succ, List.getElem_cons_zero, List.setIfInBounds_toArray, List.set_cons_zero, List.set_cons_succ]
                refine Script.load (i := 25) (v := ?_) rfl (by kernel_rfl) (by kernel_rfl) (fun _ _ _ h => h) (by kernel_rfl) ?_ ?_
                rotate_left
                · (intro wS hSw; have hA := HS.out.later (After.trans (After.drew (After.refl _)) hSw); obtain ⟨c0, c1, c2, -, -, -⟩ := row_facts hA.board; have hcl := HCl.out _ hA; go_simp; try with_reducible rfl)
                try simp only [Act.put, List.getElem_toArray, List.getElem_cons_succ, List.getElem_cons_zero, List.setIfInBounds_toArray, List.set_cons_zero, List.set_cons_succ]
                refine Script.one (i := 21) rfl (by kernel_rfl) (by kernel_rfl) ?_
                intro wO hO K hK; have hSw := hO; have hA := HS.out.later (After.trans (After.drew (After.refl _)) hSw); obtain ⟨c0, c1, c2, -, -, -⟩ := row_facts hA.board; have hcl := HCl.out _ hA; go_simp
                clear hSw
                go_at_call 24; refine (HFb.out _).mono ?_; rintro e wc' ⟨vf, rfl, hh, hbc⟩; rw [HNB.out] at hh; obtain ⟨fba, fbc, rfl⟩ := one_form hh
                refine hK.out _ _ hbc ?_
                clear hK K
                try simp only [Act.put, List.getElem_toArray, List.getElem_cons_succ, List.getElem_cons_zero, List.setIfInBounds_toArray, List.set_cons_zero, List.set_cons_succ]
                clear c0 c1 c2 hcl hA
                refine Script.call (i := 26) (v := ?_) rfl (by kernel_rfl) (by kernel_rfl) (fun _ _ _ h => h) (by kernel_rfl) ?_ ?_
                rotate_left
                · (intro wS hSw K hK; skip; go_simp; go_at_call 22; refine (hasIn _ HNB.out (own_below hh hSw) HMf.out (by omega)).mono ?_; rintro e wd' ⟨rfl, hbc⟩; exact hK.out _ hbc)
                try simp only [Act.put, List.getElem_toArray, List.getElem_cons_succ, List.getElem_cons_zero, List.setIfInBounds_toArray, List.set_cons_zero, List.set_cons_succ]
                refine Script.load (i := 27) (v := ?_) rfl (by kernel_rfl) (by kernel_rfl) (fun _ _ _ h => h) (by kernel_rfl) ?_ ?_
                rotate_left
                · (intro wS hSw; skip; go_simp; try with_reducible rfl)
                try simp only [Act.put, List.getElem_toArray, List.getElem_cons_succ, List.getElem_cons_zero, List.setIfInBounds_toArray, List.set_cons_zero, List.set_cons_succ]
                refine Script.load (i := 28) (v := ?_) rfl (by kernel_rfl) (by kernel_rfl) (fun _ _ _ h => h) (by kernel_rfl) ?_ ?_
                rotate_left
                · (intro wS hSw; skip; go_simp; try with_reducible rfl)
                try simp only [Act.put, List.getElem_toArray, List.getElem_cons_succ, List.getElem_cons_zero, List.setIfInBounds_toArray, List.set_cons_zero, List.set_cons_succ]
                refine Script.done (by kernel_rfl) ?_
                intro wD hD hG
                have HS2 := Lib.hid (HS.out.later (After.trans (After.drew (After.refl _)) (After.trans hO (After.trans hbc hD))))
                clear hD hG HS HCl hO hh hbc
                go_wp2_with fail
                go_roundw
                case rel => exact ⟨i' + 1, by omega, by go_num, HS2⟩
                case measure => simp [intOf]; omega
              · obtain rfl : i' = m := by omega
                have CX := Lib.hid (CCan.out r HRl.out)
                have hxx : (x == x) = true := by simp
                obtain ⟨c0, c1, c2, -, -, -⟩ := row_facts HS.out.board
                clear HFb HFin
                rw [HY.out]
                go_wp2_with fail
                refine (CX.out _).mono ?_
                rintro e w12 ⟨rfl, hb⟩
                have HS3 := Lib.hid (HS.out.later hb)
                clear hb
                go_wp2_with fail
                go_ret
                exact ⟨rfl, HS3.out.below⟩
set_option maxRecDepth 100000 in
theorem walk_far {a0 : Option Addr} {len cap : Nat} (w : World) (h : 1048576 < len) :
    Calls Try.prog 3 #[.slice a0 len cap] w fun e w' => e = .returned (.bool true) ∧ Below w.heap.size w w' := by
  go_enter Try.func3, Try.ntmps3
  go_wp2_with fail
  refine (big_yes _ h).mono ?_
  rintro e w' ⟨rfl, rfl⟩
  go_wp2_with fail
  go_ret
  exact ⟨rfl, Below.refl _ _⟩
theorem walk (a0 : Option Addr) (len0 cap0 : Nat) (z0 : List Int) (w : World) (w0 : IsRow .u8 w a0 len0 cap0 z0) :
    Calls Try.prog 3 #[.slice a0 len0 cap0] w fun e w' => e = .returned (.bool true) ∧ Below w.heap.size w w' := by
  by_cases h2 : len0 ≤ 1048576
  · exact walk_in w (code_of w0 h2)
  · exact walk_far w (by omega)
set_option maxRecDepth 100000 in
theorem lifted (os : Os) (started : os.Started) (H : Type) (enc : TypeId × Value → H) :
    ReturnsInHanded {} Try.checked os 3 .any (Rows.fnReachSpec.pre6 enc Try.prog Try.f3 Rows.fnReachRow.domain false) (Rows.fnReachSpec.post enc Try.prog Try.f3 false true false false) := by
  refine returnsInHanded_of_change (C := Try.checked) own started (by kernel_rfl) Try.func3
    (ChangeSpec.witness6 (enc := enc) (C := Try.checked) false ⟨#[], #[.slice none 0 0], []⟩ 8 (by kernel_rfl) (by kernel_rfl) (by kernel_rfl) (by kernel_rfl)) ?_
  intro W base args ds gs before hval0 hW hcnd _
  have hval : ∀ (j : Nat) t v, Try.f3.params[j]? = some t → args[j]? = some v → Value.okWide Try.prog W .any base t v := hval0
  have hW' := hW
  obtain ⟨p, q, hA0, hV, rfl, hfz, hnd⟩ := hW
  have hA : DataW.TrodAll enc Try.prog W 0 (fun _ => true) true Try.f3.params.toList args.toList ds p := hA0
  rw [Try.params3] at hA hval
  obtain ⟨v0, vs0, d0, ds0, p0, q0, hargs, rfl, rfl, h0, r0⟩ := trodAll_cons hA
  obtain ⟨rfl, rfl, rfl⟩ := trodAll_nil r0
  obtain rfl : args = #[v0] := by cases args; simp_all
  obtain ⟨rfl, rfl⟩ := trodVars_none hV
  obtain ⟨a0, len0, cap0, rfl⟩ := okWide_slice Try.underlying22 (hval 0 22 v0 rfl rfl)
  have k0 := h0
  have lt0 : ∀ x ∈ p0, x.block < W.heap.size := by obtain ⟨m, hm⟩ := k0; exact DataW.trod_lt m _ _ _ hm
  obtain ⟨z0, w0⟩ : ∃ zs, IsRow .u8 W a0 len0 cap0 zs := by
    obtain ⟨fuel, hf⟩ := h0
    rcases open_ints Try.underlying22 Try.underlying5 (by kernel_rfl) hf with ⟨hcs, _⟩ | ⟨x, l, c, zs, hcs, _, hl, hm, hz, _, hcell, hwz⟩
    · simp [Value.cells] at hcs
      obtain ⟨rfl, rfl, rfl⟩ := hcs
      exact ⟨[], .inl ⟨rfl, rfl, rfl, rfl⟩⟩
    · simp [Value.cells] at hcs
      obtain ⟨rfl, rfl, rfl⟩ := hcs
      exact ⟨zs, .inr ⟨_, rfl, hl, hm, by simpa using hz, hcell, hwz⟩⟩
  clear hA0 hval0
  refine (walk a0 len0 cap0 z0 W w0).mono fun e W' ⟨he, bel⟩ => ?_
  subst he
  exact ⟨_, rfl, _, _, _, [], _, [], hW', trodAll_mk1 (shut_bool Try.underlying4 _), (trodAll_cons_mk (Below.trod laidOut (by kernel_rfl) (of_decide_eq_true (by kernel_rfl)) k0 bel lt0) trodAll_mk0), rfl, bel.frame _, fun h => by cases h⟩

theorem over : Rows.fnReachRow.holds Try.pinned (OpenSpec.ofChange Rows.fnReachSpec) :=
  OpenClaim.holds_of_wide 3 Try.f3 rfl rfl rfl rfl rfl rfl rfl ⟨rfl, rfl, rfl, rfl, rfl⟩ rfl rfl rfl rfl rfl (by kernel_rfl) Try.func3 (by kernel_rfl)
    (of_decide_eq_true (by kernel_rfl)) (by unfold Func.isWrapper; first | (rw [if_pos (by decide +kernel)]; kernel_rfl) | (rw [if_neg (by decide +kernel)]; exact ⟨rfl, rfl⟩))
    (fun os started H enc _ => lifted os started H enc)

theorem proved : Rows.FnReachSaid := over
end Go.Proofs.Ytllfgdcplbfdhaa.fnReach
