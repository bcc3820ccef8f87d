/- Layers, of the model: l17Next, l17Layer, LayerOf, BackLayer, CommonOf, MeetingOf, WidestLayer, for every three ints and ints up to 2^63 - 1. -/
import Derived.Test.YtgkmapemnlgldaaLayMath
import Derived.Test.YtgkmapemnlgldaaReachC
import Derived.Test.YtgkmapemnlgldaaWayA
import Derived.Test.YtgkmapemnlgldaaWeights
namespace Go.Proofs.Ytgkmapemnlgldaa
open Go.RowKit
set_option linter.unusedVariables false
set_option linter.unusedSimpArgs false
/-- Marks beside lines that are read. -/
structure NxSt (w0 : World) (gs B M : Nat) (la : Option Addr) (nl : Nat) (ls : List Ln) (T : List Nat) (w : World) : Prop where
  marks : w.ownsRow w0.heap.size 4 1 (.slice (some ⟨gs, 0, none⟩) M M) M (bv M (fun q => decide (q ∈ T)))
  lines : LnsAt la nl ls gs B w
  size : B ≤ w.heap.size
  below : Below w0.heap.size w0 w
section
variable {w0 w w' : World} {gs B M nl : Nat} {la : Option Addr} {ls : List Ln} {T : List Nat}
theorem NxSt.mark (h : NxSt w0 gs B M la nl ls T w) (q : Nat) (hq : q < M) : w.cell? ⟨gs, q, none⟩ = some (.bool (decide (q ∈ T))) := own_cell h.marks q hq _ (bv_get _ hq)
theorem NxSt.later (h : NxSt w0 gs B M la nl ls T w) (hb : Below w.heap.size w w') : NxSt w0 gs B M la nl ls T w' :=
  ⟨own_below h.marks hb, h.lines.turn (fun g _ hg => hb.block g (Nat.lt_of_lt_of_le hg h.size)), Nat.le_trans h.size hb.size, h.below.trans (hb.mono h.below.size)⟩
theorem NxSt.set (h : NxSt w0 gs B M la nl ls T w) (r : Nat) : NxSt w0 gs B M la nl ls (T ++ [r]) (w.setCell ⟨gs, r, none⟩ (.bool true)) := by
  have h1 := h.marks.stored r (.bool true)
  rw [bv_set] at h1
  have hw := h.marks.lt gs rfl
  exact ⟨h1.1, h.lines.turn (fun g hg _ => heap_setCell_other _ ⟨gs, r, none⟩ g _ hg), by have := h.size; simpa using this, set_below h.below hw.1⟩
end
set_option maxHeartbeats 8000000 in
set_option maxRecDepth 100000 in
theorem specNext {a b N z : Nat} (back : Bool) (ho : Ok (a : Int) (b : Int) N z) (h16 : N ≤ 16) {Bx n vc : Nat} {va : Option Addr} {xs : List Nat} (hn : xs.length = n) (h65 : n ≤ 65536) (hxs : ∀ q ∈ xs, Part q z) (w : World) (hr : w.ownsRow Bx 3 1 (.slice va n vc) n (Ints xs)) :
    Calls Try.prog 48 #[.agg #[.int .i64 a, .int .i64 b, .int .i64 z], .slice va n vc, .bool back] w (OwnInts (nextK (stepL back (lnsOf (a : Int) b z)) (2 ^ N) xs) w) := by
  obtain ⟨i0, hi, hz0, hz1, hz2⟩ : ∃ i, Try.prog.info? 4 = some i ∧ i.zero = some (.bool false) ∧ i.size = 1 ∧ i.bytes = 1 := ⟨_, by rfl, by rfl, by rfl, by rfl⟩
  obtain ⟨hN, ha, ha7, hb', hb7, h49⟩ := ho.nat
  have CL := Lib.hid (fun w => specLines ho w)
  have HLn := Lib.hid (lnsOf_ok ho)
  have HLen : Hid ((linesOf a b z (bitsOf N z)).length ≤ 196) := by unfold Hid; rw [← HLn.out]; exact lnsOf_le _ _ _
  have HMem : Hid (∀ l ∈ linesOf a b z (bitsOf N z), ∃ f o t, LnAt a b z l f o t) := fun l hl => mem_at hN ha hl
  have HPart : Hid (∀ q ∈ xs, ∀ r ∈ stepL back (lnsOf (a : Int) b z) q, r < 2 ^ N) := fun q hq r hr => part_lt (step_part ho (hxs q hq) hr) ho.zlt
  have HQ : Hid (∀ q ∈ xs, q < 2 ^ N) := fun q hq => part_lt (hxs q hq) ho.zlt
  obtain ⟨M, hM, hM2, hM1, hMb⟩ := pow_nat N (by omega)
  have hM65 : M ≤ 65536 := by rw [← hM2]; exact Nat.pow_le_pow_right (by decide) h16
  rw [hM2] at HPart HQ ⊢
  rw [HLn.out] at HPart ⊢
  generalize linesOf a b z (bitsOf N z) = ls at *
  obtain ⟨st, hst⟩ : ∃ st, stepL back ls = st := ⟨_, rfl⟩
  have HSt : Hid (∀ q r, r ∈ st q ↔ ∃ l ∈ ls, hitL back q l = true ∧ (flipL q l).toNat = r) := fun q r => by rw [← hst]; exact mem_step
  rw [hst] at HPart ⊢
  have HX : Hid (∀ (k q : Nat), xs[k]? = some q → ∃ gx, va = some ⟨gx, 0, none⟩ ∧ ∀ w', Below w.heap.size w w' → w'.cell? ⟨gx, k, none⟩ = some (.int .i64 (q : Int))) := fun k q hk => by
    have hkn : k < n := by rw [← hn]; exact (List.getElem?_eq_some_iff.1 hk).1
    obtain ⟨g, rfl⟩ := one_block hr (by omega)
    exact ⟨g, rfl, fun w' hb => own_cell (own_below hr hb) k hkn _ (by simp [Ints, hk])⟩
  have HEnd : Hid (∀ T : List Nat, (∀ r ∈ T, ∃ p ∈ xs, r ∈ st p) → (∀ p ∈ xs, ∀ r ∈ st p, r ∈ T) → (List.range M).filter (fun q => decide (q ∈ T)) = nextK st M xs) := fun T h1 h2 => by
    unfold nextK
    refine List.filter_congr fun q _ => ?_
    rw [Bool.eq_iff_iff, decide_eq_true_eq, List.any_eq_true]
    constructor
    · intro h
      obtain ⟨p, hp, hq⟩ := h1 q h
      exact ⟨p, hp, by simpa using hq⟩
    · rintro ⟨p, hp, hq⟩
      exact h2 p hp q (by simpa using hq)
  have hmul : (a : Int) * (b : Int) = (N : Int) := by rw [← Int.natCast_mul, hN]
  have hMw : IntKind.i64.wrap (M : Int) = (M : Int) := IntWalk.i64_in _ (by omega)
  obtain ⟨w3, hmk, hrow, hg3⟩ := run_make_full (P := Try.prog) (w.alloc (.cells #[.int .i64 (a : Int), .int .i64 (b : Int), .int .i64 (z : Int)] 25)) (w.alloc (.cells #[.int .i64 (a : Int), .int .i64 (b : Int), .int .i64 (z : Int)] 25)).heap.size 49 4 i0 (.bool false) 1 Try.underlying49 hi hz0 hz1 .i64 .i64 M (by rw [hz2]; omega) (by unfold maxLen; omega) (Nat.le_refl _)
  rw [show (madeCells (Value.bool false).cells (M * 1)).toList = bv M (fun q => decide (q ∈ ([] : List Nat))) by rw [Nat.mul_one, show (Value.bool false).cells = #[.bool false] from rfl, toList_madeCells_one, bv_none]] at hrow
  have hsz1 : (w.alloc (.cells #[.int .i64 (a : Int), .int .i64 (b : Int), .int .i64 (z : Int)] 25)).heap.size = w.heap.size + 1 := by simp
  have B0 := box_new a b z w
  have B3 := Lib.hid (B0.later (w' := w3) ⟨hg3.os, hg3.tape, hg3.output, hg3.size, fun j hj => hg3.block j hj (by simp)⟩)
  have HR3 := Lib.hid hrow
  have hsz3 := (hrow.lt _ rfl).2
  rw [hsz1] at hmk hsz3
  rw [hsz1] at HR3
  have HNn := Lib.hid hn
  clear hst hM2 HLn hrow hg3 B0 hsz1 hxs hr hn ho
  obtain ⟨c0, c1, c2, hlt, hb1⟩ := B3.out
  go_enter Try.func48, Try.ntmps48
  go_wp2_with fail
  clear hmk
  refine (CL.out _).mono ?_
  rintro e w4 ⟨lv', rfl, hh, hb⟩
  obtain ⟨la, lc, rfl⟩ := lines_form hh
  obtain ⟨nl, hnl⟩ : ∃ nl, ls.length = nl := ⟨_, rfl⟩
  rw [hnl] at hh
  rw [hnl]
  have HS4 : Hid (NxSt w (w.heap.size + 1) w4.heap.size M la nl ls [] w4) := ⟨own_base (own_below HR3.out hb) (Nat.le_succ _), lns_own (B := w4.heap.size) hh hnl hsz3 (Nat.le_refl _), Nat.le_refl _, (B3.out.later hb).2.2.2.2⟩
  have HNL := Lib.hid hnl
  have hnl2 : nl ≤ 196 := by rw [← hnl]; exact HLen.out
  clear hb hh hnl HLen B3 HR3 c0 c1 c2 hlt hb1 hsz3
  generalize w4.heap.size = B at *
  generalize w.heap.size + 1 = gs at *
  go_wp2_with fail
  go_loopw [9] (fun i wr => ∃ (k : Nat) (T : List Nat), k ≤ n ∧ i = .int .i64 k ∧ Hid (∀ r ∈ T, ∃ p ∈ xs, r ∈ st p) ∧ Hid (∀ p ∈ xs.take k, ∀ r ∈ st p, r ∈ T) ∧ Hid (NxSt w gs B M la nl ls T wr)) (fun i _ => n - (intOf i).toNat)
  case atStart => exact ⟨0, [], Nat.zero_le _, rfl, fun r h => absurd h (by simp), fun p h => absurd h (by simp), HS4⟩
  case round =>
    clear HS4
    obtain ⟨k, T, hk, rfl, HT, HD, HS⟩ := hrel
    by_cases hkn : k < n
    · have k0 : (0 : Int) ≤ (k : Int) := by omega
      have k1 : (k : Int) < (n : Int) := by omega
      obtain ⟨q0, hq0⟩ : ∃ q, xs[k]? = some q := ⟨_, List.getElem?_eq_getElem (by rw [HNn.out]; exact hkn)⟩
      have hq0M : q0 < M := HQ.out q0 (List.mem_of_getElem? hq0)
      have HQ0 := Lib.hid hq0
      obtain ⟨gx, rfl, hgx⟩ := HX.out k q0 hq0
      have HGx := Lib.hid hgx
      clear hq0 hgx
      go_wp2_with fail
      go_loopw [10] (fun i wr => ∃ (i' : Nat) (T : List Nat), i' ≤ nl ∧ i = .int .i64 i' ∧ Hid (∀ r ∈ T, ∃ p ∈ xs, r ∈ st p) ∧ Hid (∀ p ∈ xs.take k, ∀ r ∈ st p, r ∈ T) ∧ Hid (∀ l ∈ ls.take i', hitL back q0 l = true → (flipL q0 l).toNat ∈ T) ∧ Hid (NxSt w gs B M la nl ls T wr)) (fun i _ => nl - (intOf i).toNat)
      case atStart => exact ⟨0, T, Nat.zero_le _, rfl, HT, HD, fun l hl => absurd hl (by simp), HS⟩
      case round =>
        clear HT HD HS
        obtain ⟨i, T, hi, rfl, HT, HD, HE, HS⟩ := hrel
        by_cases hin : i < nl
        · have i0' : (0 : Int) ≤ (i : Int) := by omega
          have i1' : (i : Int) < (nl : Int) := by omega
          obtain ⟨l, hl⟩ : ∃ l, ls[i]? = some l := ⟨_, List.getElem?_eq_getElem (by rw [HNL.out]; exact hin)⟩
          have hlm := List.mem_of_getElem? hl
          obtain ⟨f, o, t, S⟩ := HMem.out l hlm
          obtain ⟨gl, rfl, hgl1, hgl2, -⟩ := HS.out.lines.get hl
          have hle := S.eq
          have HCl : Hid (∀ w', NxSt w gs B M (some ⟨gl, 0, none⟩) nl ls T w' → (w'.cell? ⟨gl, i * 3, none⟩ = some (.int .i64 (f : Int)) ∧ w'.cell? ⟨gl, i * 3 + 1, none⟩ = some (.int .i64 (o : Int)) ∧ w'.cell? ⟨gl, i * 3 + 2, none⟩ = some (.int .i64 (t : Int))) ∧ w'.cell? ⟨gx, k, none⟩ = some (.int .i64 (q0 : Int))) := fun w' h => by
            obtain ⟨g', e, -, -, e0, e1, e2⟩ := h.lines.get hl
            cases e
            rw [hle] at e0 e1 e2
            exact ⟨⟨e0, e1, e2⟩, HGx.out _ h.below⟩
          obtain ⟨h1, h2⟩ := hit_at (back := back) (p := q0) S
          have hf49 : f < 49 := Nat.lt_of_lt_of_le S.fN h49
          have ho49 : o < 49 := Nat.lt_of_lt_of_le S.oN h49
          have ht49 : t < 49 := Nat.lt_of_lt_of_le S.tN h49
          have CB := Lib.hid (fun w => specBits f o t hf49 ho49 ht49 w)
          have hmlt := lineM_lt hf49 ho49 ht49
          have hq63 : q0 < 9223372036854775808 := by omega
          have hxor := xor63 (a := q0) (b := lineM f o t) hq63 (by omega)
          have hand := and63 (a := q0) (b := lineM f o t) hq63 (by omega)
          rw [show q0 ^^^ lineM f o t = flipN q0 f o t from rfl] at hxor
          obtain ⟨q1, e1, n1, l1, u1⟩ := pow_nat f hf49
          obtain ⟨q2, e2, n2, l2, u2⟩ := pow_nat o ho49
          obtain ⟨q3, e3, n3, l3, u3⟩ := pow_nat t ht49
          have hor1 := or63 (a := q1) (b := q2) (by omega) (by omega)
          have hw1 : IntKind.i64.wrap (q1 : Int) = (q1 : Int) := IntWalk.i64_in _ (by omega)
          have hw2 : IntKind.i64.wrap (q2 : Int) = (q2 : Int) := IntWalk.i64_in _ (by omega)
          have hw3 : IntKind.i64.wrap (q3 : Int) = (q3 : Int) := IntWalk.i64_in _ (by omega)
          have hbef := and_bef (p := q0) S.fo S.ft S.ot
          have haft := and_aft (p := q0) S.fo S.ft S.ot
          rw [n1, n2] at hbef
          rw [n3] at haft
          have hh : ∀ (x : Nat) (c : Bool), (q0 &&& lineM f o t == x) = c → (((q0 &&& lineM f o t : Nat) : Int) == (x : Int)) = c := fun x c e => by
            rw [← e, Bool.eq_iff_iff, beq_iff_eq, beq_iff_eq]; omega
          obtain ⟨want, hwant⟩ : ∃ x : Nat, (if back = true then q3 else q1 ||| q2) = x := ⟨_, rfl⟩
          obtain ⟨c, hc⟩ : ∃ c, hitL back q0 l = c := ⟨_, rfl⟩
          have heq : (((q0 &&& lineM f o t : Nat) : Int) == (want : Int)) = c := hh _ _ (by
            rw [← hwant, ← hc, h1]
            cases back
            · simpa using hbef
            · simpa using haft)
          obtain ⟨r, hr⟩ : ∃ r, flipN q0 f o t = r := ⟨_, rfl⟩
          rw [hr] at hxor h2
          have HN2 : Hid (∀ l ∈ ls.take (i + 1), hitL back q0 l = true → l ∈ ls.take i ∨ (c = true ∧ (flipL q0 l).toNat = r)) := fun l' hl' hh' => by
            rw [take_one hl, List.mem_append, List.mem_singleton] at hl'
            rcases hl' with hl' | rfl
            · exact .inl hl'
            · exact .inr ⟨by rw [← hc]; exact hh', by rw [h2, Int.toNat_natCast]⟩
          have HRst : Hid (c = true → r ∈ st q0) := fun e => (HSt.out q0 r).2 ⟨l, hlm, by rw [hc]; exact e, by rw [h2, Int.toNat_natCast]⟩
          generalize lineM f o t = mm at *
          obtain ⟨an, han⟩ : ∃ an, q0 &&& mm = an := ⟨_, rfl⟩
          rw [han] at hand heq
          have HEq := Lib.hid heq
          have HQm := Lib.hid (List.mem_of_getElem? HQ0.out)
          clear h1 h2 hbef haft hh hc hr han n1 n2 n3 hl hlm hle S heq
          generalize q1 ||| q2 = orr at *
          go_wp2_with fail
          refine wp_region_script (by kernel_rfl) (by kernel_rfl) ?_
          refine Script.load (i := 0) (v := ?_) rfl (by kernel_rfl) (by kernel_rfl) (fun _ _ _ h => h) (by kernel_rfl) ?_ ?_
          rotate_left
          · (intro wS hSw; obtain ⟨⟨x0, x1, x2⟩, x3⟩ := HCl.out _ (HS.out.later (After.trans (After.drew (After.refl _)) hSw)); go_simp; try with_reducible rfl)
          try simp only [Act.put, List.getElem_toArray, List.getElem_cons_succ, List.getElem_cons_zero, List.setIfInBounds_toArray, List.set_cons_zero, List.set_cons_succ]
          refine Script.load (i := 1) (v := ?_) rfl (by kernel_rfl) (by kernel_rfl) (fun _ _ _ h => h) (by kernel_rfl) ?_ ?_
          rotate_left
          · (intro wS hSw; obtain ⟨⟨x0, x1, x2⟩, x3⟩ := HCl.out _ (HS.out.later (After.trans (After.drew (After.refl _)) hSw)); go_simp; try with_reducible rfl)
          try simp only [Act.put, List.getElem_toArray, List.getElem_cons_succ, List.getElem_cons_zero, List.setIfInBounds_toArray, List.set_cons_zero, List.set_cons_succ]
          refine Script.load (i := 2) (v := ?_) rfl (by kernel_rfl) (by kernel_rfl) (fun _ _ _ h => h) (by kernel_rfl) ?_ ?_
          rotate_left
          · (intro wS hSw; obtain ⟨⟨x0, x1, x2⟩, x3⟩ := HCl.out _ (HS.out.later (After.trans (After.drew (After.refl _)) hSw)); go_simp; try with_reducible rfl)
          try simp only [Act.put, List.getElem_toArray, List.getElem_cons_succ, List.getElem_cons_zero, List.setIfInBounds_toArray, List.set_cons_zero, List.set_cons_succ]
          refine Script.load (i := 3) (v := ?_) rfl (by kernel_rfl) (by kernel_rfl) (fun _ _ _ h => h) (by kernel_rfl) ?_ ?_
          rotate_left
          · (intro wS hSw; obtain ⟨⟨x0, x1, x2⟩, x3⟩ := HCl.out _ (HS.out.later (After.trans (After.drew (After.refl _)) hSw)); go_simp; try with_reducible rfl)
          try simp only [Act.put, List.getElem_toArray, List.getElem_cons_succ, List.getElem_cons_zero, List.setIfInBounds_toArray, List.set_cons_zero, List.set_cons_succ]
          refine Script.load (i := 4) (v := ?_) rfl (by kernel_rfl) (by kernel_rfl) (fun _ _ _ h => h) (by kernel_rfl) ?_ ?_
          rotate_left
          · (intro wS hSw; obtain ⟨⟨x0, x1, x2⟩, x3⟩ := HCl.out _ (HS.out.later (After.trans (After.drew (After.refl _)) hSw)); go_simp; try with_reducible rfl)
          try simp only [Act.put, List.getElem_toArray, List.getElem_cons_succ, List.getElem_cons_zero, List.setIfInBounds_toArray, List.set_cons_zero, List.set_cons_succ]
          refine Script.load (i := 5) (v := ?_) rfl (by kernel_rfl) (by kernel_rfl) (fun _ _ _ h => h) (by kernel_rfl) ?_ ?_
          rotate_left
          · (intro wS hSw; obtain ⟨⟨x0, x1, x2⟩, x3⟩ := HCl.out _ (HS.out.later (After.trans (After.drew (After.refl _)) hSw)); go_simp; try with_reducible rfl)
          try simp only [Act.put, List.getElem_toArray, List.getElem_cons_succ, List.getElem_cons_zero, List.setIfInBounds_toArray, List.set_cons_zero, List.set_cons_succ]
          refine Script.load (i := 6) (v := ?_) rfl (by kernel_rfl) (by kernel_rfl) (fun _ _ _ h => h) (by kernel_rfl) ?_ ?_
          rotate_left
          · (intro wS hSw; obtain ⟨⟨x0, x1, x2⟩, x3⟩ := HCl.out _ (HS.out.later (After.trans (After.drew (After.refl _)) hSw)); go_simp; try with_reducible rfl)
          try simp only [Act.put, List.getElem_toArray, List.getElem_cons_succ, List.getElem_cons_zero, List.setIfInBounds_toArray, List.set_cons_zero, List.set_cons_succ]
          refine Script.load (i := 7) (v := ?_) rfl (by kernel_rfl) (by kernel_rfl) (fun _ _ _ h => h) (by kernel_rfl) ?_ ?_
          rotate_left
          · (intro wS hSw; obtain ⟨⟨x0, x1, x2⟩, x3⟩ := HCl.out _ (HS.out.later (After.trans (After.drew (After.refl _)) hSw)); go_simp; try with_reducible rfl)
          try simp only [Act.put, List.getElem_toArray, List.getElem_cons_succ, List.getElem_cons_zero, List.setIfInBounds_toArray, List.set_cons_zero, List.set_cons_succ]
          refine Script.load (i := 8) (v := ?_) rfl (by kernel_rfl) (by kernel_rfl) (fun _ _ _ h => h) (by kernel_rfl) ?_ ?_
          rotate_left
          · (intro wS hSw; obtain ⟨⟨x0, x1, x2⟩, x3⟩ := HCl.out _ (HS.out.later (After.trans (After.drew (After.refl _)) hSw)); go_simp; try with_reducible rfl)
          try simp only [Act.put, List.getElem_toArray, List.getElem_cons_succ, List.getElem_cons_zero, List.setIfInBounds_toArray, List.set_cons_zero, List.set_cons_succ]
          refine Script.load (i := 9) (v := ?_) rfl (by kernel_rfl) (by kernel_rfl) (fun _ _ _ h => h) (by kernel_rfl) ?_ ?_
          rotate_left
          · (intro wS hSw; obtain ⟨⟨x0, x1, x2⟩, x3⟩ := HCl.out _ (HS.out.later (After.trans (After.drew (After.refl _)) hSw)); go_simp; try with_reducible rfl)
          try simp only [Act.put, List.getElem_toArray, List.getElem_cons_succ, List.getElem_cons_zero, List.setIfInBounds_toArray, List.set_cons_zero, List.set_cons_succ]
          refine Script.load (i := 10) (v := ?_) rfl (by kernel_rfl) (by kernel_rfl) (fun _ _ _ h => h) (by kernel_rfl) ?_ ?_
          rotate_left
          · (intro wS hSw; obtain ⟨⟨x0, x1, x2⟩, x3⟩ := HCl.out _ (HS.out.later (After.trans (After.drew (After.refl _)) hSw)); go_simp; try with_reducible rfl)
          try simp only [Act.put, List.getElem_toArray, List.getElem_cons_succ, List.getElem_cons_zero, List.setIfInBounds_toArray, List.set_cons_zero, List.set_cons_succ]
          refine Script.load (i := 11) (v := ?_) rfl (by kernel_rfl) (by kernel_rfl) (fun _ _ _ h => h) (by kernel_rfl) ?_ ?_
          rotate_left
          · (intro wS hSw; obtain ⟨⟨x0, x1, x2⟩, x3⟩ := HCl.out _ (HS.out.later (After.trans (After.drew (After.refl _)) hSw)); go_simp; try with_reducible rfl)
          try simp only [Act.put, List.getElem_toArray, List.getElem_cons_succ, List.getElem_cons_zero, List.setIfInBounds_toArray, List.set_cons_zero, List.set_cons_succ]
          refine Script.load (i := 12) (v := ?_) rfl (by kernel_rfl) (by kernel_rfl) (fun _ _ _ h => h) (by kernel_rfl) ?_ ?_
          rotate_left
          · (intro wS hSw; obtain ⟨⟨x0, x1, x2⟩, x3⟩ := HCl.out _ (HS.out.later (After.trans (After.drew (After.refl _)) hSw)); go_simp; try with_reducible rfl)
          try simp only [Act.put, List.getElem_toArray, List.getElem_cons_succ, List.getElem_cons_zero, List.setIfInBounds_toArray, List.set_cons_zero, List.set_cons_succ]
          refine Script.load (i := 13) (v := ?_) rfl (by kernel_rfl) (by kernel_rfl) (fun _ _ _ h => h) (by kernel_rfl) ?_ ?_
          rotate_left
          · (intro wS hSw; obtain ⟨⟨x0, x1, x2⟩, x3⟩ := HCl.out _ (HS.out.later (After.trans (After.drew (After.refl _)) hSw)); go_simp; try with_reducible rfl)
          try simp only [Act.put, List.getElem_toArray, List.getElem_cons_succ, List.getElem_cons_zero, List.setIfInBounds_toArray, List.set_cons_zero, List.set_cons_succ]
          refine Script.done (by kernel_rfl) ?_
          intro wD hD hG
          have HS7 := Lib.hid (HS.out.later (After.trans (After.drew (After.refl _)) hD))
          clear hD hG HS
          obtain ⟨⟨x0, x1, x2⟩, x3⟩ := HCl.out _ HS7.out
          cases back
          all_goals
            simp only [Bool.false_eq_true, if_false, if_true] at hwant
            subst hwant
            go_wp2_with fail
            clear x0 x1 x2 x3
            refine wp_region_script (by kernel_rfl) (by kernel_rfl) ?_
            refine Script.load (i := 0) (v := ?_) rfl (by kernel_rfl) (by kernel_rfl) (fun _ _ _ h => h) (by kernel_rfl) ?_ ?_
            rotate_left
            · (intro wS hSw; obtain ⟨⟨x0, x1, x2⟩, x3⟩ := HCl.out _ (HS7.out.later (After.trans (After.drew (After.refl _)) hSw)); have heq := HEq.out; go_simp; try with_reducible rfl)
            try simp only [Act.put, List.getElem_toArray, List.getElem_cons_succ, List.getElem_cons_zero, List.setIfInBounds_toArray, List.set_cons_zero, List.set_cons_succ]
            refine Script.load (i := 1) (v := ?_) rfl (by kernel_rfl) (by kernel_rfl) (fun _ _ _ h => h) (by kernel_rfl) ?_ ?_
            rotate_left
            · (intro wS hSw; obtain ⟨⟨x0, x1, x2⟩, x3⟩ := HCl.out _ (HS7.out.later (After.trans (After.drew (After.refl _)) hSw)); have heq := HEq.out; go_simp; try with_reducible rfl)
            try simp only [Act.put, List.getElem_toArray, List.getElem_cons_succ, List.getElem_cons_zero, List.setIfInBounds_toArray, List.set_cons_zero, List.set_cons_succ]
            refine Script.load (i := 2) (v := ?_) rfl (by kernel_rfl) (by kernel_rfl) (fun _ _ _ h => h) (by kernel_rfl) ?_ ?_
            rotate_left
            · (intro wS hSw; obtain ⟨⟨x0, x1, x2⟩, x3⟩ := HCl.out _ (HS7.out.later (After.trans (After.drew (After.refl _)) hSw)); have heq := HEq.out; go_simp; try with_reducible rfl)
            try simp only [Act.put, List.getElem_toArray, List.getElem_cons_succ, List.getElem_cons_zero, List.setIfInBounds_toArray, List.set_cons_zero, List.set_cons_succ]
            refine Script.load (i := 3) (v := ?_) rfl (by kernel_rfl) (by kernel_rfl) (fun _ _ _ h => h) (by kernel_rfl) ?_ ?_
            rotate_left
            · (intro wS hSw; obtain ⟨⟨x0, x1, x2⟩, x3⟩ := HCl.out _ (HS7.out.later (After.trans (After.drew (After.refl _)) hSw)); have heq := HEq.out; go_simp; try with_reducible rfl)
            try simp only [Act.put, List.getElem_toArray, List.getElem_cons_succ, List.getElem_cons_zero, List.setIfInBounds_toArray, List.set_cons_zero, List.set_cons_succ]
            refine Script.load (i := 4) (v := ?_) rfl (by kernel_rfl) (by kernel_rfl) (fun _ _ _ h => h) (by kernel_rfl) ?_ ?_
            rotate_left
            · (intro wS hSw; obtain ⟨⟨x0, x1, x2⟩, x3⟩ := HCl.out _ (HS7.out.later (After.trans (After.drew (After.refl _)) hSw)); have heq := HEq.out; go_simp; try with_reducible rfl)
            try simp only [Act.put, List.getElem_toArray, List.getElem_cons_succ, List.getElem_cons_zero, List.setIfInBounds_toArray, List.set_cons_zero, List.set_cons_succ]
            refine Script.load (i := 5) (v := ?_) rfl (by kernel_rfl) (by kernel_rfl) (fun _ _ _ h => h) (by kernel_rfl) ?_ ?_
            rotate_left
            · (intro wS hSw; obtain ⟨⟨x0, x1, x2⟩, x3⟩ := HCl.out _ (HS7.out.later (After.trans (After.drew (After.refl _)) hSw)); have heq := HEq.out; go_simp; try with_reducible rfl)
            try simp only [Act.put, List.getElem_toArray, List.getElem_cons_succ, List.getElem_cons_zero, List.setIfInBounds_toArray, List.set_cons_zero, List.set_cons_succ]
            refine Script.load (i := 6) (v := ?_) rfl (by kernel_rfl) (by kernel_rfl) (fun _ _ _ h => h) (by kernel_rfl) ?_ ?_
            rotate_left
            · (intro wS hSw; obtain ⟨⟨x0, x1, x2⟩, x3⟩ := HCl.out _ (HS7.out.later (After.trans (After.drew (After.refl _)) hSw)); have heq := HEq.out; go_simp; try with_reducible rfl)
            try simp only [Act.put, List.getElem_toArray, List.getElem_cons_succ, List.getElem_cons_zero, List.setIfInBounds_toArray, List.set_cons_zero, List.set_cons_succ]
            refine Script.load (i := 7) (v := ?_) rfl (by kernel_rfl) (by kernel_rfl) (fun _ _ _ h => h) (by kernel_rfl) ?_ ?_
            rotate_left
            · (intro wS hSw; obtain ⟨⟨x0, x1, x2⟩, x3⟩ := HCl.out _ (HS7.out.later (After.trans (After.drew (After.refl _)) hSw)); have heq := HEq.out; go_simp; try with_reducible rfl)
            try simp only [Act.put, List.getElem_toArray, List.getElem_cons_succ, List.getElem_cons_zero, List.setIfInBounds_toArray, List.set_cons_zero, List.set_cons_succ]
            refine Script.call (i := 8) (v := ?_) rfl (by kernel_rfl) (by kernel_rfl) (fun _ _ _ h => h) (by kernel_rfl) ?_ ?_
            rotate_left
            · (intro wS hSw K hK; obtain ⟨⟨x0, x1, x2⟩, x3⟩ := HCl.out _ (HS7.out.later (After.trans (After.drew (After.refl _)) hSw)); have heq := HEq.out; go_simp; go_at_call 60; refine (CB.out _).mono ?_; rintro e wc ⟨rfl, hbc⟩; exact hK.out _ hbc)
            try simp only [Act.put, List.getElem_toArray, List.getElem_cons_succ, List.getElem_cons_zero, List.setIfInBounds_toArray, List.set_cons_zero, List.set_cons_succ]
            refine Script.load (i := 9) (v := ?_) rfl (by kernel_rfl) (by kernel_rfl) (fun _ _ _ h => h) (by kernel_rfl) ?_ ?_
            rotate_left
            · (intro wS hSw; obtain ⟨⟨x0, x1, x2⟩, x3⟩ := HCl.out _ (HS7.out.later (After.trans (After.drew (After.refl _)) hSw)); have heq := HEq.out; go_simp; try with_reducible rfl)
            try simp only [Act.put, List.getElem_toArray, List.getElem_cons_succ, List.getElem_cons_zero, List.setIfInBounds_toArray, List.set_cons_zero, List.set_cons_succ]
            refine Script.load (i := 10) (v := ?_) rfl (by kernel_rfl) (by kernel_rfl) (fun _ _ _ h => h) (by kernel_rfl) ?_ ?_
            rotate_left
            · (intro wS hSw; obtain ⟨⟨x0, x1, x2⟩, x3⟩ := HCl.out _ (HS7.out.later (After.trans (After.drew (After.refl _)) hSw)); have heq := HEq.out; go_simp; try with_reducible rfl)
            try simp only [Act.put, List.getElem_toArray, List.getElem_cons_succ, List.getElem_cons_zero, List.setIfInBounds_toArray, List.set_cons_zero, List.set_cons_succ]
            refine Script.load (i := 11) (v := ?_) rfl (by kernel_rfl) (by kernel_rfl) (fun _ _ _ h => h) (by kernel_rfl) ?_ ?_
            rotate_left
            · (intro wS hSw; obtain ⟨⟨x0, x1, x2⟩, x3⟩ := HCl.out _ (HS7.out.later (After.trans (After.drew (After.refl _)) hSw)); have heq := HEq.out; go_simp; try with_reducible rfl)
            try simp only [Act.put, List.getElem_toArray, List.getElem_cons_succ, List.getElem_cons_zero, List.setIfInBounds_toArray, List.set_cons_zero, List.set_cons_succ]
            refine Script.done (by kernel_rfl) ?_
            intro wD hD hG
            have HS8 := Lib.hid (HS7.out.later (After.trans (After.drew (After.refl _)) hD))
            clear hD hG HS7
            cases c
            · go_wp2_with fail
              go_roundw
              case rel => exact ⟨i + 1, T, by omega, by go_num, HT, HD, (fun l' hl' hh' => (HN2.out l' hl' hh').elim (fun h => HE.out l' h hh') (fun h => (by cases h.1))), HS8⟩
              case measure => simp [intOf]; omega
            · have hrst := HRst.out rfl
              have hrM : r < M := HPart.out q0 HQm.out r hrst
              have r0 : (0 : Int) ≤ (r : Int) := by omega
              have r1 : (r : Int) < (M : Int) := by omega
              have HT2 : Hid (∀ r' ∈ T ++ [r], ∃ p ∈ xs, r' ∈ st p) := fun r' h' => by
                rcases List.mem_append.1 h' with h' | h'
                · exact HT.out r' h'
                · rw [List.mem_singleton.1 h']; exact ⟨q0, HQm.out, hrst⟩
              have HD2 : Hid (∀ p ∈ xs.take k, ∀ r' ∈ st p, r' ∈ T ++ [r]) := fun p hp r' hr' => List.mem_append_left _ (HD.out p hp r' hr')
              have HE2 : Hid (∀ l ∈ ls.take (i + 1), hitL _ q0 l = true → (flipL q0 l).toNat ∈ T ++ [r]) := fun l' hl' hh' => (HN2.out l' hl' hh').elim (fun h => List.mem_append_left _ (HE.out l' h hh')) (fun h => by rw [h.2]; simp)
              clear HT HD HE HN2 HRst hrst
              go_wp2_with fail
              refine wp_region_script (by kernel_rfl) (by kernel_rfl) ?_
              refine Script.load (i := 0) (v := ?_) rfl (by kernel_rfl) (by kernel_rfl) (fun _ _ _ h => h) (by kernel_rfl) ?_ ?_
              rotate_left
              · (intro wS hSw; have hF := HS8.out.later (After.trans (After.drew (After.refl _)) hSw); obtain ⟨⟨x0, x1, x2⟩, x3⟩ := HCl.out _ hF; have hmk := hF.mark r hrM; have hfr := hF.marks.frozenAt r; go_simp; try with_reducible rfl)
              try simp only [Act.put, List.getElem_toArray, List.getElem_cons_succ, List.getElem_cons_zero, List.setIfInBounds_toArray, List.set_cons_zero, List.set_cons_succ]
              refine Script.load (i := 1) (v := ?_) rfl (by kernel_rfl) (by kernel_rfl) (fun _ _ _ h => h) (by kernel_rfl) ?_ ?_
              rotate_left
              · (intro wS hSw; have hF := HS8.out.later (After.trans (After.drew (After.refl _)) hSw); obtain ⟨⟨x0, x1, x2⟩, x3⟩ := HCl.out _ hF; have hmk := hF.mark r hrM; have hfr := hF.marks.frozenAt r; go_simp; try with_reducible rfl)
              try simp only [Act.put, List.getElem_toArray, List.getElem_cons_succ, List.getElem_cons_zero, List.setIfInBounds_toArray, List.set_cons_zero, List.set_cons_succ]
              refine Script.load (i := 2) (v := ?_) rfl (by kernel_rfl) (by kernel_rfl) (fun _ _ _ h => h) (by kernel_rfl) ?_ ?_
              rotate_left
              · (intro wS hSw; have hF := HS8.out.later (After.trans (After.drew (After.refl _)) hSw); obtain ⟨⟨x0, x1, x2⟩, x3⟩ := HCl.out _ hF; have hmk := hF.mark r hrM; have hfr := hF.marks.frozenAt r; go_simp; try with_reducible rfl)
              try simp only [Act.put, List.getElem_toArray, List.getElem_cons_succ, List.getElem_cons_zero, List.setIfInBounds_toArray, List.set_cons_zero, List.set_cons_succ]
              refine Script.load (i := 3) (v := ?_) rfl (by kernel_rfl) (by kernel_rfl) (fun _ _ _ h => h) (by kernel_rfl) ?_ ?_
              rotate_left
              · (intro wS hSw; have hF := HS8.out.later (After.trans (After.drew (After.refl _)) hSw); obtain ⟨⟨x0, x1, x2⟩, x3⟩ := HCl.out _ hF; have hmk := hF.mark r hrM; have hfr := hF.marks.frozenAt r; go_simp; try with_reducible rfl)
              try simp only [Act.put, List.getElem_toArray, List.getElem_cons_succ, List.getElem_cons_zero, List.setIfInBounds_toArray, List.set_cons_zero, List.set_cons_succ]
              refine Script.load (i := 4) (v := ?_) rfl (by kernel_rfl) (by kernel_rfl) (fun _ _ _ h => h) (by kernel_rfl) ?_ ?_
              rotate_left
              · (intro wS hSw; have hF := HS8.out.later (After.trans (After.drew (After.refl _)) hSw); obtain ⟨⟨x0, x1, x2⟩, x3⟩ := HCl.out _ hF; have hmk := hF.mark r hrM; have hfr := hF.marks.frozenAt r; go_simp; try with_reducible rfl)
              try simp only [Act.put, List.getElem_toArray, List.getElem_cons_succ, List.getElem_cons_zero, List.setIfInBounds_toArray, List.set_cons_zero, List.set_cons_succ]
              refine Script.load (i := 5) (v := ?_) rfl (by kernel_rfl) (by kernel_rfl) (fun _ _ _ h => h) (by kernel_rfl) ?_ ?_
              rotate_left
              · (intro wS hSw; have hF := HS8.out.later (After.trans (After.drew (After.refl _)) hSw); obtain ⟨⟨x0, x1, x2⟩, x3⟩ := HCl.out _ hF; have hmk := hF.mark r hrM; have hfr := hF.marks.frozenAt r; go_simp; try with_reducible rfl)
              try simp only [Act.put, List.getElem_toArray, List.getElem_cons_succ, List.getElem_cons_zero, List.setIfInBounds_toArray, List.set_cons_zero, List.set_cons_succ]
              refine Script.load (i := 6) (v := ?_) rfl (by kernel_rfl) (by kernel_rfl) (fun _ _ _ h => h) (by kernel_rfl) ?_ ?_
              rotate_left
              · (intro wS hSw; have hF := HS8.out.later (After.trans (After.drew (After.refl _)) hSw); obtain ⟨⟨x0, x1, x2⟩, x3⟩ := HCl.out _ hF; have hmk := hF.mark r hrM; have hfr := hF.marks.frozenAt r; go_simp; try with_reducible rfl)
              try simp only [Act.put, List.getElem_toArray, List.getElem_cons_succ, List.getElem_cons_zero, List.setIfInBounds_toArray, List.set_cons_zero, List.set_cons_succ]
              refine Script.load (i := 7) (v := ?_) rfl (by kernel_rfl) (by kernel_rfl) (fun _ _ _ h => h) (by kernel_rfl) ?_ ?_
              rotate_left
              · (intro wS hSw; have hF := HS8.out.later (After.trans (After.drew (After.refl _)) hSw); obtain ⟨⟨x0, x1, x2⟩, x3⟩ := HCl.out _ hF; have hmk := hF.mark r hrM; have hfr := hF.marks.frozenAt r; go_simp; try with_reducible rfl)
              try simp only [Act.put, List.getElem_toArray, List.getElem_cons_succ, List.getElem_cons_zero, List.setIfInBounds_toArray, List.set_cons_zero, List.set_cons_succ]
              refine Script.load (i := 8) (v := ?_) rfl (by kernel_rfl) (by kernel_rfl) (fun _ _ _ h => h) (by kernel_rfl) ?_ ?_
              rotate_left
              · (intro wS hSw; have hF := HS8.out.later (After.trans (After.drew (After.refl _)) hSw); obtain ⟨⟨x0, x1, x2⟩, x3⟩ := HCl.out _ hF; have hmk := hF.mark r hrM; have hfr := hF.marks.frozenAt r; go_simp; try with_reducible rfl)
              try simp only [Act.put, List.getElem_toArray, List.getElem_cons_succ, List.getElem_cons_zero, List.setIfInBounds_toArray, List.set_cons_zero, List.set_cons_succ]
              refine Script.call (i := 9) (v := ?_) rfl (by kernel_rfl) (by kernel_rfl) (fun _ _ _ h => h) (by kernel_rfl) ?_ ?_
              rotate_left
              · (intro wS hSw K hK; have hF := HS8.out.later (After.trans (After.drew (After.refl _)) hSw); obtain ⟨⟨x0, x1, x2⟩, x3⟩ := HCl.out _ hF; have hmk := hF.mark r hrM; have hfr := hF.marks.frozenAt r; go_simp; go_at_call 60; refine (CB.out _).mono ?_; rintro e wc ⟨rfl, hbc⟩; exact hK.out _ hbc)
              try simp only [Act.put, List.getElem_toArray, List.getElem_cons_succ, List.getElem_cons_zero, List.setIfInBounds_toArray, List.set_cons_zero, List.set_cons_succ]
              refine Script.load (i := 10) (v := ?_) rfl (by kernel_rfl) (by kernel_rfl) (fun _ _ _ h => h) (by kernel_rfl) ?_ ?_
              rotate_left
              · (intro wS hSw; have hF := HS8.out.later (After.trans (After.drew (After.refl _)) hSw); obtain ⟨⟨x0, x1, x2⟩, x3⟩ := HCl.out _ hF; have hmk := hF.mark r hrM; have hfr := hF.marks.frozenAt r; go_simp; try with_reducible rfl)
              try simp only [Act.put, List.getElem_toArray, List.getElem_cons_succ, List.getElem_cons_zero, List.setIfInBounds_toArray, List.set_cons_zero, List.set_cons_succ]
              refine Script.load (i := 11) (v := ?_) rfl (by kernel_rfl) (by kernel_rfl) (fun _ _ _ h => h) (by kernel_rfl) ?_ ?_
              rotate_left
              · (intro wS hSw; have hF := HS8.out.later (After.trans (After.drew (After.refl _)) hSw); obtain ⟨⟨x0, x1, x2⟩, x3⟩ := HCl.out _ hF; have hmk := hF.mark r hrM; have hfr := hF.marks.frozenAt r; go_simp; try with_reducible rfl)
              try simp only [Act.put, List.getElem_toArray, List.getElem_cons_succ, List.getElem_cons_zero, List.setIfInBounds_toArray, List.set_cons_zero, List.set_cons_succ]
              refine Script.last (i := 12) rfl (by kernel_rfl) (by kernel_rfl) (by kernel_rfl) ?_
              intro wO hO hGO K hK; have hSw := hO; have hF := HS8.out.later (After.trans (After.drew (After.refl _)) hSw); obtain ⟨⟨x0, x1, x2⟩, x3⟩ := HCl.out _ hF; have hmk := hF.mark r hrM; have hfr := hF.marks.frozenAt r; go_simp
              clear hSw
              refine hK.out undef _ ?_
              clear hK K
              try simp only [Act.put, List.getElem_toArray, List.getElem_cons_succ, List.getElem_cons_zero, List.setIfInBounds_toArray, List.set_cons_zero, List.set_cons_succ]
              refine Script.done (by kernel_rfl) ?_
              intro wD hD hG
              have HS9 := Lib.hid (((HS8.out.later (After.trans (After.drew (After.refl _)) hO)).set r).later hD)
              clear hO hD hG HS8
              go_wp2_with fail
              go_roundw
              case rel => exact ⟨i + 1, T ++ [r], by omega, by go_num, HT2, HD2, HE2, HS9⟩
              case measure => simp [intOf]; omega
        · obtain rfl : i = nl := by omega
          have hfull : Hid (ls.take i = ls) := List.take_of_length_le (by rw [HNL.out]; exact Nat.le_refl _)
          rw [hfull.out] at HE
          have HD2 : Hid (∀ p ∈ xs.take (k + 1), ∀ r ∈ st p, r ∈ T) := fun p hp r hr => by
            rw [take_one HQ0.out, List.mem_append, List.mem_singleton] at hp
            rcases hp with hp | rfl
            · exact HD.out p hp r hr
            · obtain ⟨l, hl, h1, h2⟩ := (HSt.out p r).1 hr
              rw [← h2]; exact HE.out l hl h1
          go_wp2_with fail
          go_roundw
          case rel => exact ⟨k + 1, T, by omega, by go_num, HT, HD2, HS⟩
          case measure => simp [intOf]; omega
    · obtain rfl : k = n := by omega
      have hfull : Hid (xs.take k = xs) := List.take_of_length_le (by rw [HNn.out]; exact Nat.le_refl _)
      rw [hfull.out] at HD
      have CM := Lib.hid (specMarks hM65 wr HS.out.marks)
      rw [HEnd.out T HT.out HD.out] at CM
      have HBw := Lib.hid HS.out.below
      go_wp2_with fail
      refine CM.out.mono ?_
      rintro e w9 ⟨v, rfl, hh, hb⟩
      have HR := Lib.hid (own_base hh HBw.out.size)
      have HB9 := Lib.hid (HBw.out.trans (hb.mono HBw.out.size))
      clear hh hb
      go_wp2_with fail
      go_ret
      exact ⟨v, rfl, HR.out, HB9.out⟩
end Go.Proofs.Ytgkmapemnlgldaa
