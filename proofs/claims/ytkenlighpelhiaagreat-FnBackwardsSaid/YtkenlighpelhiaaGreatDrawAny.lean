/- The drawn boards and positions of any ints: l02Any, l04Some at every board, l04Any, l14Any, DrawCanReach of the model. Of codes of at most 1048576 bytes. -/
import Derived.Test.YtkenlighpelhiaaGreatDrawReach
import Derived.Deep.DeepCutAuto
import Derived.Deep.CutBlock
namespace Go.Proofs.YtkenlighpelhiaaGreat
open Go.RowKit
set_option linter.unusedVariables false
set_option linter.unusedSimpArgs false
/- A drawn board of any ints. -/
def pickW : List Int := [0, 1, 7, 8, -1]
def pickZ : List Int := [0, -1, 1, 562949953421312, 9223372036854775807]
theorem pickW_wf : ∀ x ∈ pickW, -9223372036854775808 ≤ x ∧ x ≤ 9223372036854775807 := by decide
theorem pickZ_wf : ∀ x ∈ pickZ, -9223372036854775808 ≤ x ∧ x ≤ 9223372036854775807 := by decide
theorem pickW_cell (w : World) : ∀ k, k < 5 → (w.alloc (.cells (pickW.map (Value.int .i64)).toArray 3)).cell? ⟨w.heap.size, k, none⟩ = some (.int .i64 (pickW.getD k 0)) := by
  intro k hk
  rw [cell_of_row _ _ k _ _ _ (heap_alloc_new w _)]
  match k, hk with
  | 0, _ | 1, _ | 2, _ | 3, _ | 4, _ => rfl
  | k + 5, hk => omega
theorem pickZ_cell (w : World) : ∀ k, k < 5 → (w.alloc (.cells (pickZ.map (Value.int .i64)).toArray 3)).cell? ⟨w.heap.size, k, none⟩ = some (.int .i64 (pickZ.getD k 0)) := by
  intro k hk
  rw [cell_of_row _ _ k _ _ _ (heap_alloc_new w _)]
  match k, hk with
  | 0, _ | 1, _ | 2, _ | 3, _ | 4, _ => rfl
  | k + 5, hk => omega
def AnyPost (w0 : World) (a : Option Addr) (len cap p : Nat) (w : World) (e : Ending) (w' : World) : Prop :=
  ∃ W H Z : Int, (-9223372036854775808 ≤ Z ∧ Z ≤ 9223372036854775807) ∧ e = .returned (.agg #[.int .i64 W, .int .i64 H, .int .i64 Z]) ∧ Dr w0 a len cap p w' ∧ w.grownBy w' (some p)
set_option maxHeartbeats 4000000 in
set_option maxRecDepth 100000 in
theorem anyBoard {w0 : World} {a : Option Addr} {len cap p : Nat} (hcode : CodeAt w0 a len) (w : World) (hd : Dr w0 a len cap p w) :
    Calls Tryz.prog 77 #[.pointer (some ⟨p, 0, none⟩)] w (AnyPost w0 a len cap p w) := by
  have HCO := Lib.hid hcode
  have hpw := Dr.lt hd
  have hw0 := hd.2.1.size
  have HD := Lib.hid hd
  clear hcode hd
  go_enter Tryz.func77, Tryz.ntmps77
  go_wp2_with fail
  have hB : Below w.heap.size w (w.alloc (.cells #[.int .i64 0, .int .i64 0, .int .i64 0] 25)) := (Below.refl _ _).alloc (Nat.le_refl _) _
  have HT1 : Hid (HeldT w0 a len cap p w.heap.size 0 0 0 w (w.alloc (.cells #[.int .i64 0, .int .i64 0, .int .i64 0] 25))) := ⟨⟨HD.out.below hB, heap_alloc_new w _⟩, grown_then (World.grownBy.refl _ _) hB (Nat.le_refl _)⟩
  clear hB HD
  generalize w.alloc (.cells #[.int .i64 0, .int .i64 0, .int .i64 0] 25) = W1 at *
  refine (small HCO.out _ HT1.out.1.1).mono ?_
  rintro e w2 ⟨W, H, N, z, ho, hN, rfl, hd2, hg⟩
  unfold bd
  have hzb := ho.zbig
  have HZ : Hid (-9223372036854775808 ≤ (z : Int) ∧ (z : Int) ≤ 9223372036854775807) := by unfold Hid; omega
  have hpb : ¬ w.heap.size = p := by omega
  have hpb' : ¬ p = w.heap.size := by omega
  have hr1 := row_lt HT1.out.1.2
  have HT2 : Hid (HeldT w0 a len cap p w.heap.size 0 0 0 w w2) := ⟨⟨hd2, row_grown HT1.out.1.2 hg hpb⟩, HT1.out.2.trans hg⟩
  have hr2 := row_lt HT2.out.1.2
  have hp2 := Dr.lt hd2
  clear hd2 hg HT1 hr1 ho hzb
  have hB3 : Below w2.heap.size w2 (w2.alloc (.cells #[.int .i64 W, .int .i64 H, .int .i64 z] 25)) := (Below.refl _ _).alloc (Nat.le_refl _) _
  have HQ3 : Hid ((w2.alloc (.cells #[.int .i64 W, .int .i64 H, .int .i64 z] 25)).heap[w2.heap.size]? = some (.cells #[.int .i64 W, .int .i64 H, .int .i64 z] 25 (0, 0))) := heap_alloc_new w2 _
  have HT3 := Lib.hid (closed_heldT _ _ HT2.out hB3)
  have hpq : ¬ w2.heap.size = p := by omega
  have hqb : ¬ w2.heap.size = w.heap.size := by omega
  have hbq : ¬ w.heap.size = w2.heap.size := by omega
  have hqw : w.heap.size ≤ w2.heap.size := by omega
  clear hB3 HT2 hr2
  go_wp2_with fail
  generalize w2.alloc (.cells #[.int .i64 W, .int .i64 H, .int .i64 (z : Int)] 25) = w3 at *
  refine (below (cap := cap) (p := p) HCO.out 10 _ HT3.out.1.1 (by omega) (by omega)).mono ?_
  rintro e w5 ⟨x, hx, rfl, hd5, hg5⟩
  have HQ5 := Lib.hid (row_grown HQ3.out hg5 hpq)
  have HT5 : Hid (HeldT w0 a len cap p w.heap.size 0 0 0 w w5) := ⟨⟨hd5, row_grown HT3.out.1.2 hg5 hpb⟩, HT3.out.2.trans hg5⟩
  clear hd5 hg5 HQ3 HT3
  generalize w2.heap.size = q at *
  go_upto_block 0 with fail
  go_cut [] (fun wx => ∃ W H Z : Int, (-9223372036854775808 ≤ Z ∧ Z ≤ 9223372036854775807) ∧ Hid (wx.heap[q]? = some (.cells #[.int .i64 W, .int .i64 H, .int .i64 Z] 25 (0, 0))) ∧ Hid (HeldT w0 a len cap p w.heap.size 0 0 0 w wx))
  case first =>
   by_cases h0 : x = 0
   · subst h0
     have hbl : Below w5.heap.size w5 (w5.alloc (.cells (pickW.map (Value.int .i64)).toArray 3)) := (Below.refl _ _).alloc (Nat.le_refl _) _
     have HT6 := Lib.hid (closed_heldT _ _ HT5.out hbl)
     have HQ6 := Lib.hid (closed_row _ _ _ _ HQ5.out hbl)
     have hpb5 := Dr.lt HT5.out.1.1
     have HCC := Lib.hid (pickW_cell w5)
     clear hbl
     go_wp2_with fail
     refine (pickInt (n := 5) HCO.out pickW _ HT6.out.1.1 (by omega) (by omega) rfl (by omega) pickW_wf HCC.out).mono ?_
     rintro e w7 ⟨y, hy0, hy1, rfl, hd7, hg7⟩
     have HQ7 := Lib.hid (row_grown HQ6.out hg7 hpq)
     have HT7 : Hid (HeldT w0 a len cap p w.heap.size 0 0 0 w w7) := ⟨⟨hd7, row_grown HT6.out.1.2 hg7 hpb⟩, HT6.out.2.trans hg7⟩
     have HY := Lib.hid (And.intro hy0 hy1)
     clear hd7 hg7 hy0 hy1 HCC HT6 HQ6
     obtain ⟨d0, d1, d2, f0, f1, f2⟩ := row_facts HQ7.out
     have HQ8 : Hid ((w7.setCell ⟨q, 0, none⟩ (.int .i64 y)).heap[q]? = some (.cells #[.int .i64 y, .int .i64 H, .int .i64 z] 25 (0, 0))) := heap_setCell_same w7 q 0 _ _ _ HQ7.out
     have HT8 : Hid (HeldT w0 a len cap p w.heap.size 0 0 0 w (w7.setCell ⟨q, 0, none⟩ (.int .i64 y))) := ⟨⟨HT7.out.1.1.set ⟨by omega, fun e => hpq e.symm⟩, (heap_setCell_other w7 ⟨q, 0, none⟩ w.heap.size _ hbq).trans HT7.out.1.2⟩, grown_set_new HT7.out.2 hqw⟩
     go_wp2_with fail
     go_meet
     exact ⟨y, H, z, HZ.out, HQ8, HT8⟩
   by_cases h1 : x = 1
   · subst h1
     have hbl : Below w5.heap.size w5 (w5.alloc (.cells (pickZ.map (Value.int .i64)).toArray 3)) := (Below.refl _ _).alloc (Nat.le_refl _) _
     have HT6 := Lib.hid (closed_heldT _ _ HT5.out hbl)
     have HQ6 := Lib.hid (closed_row _ _ _ _ HQ5.out hbl)
     have hpb5 := Dr.lt HT5.out.1.1
     have HCC := Lib.hid (pickZ_cell w5)
     clear hbl
     go_wp2_with fail
     refine (pickInt (n := 5) HCO.out pickZ _ HT6.out.1.1 (by omega) (by omega) rfl (by omega) pickZ_wf HCC.out).mono ?_
     rintro e w7 ⟨y, hy0, hy1, rfl, hd7, hg7⟩
     have HQ7 := Lib.hid (row_grown HQ6.out hg7 hpq)
     have HT7 : Hid (HeldT w0 a len cap p w.heap.size 0 0 0 w w7) := ⟨⟨hd7, row_grown HT6.out.1.2 hg7 hpb⟩, HT6.out.2.trans hg7⟩
     have HY := Lib.hid (And.intro hy0 hy1)
     clear hd7 hg7 hy0 hy1 HCC HT6 HQ6
     obtain ⟨d0, d1, d2, f0, f1, f2⟩ := row_facts HQ7.out
     have HQ8 : Hid ((w7.setCell ⟨q, 2, none⟩ (.int .i64 y)).heap[q]? = some (.cells #[.int .i64 W, .int .i64 H, .int .i64 y] 25 (0, 0))) := heap_setCell_same w7 q 2 _ _ _ HQ7.out
     have HT8 : Hid (HeldT w0 a len cap p w.heap.size 0 0 0 w (w7.setCell ⟨q, 2, none⟩ (.int .i64 y))) := ⟨⟨HT7.out.1.1.set ⟨by omega, fun e => hpq e.symm⟩, (heap_setCell_other w7 ⟨q, 2, none⟩ w.heap.size _ hbq).trans HT7.out.1.2⟩, grown_set_new HT7.out.2 hqw⟩
     go_wp2_with fail
     go_meet
     exact ⟨W, H, y, HY.out, HQ8, HT8⟩
   have e0 : ((x : Int) == 0) = false := by simp; omega
   have e1 : ((x : Int) == 1) = false := by simp; omega
   by_cases h2 : x = 2
   · subst h2
     go_wp2_with fail
     refine (specCross _).mono ?_
     rintro e w7 ⟨rfl, hb⟩
     have HQ7 := Lib.hid (closed_row _ _ _ _ HQ5.out hb)
     have HT7 := Lib.hid (closed_heldT _ _ HT5.out hb)
     unfold bd
     clear hb
     obtain ⟨d0, d1, d2, f0, f1, f2⟩ := row_facts HQ7.out
     have HQ8 : Hid ((set3 w7 q (.int .i64 7) (.int .i64 7) (.int .i64 (crossN 49 : Nat))).heap[q]? = some (.cells #[.int .i64 7, .int .i64 7, .int .i64 (crossN 49 : Nat)] 25 (0, 0))) := row_set3 HQ7.out
     have HT8 : Hid (HeldT w0 a len cap p w.heap.size 0 0 0 w (set3 w7 q (.int .i64 7) (.int .i64 7) (.int .i64 (crossN 49 : Nat)))) :=
        ⟨⟨((HT7.out.1.1.set ⟨by omega, fun e => hpq e.symm⟩).set ⟨by omega, fun e => hpq e.symm⟩).set ⟨by omega, fun e => hpq e.symm⟩, row_set3_other HT7.out.1.2 hbq⟩, grown_set_new (grown_set_new (grown_set_new HT7.out.2 hqw) hqw) hqw⟩
     unfold set3 at HQ8 HT8
     go_wp2_with fail
     go_meet
     exact ⟨7, 7, (crossN 49 : Nat), by decide +kernel, HQ8, HT8⟩
   · have e2 : ((x : Int) == 2) = false := by simp; omega
     go_wp2_with fail
     go_meet
     exact ⟨W, H, z, HZ.out, HQ5, HT5⟩
  case rest =>
    clear HT5 HQ5 hN
    obtain ⟨W, H, Z, hZ, HQ, HH⟩ := hcut
    obtain ⟨d0, d1, d2, -, -, -⟩ := row_facts HQ.out
    obtain ⟨z0, z1, z2, f0, f1, f2⟩ := row_facts HH.out.1.2
    have HF := Lib.hid (HeldT.set (x' := W) (y' := H) (z' := Z) HH.out hw0 hpb' (Nat.le_refl _))
    obtain ⟨a0, a1, a2, -, -, -⟩ := row_facts HF.out.1.2
    unfold set3 at a0 a1 a2 HF
    go_wp2_with fail
    exact bodyPost_ret (v := .agg #[.int .i64 W, .int .i64 H, .int .i64 Z]) (by simp [results, Tryz.results77, go_sem, a0, a1, a2]) rfl ⟨W, H, Z, hZ, rfl, HF.out.1.1, HF.out.2⟩
/-- Some position of a board that is not valid: none of its places is a hole. -/
def SomeAnyPost (w0 : World) (a : Option Addr) (len cap p : Nat) (w : World) (e : Ending) (w' : World) : Prop :=
  ∃ r : Nat, r < 562949953421312 ∧ e = .returned (.int .i64 r) ∧ Dr w0 a len cap p w' ∧ w.grownBy w' (some p)
set_option maxHeartbeats 2000000 in
set_option maxRecDepth 100000 in
theorem someNo {w0 : World} {a : Option Addr} {len cap p : Nat} {W H Z : Int} (h : okB W H Z = false) (w : World) (hd : Dr w0 a len cap p w) :
    Calls Tryz.prog 45 #[.pointer (some ⟨p, 0, none⟩), .agg #[.int .i64 W, .int .i64 H, .int .i64 Z]] w (SomeAnyPost w0 a len cap p w) := by
  have HD := Lib.hid hd
  have C1 := Lib.hid (fun w => specHoles_no h w)
  clear hd h
  go_enter Tryz.func45, Tryz.ntmps45
  go_wp2_with fail
  have hB : Below w.heap.size w (w.alloc (.cells #[.int .i64 W, .int .i64 H, .int .i64 Z] 25)) := (Below.refl _ _).alloc (Nat.le_refl _) _
  have B0 := Lib.hid (box_newT 25 W H Z w)
  have HD1 := Lib.hid (HD.out.below hB)
  have HG1 := Lib.hid (grown_below hB (some p))
  generalize w.alloc (.cells #[.int .i64 W, .int .i64 H, .int .i64 Z] 25) = W1 at *
  obtain ⟨c0, c1, c2, hlt, hbw⟩ := B0.out
  clear hB
  go_wp2_with fail
  refine (C1.out _).mono ?_
  rintro e w1 ⟨v, rfl, hown, hb1⟩
  have HD2 := Lib.hid (HD1.out.below hb1)
  have HG2 := Lib.hid (HG1.out.trans (grown_below hb1 (some p)))
  obtain ⟨ga, gc, rfl⟩ : ∃ ga gc, v = .slice ga 0 gc := by
    rcases Go.Joins.ownsRow_forms hown with ⟨rfl, h0⟩ | ⟨g, cap, rfl⟩
    · exact ⟨_, _, rfl⟩
    · exact ⟨_, _, rfl⟩
  clear hown hb1 B0 c0 c1 c2 hlt hbw HD1 HG1
  go_wp2_with fail
  go_loopw [5, 7] (fun s i wr => s = .int .i64 0 ∧ i = .int .i64 0 ∧ Hid (Dr w0 a len cap p wr) ∧ Hid (w.grownBy wr (some p))) (fun _ _ _ => 0)
  case atStart => exact ⟨rfl, rfl, HD2, HG2⟩
  case round =>
    clear HD2 HG2
    obtain ⟨rfl, rfl, HD3, HG3⟩ := hrel
    go_wp2_with fail
    go_ret
    exact ⟨0, by decide, rfl, HD3.out, HG3.out⟩
theorem someAny {w0 : World} {a : Option Addr} {len cap p : Nat} {W H Z : Int} (hcode : CodeAt w0 a len) (w : World) (hd : Dr w0 a len cap p w) :
    Calls Tryz.prog 45 #[.pointer (some ⟨p, 0, none⟩), .agg #[.int .i64 W, .int .i64 H, .int .i64 Z]] w (SomeAnyPost w0 a len cap p w) := by
  cases h : okB W H Z
  · exact someNo h w hd
  · obtain ⟨N, z, rfl, ho⟩ := ok_of h
    refine (somePos hcode ho w hd).mono ?_
    rintro e w' ⟨r, hr, rfl, hd', hg⟩
    exact ⟨r, hr.big ho, rfl, hd', hg⟩
def pickP (Z : Int) : List Int := [-1, 0, Z, 9223372036854775807]
theorem pickP_wf {Z : Int} (hZ : -9223372036854775808 ≤ Z ∧ Z ≤ 9223372036854775807) : ∀ x ∈ pickP Z, -9223372036854775808 ≤ x ∧ x ≤ 9223372036854775807 := by
  intro x hx
  simp only [pickP, List.mem_cons, List.not_mem_nil, or_false] at hx
  omega
theorem pickP_cell (Z : Int) (w : World) : ∀ k, k < 4 → (w.alloc (.cells ((pickP Z).map (Value.int .i64)).toArray 3)).cell? ⟨w.heap.size, k, none⟩ = some (.int .i64 ((pickP Z).getD k 0)) := by
  intro k hk
  rw [cell_of_row _ _ k _ _ _ (heap_alloc_new w _)]
  match k, hk with
  | 0, _ | 1, _ | 2, _ | 3, _ => rfl
  | k + 4, hk => omega
def AnyPosPost (w0 : World) (a : Option Addr) (len cap p : Nat) (w : World) (e : Ending) (w' : World) : Prop :=
  ∃ W H Z P : Int, P ≤ 9223372036854775807 ∧ e = .returned (.tuple #[.agg #[.int .i64 W, .int .i64 H, .int .i64 Z], .int .i64 P]) ∧ Dr w0 a len cap p w' ∧ w.grownBy w' (some p)
set_option maxHeartbeats 4000000 in
set_option maxRecDepth 100000 in
theorem anyPos {w0 : World} {a : Option Addr} {len cap p : Nat} (hcode : CodeAt w0 a len) (w : World) (hd : Dr w0 a len cap p w) :
    Calls Tryz.prog 59 #[.pointer (some ⟨p, 0, none⟩)] w (AnyPosPost w0 a len cap p w) := by
  have HCO := Lib.hid hcode
  have hpw := Dr.lt hd
  have hw0 := hd.2.1.size
  have HD := Lib.hid hd
  clear hcode hd
  go_enter Tryz.func59, Tryz.ntmps59
  go_wp2_with fail
  have hB : Below w.heap.size w (w.alloc (.cells #[.int .i64 0, .int .i64 0, .int .i64 0] 25)) := (Below.refl _ _).alloc (Nat.le_refl _) _
  have HT1 : Hid (HeldT w0 a len cap p w.heap.size 0 0 0 w (w.alloc (.cells #[.int .i64 0, .int .i64 0, .int .i64 0] 25))) := ⟨⟨HD.out.below hB, heap_alloc_new w _⟩, grown_then (World.grownBy.refl _ _) hB (Nat.le_refl _)⟩
  clear hB HD
  generalize w.alloc (.cells #[.int .i64 0, .int .i64 0, .int .i64 0] 25) = W1 at *
  refine (anyBoard HCO.out _ HT1.out.1.1).mono ?_
  rintro e w2 ⟨W, H, Z, hZ, rfl, hd2, hg⟩
  have HZ := Lib.hid hZ
  have hpb : ¬ w.heap.size = p := by omega
  have hpb' : ¬ p = w.heap.size := by omega
  have hr1 := row_lt HT1.out.1.2
  have HT2 : Hid (HeldT w0 a len cap p w.heap.size 0 0 0 w w2) := ⟨⟨hd2, row_grown HT1.out.1.2 hg hpb⟩, HT1.out.2.trans hg⟩
  have hr2 := row_lt HT2.out.1.2
  have hp2 := Dr.lt hd2
  clear hd2 hg HT1 hr1 hZ
  have hB3 : Below w2.heap.size w2 (w2.alloc (.cells #[.int .i64 W, .int .i64 H, .int .i64 Z] 25)) := (Below.refl _ _).alloc (Nat.le_refl _) _
  have HQ3 : Hid ((w2.alloc (.cells #[.int .i64 W, .int .i64 H, .int .i64 Z] 25)).heap[w2.heap.size]? = some (.cells #[.int .i64 W, .int .i64 H, .int .i64 Z] 25 (0, 0))) := heap_alloc_new w2 _
  have HT3 := Lib.hid (closed_heldT _ _ HT2.out hB3)
  have hpq : ¬ w2.heap.size = p := by omega
  obtain ⟨c0, c1, c2, -, -, -⟩ := row_facts HQ3.out
  clear hB3 HT2 hr2
  go_wp2_with fail
  generalize w2.alloc (.cells #[.int .i64 W, .int .i64 H, .int .i64 Z] 25) = w3 at *
  refine (someAny (cap := cap) (p := p) HCO.out _ HT3.out.1.1).mono ?_
  rintro e w4 ⟨r, hr, rfl, hd4, hg4⟩
  have HQ4 := Lib.hid (row_grown HQ3.out hg4 hpq)
  have HT4 : Hid (HeldT w0 a len cap p w.heap.size 0 0 0 w w4) := ⟨⟨hd4, row_grown HT3.out.1.2 hg4 hpb⟩, HT3.out.2.trans hg4⟩
  clear hd4 hg4 HQ3 HT3 c0 c1 c2
  go_wp2_with fail
  refine (below (cap := cap) (p := p) HCO.out 10 _ HT4.out.1.1 (by omega) (by omega)).mono ?_
  rintro e w5 ⟨x, hx, rfl, hd5, hg5⟩
  have HQ5 := Lib.hid (row_grown HQ4.out hg5 hpq)
  have HT5 : Hid (HeldT w0 a len cap p w.heap.size 0 0 0 w w5) := ⟨⟨hd5, row_grown HT4.out.1.2 hg5 hpb⟩, HT4.out.2.trans hg5⟩
  clear hd5 hg5 HQ4 HT4
  generalize w2.heap.size = q at *
  go_upto_block 0 with fail
  go_cut [5] (fun P wx => ∃ P' : Int, P = .int .i64 P' ∧ P' ≤ 9223372036854775807 ∧ Hid (wx.heap[q]? = some (.cells #[.int .i64 W, .int .i64 H, .int .i64 Z] 25 (0, 0))) ∧ Hid (HeldT w0 a len cap p w.heap.size 0 0 0 w wx))
  case first =>
    by_cases h0 : x = 0
    · subst h0
      have hbl : Below w5.heap.size w5 (w5.alloc (.cells ((pickP Z).map (Value.int .i64)).toArray 3)) := (Below.refl _ _).alloc (Nat.le_refl _) _
      have HT6 := Lib.hid (closed_heldT _ _ HT5.out hbl)
      have HQ6 := Lib.hid (closed_row _ _ _ _ HQ5.out hbl)
      have hpb5 := Dr.lt HT5.out.1.1
      have HCC := Lib.hid (pickP_cell Z w5)
      obtain ⟨d0, d1, d2, -, -, -⟩ := row_facts HQ5.out
      clear hbl
      go_wp2_with fail
      refine (pickInt (n := 4) HCO.out (pickP Z) _ HT6.out.1.1 (by omega) (by omega) rfl (by omega) (pickP_wf HZ.out) HCC.out).mono ?_
      rintro e w7 ⟨y, hy0, hy1, rfl, hd7, hg7⟩
      have HQ7 := Lib.hid (row_grown HQ6.out hg7 hpq)
      have HT7 : Hid (HeldT w0 a len cap p w.heap.size 0 0 0 w w7) := ⟨⟨hd7, row_grown HT6.out.1.2 hg7 hpb⟩, HT6.out.2.trans hg7⟩
      clear hd7 hg7 HCC HT6 HQ6 d0 d1 d2
      go_wp2_with fail
      go_meet
      exact ⟨y, rfl, hy1, HQ7, HT7⟩
    · have e0 : ((x : Int) == 0) = false := by simp; omega
      by_cases h1 : x = 1
      · subst h1
        go_wp2_with fail
        refine (below (cap := cap) (p := p) HCO.out 20 _ HT5.out.1.1 (by omega) (by omega)).mono ?_
        rintro e w7 ⟨y, hy, rfl, hd7, hg7⟩
        have HQ7 := Lib.hid (row_grown HQ5.out hg7 hpq)
        have HT7 : Hid (HeldT w0 a len cap p w.heap.size 0 0 0 w w7) := ⟨⟨hd7, row_grown HT5.out.1.2 hg7 hpb⟩, HT5.out.2.trans hg7⟩
        obtain ⟨qq, hqi, hqn, q1, q2⟩ := pow_nat y (by omega)
        have hwq : IntKind.i64.wrap (qq : Int) = (qq : Int) := IntWalk.i64_in _ (by omega)
        have hxo := xor63 (a := r) (b := qq) (by omega) (by omega)
        have hu : r ^^^ qq < 9223372036854775808 := Nat.xor_lt_two_pow (n := 63) (by omega) (by omega)
        obtain ⟨u, hux⟩ : ∃ u, r ^^^ qq = u := ⟨_, rfl⟩
        rw [hux] at hxo hu
        have y0 : (0 : Int) ≤ (y : Int) := by omega
        clear hd7 hg7 hqn hux
        go_wp2_with fail
        go_meet
        exact ⟨u, rfl, by omega, HQ7, HT7⟩
      · have e1 : ((x : Int) == 1) = false := by simp; omega
        go_wp2_with fail
        go_meet
        exact ⟨r, rfl, by omega, HQ5, HT5⟩
  case rest =>
    clear HT5 HQ5
    obtain ⟨P, rfl, hP, HQ, HH⟩ := hcut
    obtain ⟨d0, d1, d2, -, -, -⟩ := row_facts HQ.out
    obtain ⟨z0, z1, z2, f0, f1, f2⟩ := row_facts HH.out.1.2
    have HF := Lib.hid (HeldT.set (x' := W) (y' := H) (z' := Z) HH.out hw0 hpb' (Nat.le_refl _))
    obtain ⟨a0, a1, a2, -, -, -⟩ := row_facts HF.out.1.2
    unfold set3 at a0 a1 a2 HF
    go_wp2_with fail
    exact bodyPost_ret (v := .tuple #[.agg #[.int .i64 W, .int .i64 H, .int .i64 Z], .int .i64 P]) (by simp [results, Tryz.results59, go_sem, a0, a1, a2]) rfl ⟨W, H, Z, P, hP, rfl, HF.out.1.1, HF.out.2⟩
set_option maxHeartbeats 4000000 in
set_option maxRecDepth 100000 in
theorem any14 {w0 : World} {a : Option Addr} {len cap p : Nat} (hcode : CodeAt w0 a len) (w : World) (hd : Dr w0 a len cap p w) :
    Calls Tryz.prog 35 #[.pointer (some ⟨p, 0, none⟩)] w (AnyPosPost w0 a len cap p w) := by
  have HCO := Lib.hid hcode
  have hpw := Dr.lt hd
  have hw0 := hd.2.1.size
  have HD := Lib.hid hd
  clear hcode hd
  go_enter Tryz.func35, Tryz.ntmps35
  go_wp2_with fail
  have hB : Below w.heap.size w (w.alloc (.cells #[.int .i64 0, .int .i64 0, .int .i64 0] 25)) := (Below.refl _ _).alloc (Nat.le_refl _) _
  have HT0 : Hid (HeldT w0 a len cap p w.heap.size 0 0 0 w (w.alloc (.cells #[.int .i64 0, .int .i64 0, .int .i64 0] 25))) := ⟨⟨HD.out.below hB, heap_alloc_new w _⟩, grown_then (World.grownBy.refl _ _) hB (Nat.le_refl _)⟩
  clear hB HD
  generalize w.alloc (.cells #[.int .i64 0, .int .i64 0, .int .i64 0] 25) = W0 at *
  refine (once_is (cap := cap) (p := p) HCO.out 8 (by omega) (by omega) _ HT0.out.1.1).mono ?_
  rintro e W1 ⟨x, rfl, hd1, hg1⟩
  have hpb : ¬ w.heap.size = p := by omega
  have hpb' : ¬ p = w.heap.size := by omega
  have HT1 : Hid (HeldT w0 a len cap p w.heap.size 0 0 0 w W1) := ⟨⟨hd1, row_grown HT0.out.1.2 hg1 hpb⟩, HT0.out.2.trans hg1⟩
  clear hd1 hg1 HT0
  cases x
  · go_wp2_with fail
    refine (startSmall (cap := cap) (p := p) HCO.out _ HT1.out.1.1).mono ?_
    rintro e w2 ⟨W, H, N, z, r, ho, hN, h13, hr, rfl, hd2, hg⟩
    unfold bd
    have hrb := hr.big ho
    have hr63 : (r : Int) ≤ 9223372036854775807 := by omega
    have HT2 : Hid (HeldT w0 a len cap p w.heap.size 0 0 0 w w2) := ⟨⟨hd2, row_grown HT1.out.1.2 hg hpb⟩, HT1.out.2.trans hg⟩
    clear hd2 hg HT1 ho hN h13 hr hrb
    have hq : (w2.alloc (.cells #[.int .i64 W, .int .i64 H, .int .i64 z] 25)).heap[w2.heap.size]? = some (.cells #[.int .i64 W, .int .i64 H, .int .i64 z] 25 (0, 0)) := heap_alloc_new w2 _
    have hb3 : Below w2.heap.size w2 (w2.alloc (.cells #[.int .i64 W, .int .i64 H, .int .i64 z] 25)) := (Below.refl _ _).alloc (Nat.le_refl _) _
    have HT3 := Lib.hid (closed_heldT _ _ HT2.out hb3)
    clear hb3 HT2
    obtain ⟨d0, d1, d2, -, -, -⟩ := row_facts hq
    obtain ⟨z0, z1, z2, f0, f1, f2⟩ := row_facts HT3.out.1.2
    have HF := Lib.hid (HeldT.set (x' := W) (y' := H) (z' := z) HT3.out hw0 hpb' (Nat.le_refl _))
    obtain ⟨a0, a1, a2, -, -, -⟩ := row_facts HF.out.1.2
    unfold set3 at a0 a1 a2 HF
    go_wp2_with fail
    exact bodyPost_ret (v := .tuple #[.agg #[.int .i64 W, .int .i64 H, .int .i64 z], .int .i64 r]) (by simp [results, Tryz.results35, go_sem, a0, a1, a2]) rfl ⟨W, H, z, r, hr63, rfl, HF.out.1.1, HF.out.2⟩
  · go_wp2_with fail
    refine (anyPos (cap := cap) (p := p) HCO.out _ HT1.out.1.1).mono ?_
    rintro e w2 ⟨W, H, Z, P, hP, rfl, hd2, hg⟩
    have HT2 : Hid (HeldT w0 a len cap p w.heap.size 0 0 0 w w2) := ⟨⟨hd2, row_grown HT1.out.1.2 hg hpb⟩, HT1.out.2.trans hg⟩
    clear hd2 hg HT1
    have hq : (w2.alloc (.cells #[.int .i64 W, .int .i64 H, .int .i64 Z] 25)).heap[w2.heap.size]? = some (.cells #[.int .i64 W, .int .i64 H, .int .i64 Z] 25 (0, 0)) := heap_alloc_new w2 _
    have hb3 : Below w2.heap.size w2 (w2.alloc (.cells #[.int .i64 W, .int .i64 H, .int .i64 Z] 25)) := (Below.refl _ _).alloc (Nat.le_refl _) _
    have HT3 := Lib.hid (closed_heldT _ _ HT2.out hb3)
    clear hb3 HT2
    obtain ⟨d0, d1, d2, -, -, -⟩ := row_facts hq
    obtain ⟨z0, z1, z2, f0, f1, f2⟩ := row_facts HT3.out.1.2
    have HF := Lib.hid (HeldT.set (x' := W) (y' := H) (z' := Z) HT3.out hw0 hpb' (Nat.le_refl _))
    obtain ⟨a0, a1, a2, -, -, -⟩ := row_facts HF.out.1.2
    unfold set3 at a0 a1 a2 HF
    go_wp2_with fail
    exact bodyPost_ret (v := .tuple #[.agg #[.int .i64 W, .int .i64 H, .int .i64 Z], .int .i64 P]) (by simp [results, Tryz.results35, go_sem, a0, a1, a2]) rfl ⟨W, H, Z, P, hP, rfl, HF.out.1.1, HF.out.2⟩
/-- The end of a run of jumps is an int. -/
theorem run_le {W H Z P q : Int} {xs : List Ln} (hP : P ≤ 9223372036854775807) (h : runO (doB W H Z) P xs = some q) : q ≤ 9223372036854775807 := by
  rcases List.eq_nil_or_concat xs with rfl | ⟨ys, l, rfl⟩
  · rw [runO_nil] at h
    obtain rfl := Option.some.inj h
    exact hP
  · rw [List.concat_eq_append, runO_snoc] at h
    cases hr : runO (doB W H Z) P ys with
    | none => rw [hr] at h; cases h
    | some u =>
      rw [hr] at h
      unfold stO at h
      simp only at h
      split at h
      · next hs =>
        obtain ⟨x, hx, hb⟩ := do_big hs
        rw [hx] at h
        obtain rfl := Option.some.inj h
        omega
      · cases h
theorem play_le {W H Z P : Int} {xs : List Ln} (hP : P ≤ 9223372036854775807) : (playB W H Z P xs).1 ≤ 9223372036854775807 := by
  unfold playB allB
  split
  · split
    · next q hq => exact run_le hP hq
    · exact hP
  · exact hP
/-- A list of at most nine lines in new memory. -/
def NineAt (v : Value) (w : World) : Prop := ∃ (xs : List Ln) (n : Nat), xs.length = n ∧ n ≤ 9 ∧ w.ownsRow 0 47 3 v n (lv xs)
theorem closed_nine {v : Value} : Closed (NineAt v) := fun _ _ ⟨xs, n, h1, h2, h4⟩ k => ⟨xs, n, h1, h2, own_below h4 k⟩
def DrawCanPost (w : World) (e : Ending) (w' : World) : Prop :=
  ∃ W H Z P G : Int, P ≤ 9223372036854775807 ∧ G ≤ 9223372036854775807 ∧ e = .returned (.tuple #[.agg #[.int .i64 W, .int .i64 H, .int .i64 Z], .int .i64 P, .int .i64 G]) ∧ Below w.heap.size w w'
end Go.Proofs.YtkenlighpelhiaaGreat
