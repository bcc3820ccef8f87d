/- The drawn starts and goals: l14Start, DrawStart, l21Start and DrawAim of the model give a valid board of at most sixteen places and at most thirteen holes, and a position of it. Of codes of at most 1048576 bytes. -/
import Derived.Test.YtgkmapemnlgldaaDrawGame
import Derived.Test.YtgkmapemnlgldaaReachMath
import Derived.Deep.DeepCutAuto
namespace Go.Proofs.Ytgkmapemnlgldaa
open Go.RowKit
set_option linter.unusedVariables false
set_option linter.unusedSimpArgs false
/-- The cursor, the result's block, what has grown. -/
def HeldT (w0 : World) (a : Option Addr) (len cap p b : Nat) (x y z : Int) (wi w : World) : Prop := HeldPos w0 a len cap p b x y z w ∧ wi.grownBy w (some p)
theorem closed_heldT {w0 wi : World} {a : Option Addr} {len cap p b : Nat} {x y z : Int} : Closed (HeldT w0 a len cap p b x y z wi) := fun _ _ h k => ⟨closed_held _ _ h.1 k, grown_then h.2 k h.2.size⟩
theorem HeldT.set {w0 wi w : World} {a : Option Addr} {len cap p b : Nat} {x y z x' y' z' : Int} (h : HeldT w0 a len cap p b x y z wi w) (h0 : w0.heap.size ≤ b) (hp : ¬ p = b) (hi : wi.heap.size ≤ b) : HeldT w0 a len cap p b x' y' z' wi (set3 w b (.int .i64 x') (.int .i64 y') (.int .i64 z')) :=
  ⟨⟨((h.1.1.set ⟨h0, hp⟩).set ⟨h0, hp⟩).set ⟨h0, hp⟩, row_set3 h.1.2⟩, grown_set_new (grown_set_new (grown_set_new h.2 hi) hi) hi⟩
def StartPost (w0 : World) (a : Option Addr) (len cap p : Nat) (w : World) (e : Ending) (w' : World) : Prop :=
  ∃ (W H : Int) (N z r : Nat), Ok W H N z ∧ N ≤ 16 ∧ (bitsOf N z).length ≤ 13 ∧ Part r z ∧ e = .returned (.tuple #[bd W H z, .int .i64 r]) ∧ Dr w0 a len cap p w' ∧ w.grownBy w' (some p)
theorem ok_43 : Ok 4 3 12 4095 := Ok.rect (N := 12) (by decide) (by decide) (by decide) (by decide) (by decide) (by decide) (by decide)
set_option maxHeartbeats 4000000 in
set_option maxRecDepth 100000 in
theorem startSmall {w0 : World} {a : Option Addr} {len cap p : Nat} (hcode : CodeAt w0 a len) (w : World) (hd : Dr w0 a len cap p w) :
    Calls Try.prog 49 #[.pointer (some ⟨p, 0, none⟩)] w (StartPost w0 a len cap p w) := by
  have HCO := Lib.hid hcode
  have hpw := Dr.lt hd
  have hw0 := hd.2.1.size
  have HD := Lib.hid hd
  clear hcode hd
  go_enter Try.func49, Try.ntmps49
  go_wp2_with fail
  have hB : Below w.heap.size w (w.alloc (.cells #[.int .i64 0, .int .i64 0, .int .i64 0] 25)) := (Below.refl _ _).alloc (Nat.le_refl _) _
  have HT1 : Hid (HeldT w0 a len cap p w.heap.size 0 0 0 w (w.alloc (.cells #[.int .i64 0, .int .i64 0, .int .i64 0] 25))) := ⟨⟨HD.out.below hB, heap_alloc_new w _⟩, grown_then (World.grownBy.refl _ _) hB (Nat.le_refl _)⟩
  clear hB HD
  generalize w.alloc (.cells #[.int .i64 0, .int .i64 0, .int .i64 0] 25) = W1 at *
  refine (small HCO.out _ HT1.out.1.1).mono ?_
  rintro e w2 ⟨W, H, N, z, ho, hN, rfl, hd2, hg⟩
  unfold bd
  have hpb : ¬ w.heap.size = p := by omega
  have hpb' : ¬ p = w.heap.size := by omega
  have hr1 := row_lt HT1.out.1.2
  have HT2 : Hid (HeldT w0 a len cap p w.heap.size 0 0 0 w w2) := ⟨⟨hd2, row_grown HT1.out.1.2 hg hpb⟩, HT1.out.2.trans hg⟩
  have hr2 := row_lt HT2.out.1.2
  have hp2 := Dr.lt hd2
  have HO := Lib.hid ho
  clear hd2 hg HT1 hr1 ho
  have hB3 : Below w2.heap.size w2 (w2.alloc (.cells #[.int .i64 W, .int .i64 H, .int .i64 z] 25)) := (Below.refl _ _).alloc (Nat.le_refl _) _
  have HQ3 : Hid ((w2.alloc (.cells #[.int .i64 W, .int .i64 H, .int .i64 z] 25)).heap[w2.heap.size]? = some (.cells #[.int .i64 W, .int .i64 H, .int .i64 z] 25 (0, 0))) := heap_alloc_new w2 _
  have HT3 := Lib.hid (closed_heldT _ _ HT2.out hB3)
  have hpq : ¬ w2.heap.size = p := by omega
  have hqb : ¬ w2.heap.size = w.heap.size := by omega
  have hbq : ¬ w.heap.size = w2.heap.size := by omega
  have hqw : w.heap.size ≤ w2.heap.size := by omega
  obtain ⟨c0, c1, c2, -, -, -⟩ := row_facts HQ3.out
  have CC := Lib.hid (fun w => specCount HO.out w)
  have CR := Lib.hid (fun w => specRect 4 3 w)
  clear hB3 HT2 hr2
  go_wp2_with fail
  generalize w2.alloc (.cells #[.int .i64 W, .int .i64 H, .int .i64 (z : Int)] 25) = w3 at *
  clear c0 c1 c2
  refine (CC.out _).mono ?_
  rintro e w4 ⟨rfl, hb⟩
  have HT4 := Lib.hid (closed_heldT _ _ HT3.out hb)
  have HQ4 := Lib.hid (closed_row _ _ _ _ HQ3.out hb)
  clear hb HT3 HQ3 CC
  have hq4 := row_lt HQ4.out
  generalize w2.heap.size = q at *
  obtain ⟨n, hn⟩ : ∃ n, (bitsOf N z).length = n := ⟨_, rfl⟩
  rw [hn]
  go_upto_if 9 with fail
  go_cut [] (fun wx => ∃ (W H : Int) (N z : Nat), Hid (Ok W H N z ∧ N ≤ 16 ∧ (bitsOf N z).length ≤ 13) ∧ Hid (wx.heap[q]? = some (.cells #[.int .i64 W, .int .i64 H, .int .i64 z] 25 (0, 0))) ∧ Hid (HeldT w0 a len cap p w.heap.size 0 0 0 w wx))
  case first =>
    by_cases h13 : (13 : Int) < (n : Int)
    · go_wp2_with fail
      refine (CR.out _).mono ?_
      rintro e w5 ⟨rfl, hb⟩
      have HT5 := Lib.hid (closed_heldT _ _ HT4.out hb)
      have HQ5 := Lib.hid (closed_row _ _ _ _ HQ4.out hb)
      rw [show rectZ 4 3 = (4, 3, 4095) by decide]
      unfold bd
      clear hb HT4 HQ4
      obtain ⟨d0, d1, d2, f0, f1, f2⟩ := row_facts HQ5.out
      have HQ6 : Hid ((set3 w5 q (.int .i64 4) (.int .i64 3) (.int .i64 4095)).heap[q]? = some (.cells #[.int .i64 4, .int .i64 3, .int .i64 4095] 25 (0, 0))) := row_set3 HQ5.out
      have hl5 := row_lt HT5.out.1.2
      have HT6 : Hid (HeldT w0 a len cap p w.heap.size 0 0 0 w (set3 w5 q (.int .i64 4) (.int .i64 3) (.int .i64 4095))) :=
        ⟨⟨((HT5.out.1.1.set ⟨by omega, fun e => hpq e.symm⟩).set ⟨by omega, fun e => hpq e.symm⟩).set ⟨by omega, fun e => hpq e.symm⟩, row_set3_other HT5.out.1.2 hbq⟩, grown_set_new (grown_set_new (grown_set_new HT5.out.2 hqw) hqw) hqw⟩
      unfold set3 at HQ6 HT6
      go_wp2_with fail
      go_meet
      exact ⟨4, 3, 12, 4095, ⟨ok_43, by decide, by decide⟩, HQ6, HT6⟩
    · have hn13 : n ≤ 13 := by omega
      go_wp2_with fail
      go_meet
      exact ⟨W, H, N, z, ⟨HO.out, hN, by rw [hn]; exact hn13⟩, HQ4, HT4⟩
  case rest =>
    clear HT4 HQ4 HO hN hn CR
    obtain ⟨W, H, N, z, HO, HQ, HH⟩ := hcut
    have HO' := Lib.hid HO.out.1
    go_wp2_with fail
    refine wp_region_from (fun w' => w'.heap[q]? = some (.cells #[.int .i64 W, .int .i64 H, .int .i64 z] 25 (0, 0))) (HeldT w0 a len cap p w.heap.size 0 0 0 w) (by kernel_rfl) (by kernel_rfl) (closed_row _ _) closed_heldT (closed_row _ _ _ _ HQ.out (After.drew (After.refl _))) (closed_heldT _ _ HH.out (After.drew (After.refl _))) ?_
    refine Script.load (i := 0) (v := ?_) rfl (by kernel_rfl) (by kernel_rfl) (fun _ _ _ h => h) (by kernel_rfl) ?_ ?_
    rotate_left
    · (intro wS hSw; obtain ⟨c0, c1, c2, -, -, -⟩ := row_facts hSw; go_simp; try with_reducible rfl)
    try simp only [Act.put, List.getElem_toArray, List.getElem_cons_succ, List.getElem_cons_zero, List.setIfInBounds_toArray, List.set_cons_zero, List.set_cons_succ]
    refine Script.load (i := 1) (v := ?_) rfl (by kernel_rfl) (by kernel_rfl) (fun _ _ _ h => h) (by kernel_rfl) ?_ ?_
    rotate_left
    · (intro wS hSw; obtain ⟨c0, c1, c2, -, -, -⟩ := row_facts hSw; go_simp; try with_reducible rfl)
    try simp only [Act.put, List.getElem_toArray, List.getElem_cons_succ, List.getElem_cons_zero, List.setIfInBounds_toArray, List.set_cons_zero, List.set_cons_succ]
    refine Script.load (i := 2) (v := ?_) rfl (by kernel_rfl) (by kernel_rfl) (fun _ _ _ h => h) (by kernel_rfl) ?_ ?_
    rotate_left
    · (intro wS hSw; obtain ⟨c0, c1, c2, -, -, -⟩ := row_facts hSw; go_simp; try with_reducible rfl)
    try simp only [Act.put, List.getElem_toArray, List.getElem_cons_succ, List.getElem_cons_zero, List.setIfInBounds_toArray, List.set_cons_zero, List.set_cons_succ]
    refine Script.oneG (i := 3) (fun v w' => ∃ r : Nat, Part r z ∧ v = .int .i64 r ∧ HeldT w0 a len cap p w.heap.size 0 0 0 w w') rfl (by kernel_rfl) (by kernel_rfl) (closed_row _ _) (fun _ _ _ h k => h.imp fun r hr => ⟨hr.1, hr.2.1, closed_heldT _ _ hr.2.2 k⟩) ?_
    intro wO3 hO3 hG3 K hK
    go_simp; go_at_call 52; refine (startPos (cap := cap) (p := p) HCO.out HO'.out _ hG3.1.1).mono ?_; rintro e wc' ⟨r, hr, rfl, hd, hg⟩; refine hK.out _ _ (row_grown hO3 hg hpq) ⟨r, hr, rfl, ⟨hd, row_grown hG3.1.2 hg hpb⟩, hG3.2.trans hg⟩ ?_
    clear hK K
    try simp only [Act.put, List.getElem_toArray, List.getElem_cons_succ, List.getElem_cons_zero, List.setIfInBounds_toArray, List.set_cons_zero, List.set_cons_succ]
    refine Script.oneG (i := 4) (fun _ w' => ∃ r : Nat, HeldT w0 a len cap p w.heap.size W H z w w') rfl (by kernel_rfl) (by kernel_rfl) (closed_row _ _) (fun _ _ _ h k => h.imp fun r hr => closed_heldT _ _ hr k) ?_
    intro wO4 hO4 hG4 K hK
    obtain ⟨r4, -, -, hh4⟩ := hG4; obtain ⟨z0, z1, z2, f0, f1, f2⟩ := row_facts hh4.1.2; go_simp; refine hK.out undef _ (row_set3_other hO4 hqb) ⟨0, hh4.set hw0 hpb' (Nat.le_refl _)⟩ ?_
    clear hK K
    try simp only [Act.put, List.getElem_toArray, List.getElem_cons_succ, List.getElem_cons_zero, List.setIfInBounds_toArray, List.set_cons_zero, List.set_cons_succ]
    refine Script.load (i := 5) (v := ?_) rfl (by kernel_rfl) (by kernel_rfl) (fun _ _ _ h => h) (by kernel_rfl) ?_ ?_
    rotate_left
    · (intro wS hSw; obtain ⟨c0, c1, c2, -, -, -⟩ := row_facts hSw; go_simp; try with_reducible rfl)
    try simp only [Act.put, List.getElem_toArray, List.getElem_cons_succ, List.getElem_cons_zero, List.setIfInBounds_toArray, List.set_cons_zero, List.set_cons_succ]
    refine Script.done (by kernel_rfl) ?_
    intro wD hD hG
    obtain ⟨-, HF⟩ := hG
    obtain ⟨a0, a1, a2, -, -, -⟩ := row_facts HF.1.2
    go_wp2_with fail
    exact bodyPost_ret (v := .tuple #[bd W H z, .int .i64 r]) (by simp [results, Try.results49, go_sem, bd, a0, a1, a2]) rfl ⟨W, H, N, z, r, HO.out.1, HO.out.2.1, HO.out.2.2, hr, rfl, HF.1.1, HF.2⟩
def DrawStartPost (w : World) (e : Ending) (w' : World) : Prop :=
  ∃ (W H : Int) (N z r : Nat), Ok W H N z ∧ N ≤ 16 ∧ (bitsOf N z).length ≤ 13 ∧ Part r z ∧ e = .returned (.tuple #[bd W H z, .int .i64 r]) ∧ Below w.heap.size w w'
/-- The end of a run of jumps is a position again. -/
theorem part_run {W H : Int} {N z r : Nat} {q : Int} {xs : List Ln} (ho : Ok W H N z) (hr : Part r z) (h : runO (doB W H z) r xs = some q) : ∃ t : Nat, q = t ∧ Part t z := by
  have h1 := run_pos (pos_of ho hr) h xs.length (Nat.le_refl _)
  rw [List.take_length, ← run_end h] at h1
  obtain ⟨N', z', p', e1, e2, -, h2⟩ := pos_yes h1
  have e3 : z = z' := by omega
  subst e3
  exact ⟨p', e2, h2⟩
def AimPost (w0 : World) (a : Option Addr) (len cap p : Nat) (w : World) (e : Ending) (w' : World) : Prop :=
  ∃ (W H : Int) (N z r t : Nat), Ok W H N z ∧ N ≤ 16 ∧ (bitsOf N z).length ≤ 10 ∧ Part r z ∧ Part t z ∧ e = .returned (.tuple #[bd W H z, .int .i64 r, .int .i64 t]) ∧ Dr w0 a len cap p w' ∧ w.grownBy w' (some p)
theorem ok_33 : Ok 3 3 9 511 := Ok.rect (N := 9) (by decide) (by decide) (by decide) (by decide) (by decide) (by decide) (by decide)
set_option maxHeartbeats 4000000 in
set_option maxRecDepth 100000 in
theorem startAim {w0 : World} {a : Option Addr} {len cap p : Nat} (hcode : CodeAt w0 a len) (w : World) (hd : Dr w0 a len cap p w) :
    Calls Try.prog 30 #[.pointer (some ⟨p, 0, none⟩)] w (AimPost w0 a len cap p w) := by
  have HCO := Lib.hid hcode
  have hpw := Dr.lt hd
  have hw0 := hd.2.1.size
  have HD := Lib.hid hd
  clear hcode hd
  go_enter Try.func30, Try.ntmps30
  go_wp2_with fail
  have hB : Below w.heap.size w (w.alloc (.cells #[.int .i64 0, .int .i64 0, .int .i64 0] 25)) := (Below.refl _ _).alloc (Nat.le_refl _) _
  have HT1 : Hid (HeldT w0 a len cap p w.heap.size 0 0 0 w (w.alloc (.cells #[.int .i64 0, .int .i64 0, .int .i64 0] 25))) := ⟨⟨HD.out.below hB, heap_alloc_new w _⟩, grown_then (World.grownBy.refl _ _) hB (Nat.le_refl _)⟩
  clear hB HD
  generalize w.alloc (.cells #[.int .i64 0, .int .i64 0, .int .i64 0] 25) = W1 at *
  refine (startSmall (cap := cap) (p := p) HCO.out _ HT1.out.1.1).mono ?_
  rintro e w2 ⟨W, H, N, z, r, ho, hN, h13, hr, rfl, hd2, hg⟩
  unfold bd
  have hpb : ¬ w.heap.size = p := by omega
  have hpb' : ¬ p = w.heap.size := by omega
  have hr1 := row_lt HT1.out.1.2
  have HT2 : Hid (HeldT w0 a len cap p w.heap.size 0 0 0 w w2) := ⟨⟨hd2, row_grown HT1.out.1.2 hg hpb⟩, HT1.out.2.trans hg⟩
  have hr2 := row_lt HT2.out.1.2
  have hp2 := Dr.lt hd2
  have HO := Lib.hid ho
  have HR := Lib.hid hr
  clear hd2 hg HT1 hr1 ho h13 hr
  have hB3 : Below w2.heap.size w2 (w2.alloc (.cells #[.int .i64 W, .int .i64 H, .int .i64 z] 25)) := (Below.refl _ _).alloc (Nat.le_refl _) _
  have HQ3 : Hid ((w2.alloc (.cells #[.int .i64 W, .int .i64 H, .int .i64 z] 25)).heap[w2.heap.size]? = some (.cells #[.int .i64 W, .int .i64 H, .int .i64 z] 25 (0, 0))) := heap_alloc_new w2 _
  have HT3 := Lib.hid (closed_heldT _ _ HT2.out hB3)
  have hpq : ¬ w2.heap.size = p := by omega
  have hqb : ¬ w2.heap.size = w.heap.size := by omega
  have hbq : ¬ w.heap.size = w2.heap.size := by omega
  have hqw : w.heap.size ≤ w2.heap.size := by omega
  obtain ⟨c0, c1, c2, -, -, -⟩ := row_facts HQ3.out
  have CC := Lib.hid (fun w => specCount HO.out w)
  have CR := Lib.hid (fun w => specRect 3 3 w)
  clear hB3 HT2 hr2
  go_wp2_with fail
  generalize w2.alloc (.cells #[.int .i64 W, .int .i64 H, .int .i64 (z : Int)] 25) = w3 at *
  clear c0 c1 c2
  refine (CC.out _).mono ?_
  rintro e w4 ⟨rfl, hb⟩
  have HT4 := Lib.hid (closed_heldT _ _ HT3.out hb)
  have HQ4 := Lib.hid (closed_row _ _ _ _ HQ3.out hb)
  clear hb HT3 HQ3 CC
  have hq4 := row_lt HQ4.out
  generalize w2.heap.size = q at *
  obtain ⟨n, hn⟩ : ∃ n, (bitsOf N z).length = n := ⟨_, rfl⟩
  rw [hn]
  go_upto_if 16 with fail
  go_cut [6] (fun P wx => ∃ (W H : Int) (N z r : Nat), P = .int .i64 r ∧ Hid (Ok W H N z ∧ N ≤ 16 ∧ (bitsOf N z).length ≤ 10 ∧ Part r z) ∧ Hid (wx.heap[q]? = some (.cells #[.int .i64 W, .int .i64 H, .int .i64 z] 25 (0, 0))) ∧ Hid (HeldT w0 a len cap p w.heap.size 0 0 0 w wx))
  case first =>
    by_cases h10 : (10 : Int) < (n : Int)
    · go_wp2_with fail
      refine (CR.out _).mono ?_
      rintro e w5 ⟨rfl, hb⟩
      have HT5 := Lib.hid (closed_heldT _ _ HT4.out hb)
      have HQ5 := Lib.hid (closed_row _ _ _ _ HQ4.out hb)
      rw [show rectZ 3 3 = (3, 3, 511) by decide]
      unfold bd
      clear hb HT4 HQ4
      obtain ⟨d0, d1, d2, f0, f1, f2⟩ := row_facts HQ5.out
      have HQ6 : Hid ((set3 w5 q (.int .i64 3) (.int .i64 3) (.int .i64 511)).heap[q]? = some (.cells #[.int .i64 3, .int .i64 3, .int .i64 511] 25 (0, 0))) := row_set3 HQ5.out
      have hl5 := row_lt HT5.out.1.2
      have HT6 : Hid (HeldT w0 a len cap p w.heap.size 0 0 0 w (set3 w5 q (.int .i64 3) (.int .i64 3) (.int .i64 511))) :=
        ⟨⟨((HT5.out.1.1.set ⟨by omega, fun e => hpq e.symm⟩).set ⟨by omega, fun e => hpq e.symm⟩).set ⟨by omega, fun e => hpq e.symm⟩, row_set3_other HT5.out.1.2 hbq⟩, grown_set_new (grown_set_new (grown_set_new HT5.out.2 hqw) hqw) hqw⟩
      obtain ⟨g0, g1, g2, -, -, -⟩ := row_facts HQ6.out
      unfold set3 at HQ6 HT6 g0 g1 g2
      go_wp2_with fail
      refine (startPos (cap := cap) (p := p) HCO.out ok_33 _ HT6.out.1.1).mono ?_
      rintro e w7 ⟨r, hr, rfl, hd, hg⟩
      have HQ7 := Lib.hid (row_grown HQ6.out hg hpq)
      have HT7 : Hid (HeldT w0 a len cap p w.heap.size 0 0 0 w w7) := ⟨⟨hd, row_grown HT6.out.1.2 hg hpb⟩, HT6.out.2.trans hg⟩
      clear HQ6 HT6 hd hg d0 d1 d2 f0 f1 f2 g0 g1 g2
      go_wp2_with fail
      go_meet
      exact ⟨3, 3, 9, 511, r, rfl, ⟨ok_33, by decide, by decide, hr⟩, HQ7, HT7⟩
    · have hn10 : n ≤ 10 := by omega
      go_wp2_with fail
      go_meet
      exact ⟨W, H, N, z, r, rfl, ⟨HO.out, hN, by rw [hn]; exact hn10, HR.out⟩, HQ4, HT4⟩
  case rest =>
    clear HT4 HQ4 HO hN hn CR HR
    obtain ⟨W, H, N, z, r, rfl, HO, HQ, HH⟩ := hcut
    have HO' := Lib.hid HO.out.1
    have HR' := Lib.hid HO.out.2.2.2
    have hr63 : (r : Int) ≤ 9223372036854775807 := by have := HR'.out.le; have := HO'.out.zbig; omega
    go_wp2_with fail
    refine wp_region_from (fun w' => w'.heap[q]? = some (.cells #[.int .i64 W, .int .i64 H, .int .i64 z] 25 (0, 0))) (HeldT w0 a len cap p w.heap.size 0 0 0 w) (by kernel_rfl) (by kernel_rfl) (closed_row _ _) closed_heldT (closed_row _ _ _ _ HQ.out (After.drew (After.refl _))) (closed_heldT _ _ HH.out (After.drew (After.refl _))) ?_
    refine Script.load (i := 0) (v := ?_) rfl (by kernel_rfl) (by kernel_rfl) (fun _ _ _ h => h) (by kernel_rfl) ?_ ?_
    rotate_left
    · (intro wS hSw; obtain ⟨c0, c1, c2, -, -, -⟩ := row_facts hSw; go_simp; try with_reducible rfl)
    try simp only [Act.put, List.getElem_toArray, List.getElem_cons_succ, List.getElem_cons_zero, List.setIfInBounds_toArray, List.set_cons_zero, List.set_cons_succ]
    refine Script.load (i := 1) (v := ?_) rfl (by kernel_rfl) (by kernel_rfl) (fun _ _ _ h => h) (by kernel_rfl) ?_ ?_
    rotate_left
    · (intro wS hSw; obtain ⟨c0, c1, c2, -, -, -⟩ := row_facts hSw; go_simp; try with_reducible rfl)
    try simp only [Act.put, List.getElem_toArray, List.getElem_cons_succ, List.getElem_cons_zero, List.setIfInBounds_toArray, List.set_cons_zero, List.set_cons_succ]
    refine Script.load (i := 2) (v := ?_) rfl (by kernel_rfl) (by kernel_rfl) (fun _ _ _ h => h) (by kernel_rfl) ?_ ?_
    rotate_left
    · (intro wS hSw; obtain ⟨c0, c1, c2, -, -, -⟩ := row_facts hSw; go_simp; try with_reducible rfl)
    try simp only [Act.put, List.getElem_toArray, List.getElem_cons_succ, List.getElem_cons_zero, List.setIfInBounds_toArray, List.set_cons_zero, List.set_cons_succ]
    refine Script.load (i := 3) (v := ?_) rfl (by kernel_rfl) (by kernel_rfl) (fun _ _ _ h => h) (by kernel_rfl) ?_ ?_
    rotate_left
    · (intro wS hSw; obtain ⟨c0, c1, c2, -, -, -⟩ := row_facts hSw; go_simp; try with_reducible rfl)
    try simp only [Act.put, List.getElem_toArray, List.getElem_cons_succ, List.getElem_cons_zero, List.setIfInBounds_toArray, List.set_cons_zero, List.set_cons_succ]
    refine Script.load (i := 4) (v := ?_) rfl (by kernel_rfl) (by kernel_rfl) (fun _ _ _ h => h) (by kernel_rfl) ?_ ?_
    rotate_left
    · (intro wS hSw; obtain ⟨c0, c1, c2, -, -, -⟩ := row_facts hSw; go_simp; try with_reducible rfl)
    try simp only [Act.put, List.getElem_toArray, List.getElem_cons_succ, List.getElem_cons_zero, List.setIfInBounds_toArray, List.set_cons_zero, List.set_cons_succ]
    refine Script.load (i := 5) (v := ?_) rfl (by kernel_rfl) (by kernel_rfl) (fun _ _ _ h => h) (by kernel_rfl) ?_ ?_
    rotate_left
    · (intro wS hSw; obtain ⟨c0, c1, c2, -, -, -⟩ := row_facts hSw; go_simp; try with_reducible rfl)
    try simp only [Act.put, List.getElem_toArray, List.getElem_cons_succ, List.getElem_cons_zero, List.setIfInBounds_toArray, List.set_cons_zero, List.set_cons_succ]
    refine Script.oneG (i := 6) (fun v w' => (∃ x : Nat, x ≤ 9 ∧ v = .int .i64 x) ∧ HeldT w0 a len cap p w.heap.size 0 0 0 w w') rfl (by kernel_rfl) (by kernel_rfl) (closed_row _ _) (fun _ _ _ h k => ⟨h.1, closed_heldT _ _ h.2 k⟩) ?_
    intro wO6 hO6 hG6 K hK
    go_simp; go_at_call 55; refine (below (cap := cap) (p := p) HCO.out 10 _ hG6.1.1 (by omega) (by omega)).mono ?_; rintro e wc ⟨x, hx, rfl, hd, hg⟩; refine hK.out _ _ (row_grown hO6 hg hpq) ⟨⟨x, by omega, rfl⟩, ⟨hd, row_grown hG6.1.2 hg hpb⟩, hG6.2.trans hg⟩ ?_
    clear hK K
    try simp only [Act.put, List.getElem_toArray, List.getElem_cons_succ, List.getElem_cons_zero, List.setIfInBounds_toArray, List.set_cons_zero, List.set_cons_succ]
    have hx9 : x ≤ 9 := by omega
    refine Script.oneG (i := 7) (fun v w' => GameAt 0 9 W H z r v w' ∧ HeldT w0 a len cap p w.heap.size 0 0 0 w w') rfl (by kernel_rfl) (by kernel_rfl) (closed_row _ _) (fun _ _ _ h k => ⟨closed_game _ _ h.1 k, closed_heldT _ _ h.2 k⟩) ?_
    intro wO7 hO7 hG7 K hK
    go_simp; go_at_call 54; refine (playPos (cap := cap) (p := p) HCO.out hr63 x (by omega) _ hG7.2.1.1).mono ?_; rintro e wd ⟨xs, n', q', v, h1, h2, h3, rfl, h4, hd', hg'⟩; refine hK.out _ _ (row_grown hO7 hg' hpq) ⟨⟨xs, n', q', h1, Nat.le_trans h2 hx9, h3, own_base h4 (Nat.zero_le _)⟩, ⟨hd', row_grown hG7.2.1.2 hg' hpb⟩, hG7.2.2.trans hg'⟩ ?_
    clear hK K
    try simp only [Act.put, List.getElem_toArray, List.getElem_cons_succ, List.getElem_cons_zero, List.setIfInBounds_toArray, List.set_cons_zero, List.set_cons_succ]
    refine Script.oneG (i := 8) (fun v w' => ∃ t : Nat, Part t z ∧ v = .tuple #[.int .i64 t, .bool true] ∧ HeldT w0 a len cap p w.heap.size 0 0 0 w w') rfl (by kernel_rfl) (by kernel_rfl) (closed_row _ _) (fun _ _ _ h k => h.imp fun t ht => ⟨ht.1, ht.2.1, closed_heldT _ _ ht.2.2 k⟩) ?_
    intro wO8 hO8 hG8 K hK
    obtain ⟨ys, m, qq, g1, g2, g3, g4⟩ := hG8.1; obtain ⟨ga, gc, rfl⟩ := lines_form g4; obtain ⟨t, rfl, ht⟩ := part_run HO'.out HR'.out g3; have C8 := specPlay W H z r hr63 ys g1 (by omega) wO8 g4; rw [show playB W H z r ys = ((t : Int), true) from allB_yes (pos_of HO'.out HR'.out) (by omega) g3] at C8; go_simp; go_at_call 53; refine C8.mono ?_; rintro e we ⟨rfl, hb⟩; refine hK.out _ _ (closed_row _ _ _ _ hO8 hb) ⟨t, ht, rfl, closed_heldT _ _ hG8.2 hb⟩ ?_
    clear hK K
    try simp only [Act.put, List.getElem_toArray, List.getElem_cons_succ, List.getElem_cons_zero, List.setIfInBounds_toArray, List.set_cons_zero, List.set_cons_succ]
    refine Script.load (i := 9) (v := ?_) rfl (by kernel_rfl) (by kernel_rfl) (fun _ _ _ h => h) (by kernel_rfl) ?_ ?_
    rotate_left
    · (intro wS hSw; obtain ⟨c0, c1, c2, -, -, -⟩ := row_facts hSw; go_simp; try with_reducible rfl)
    try simp only [Act.put, List.getElem_toArray, List.getElem_cons_succ, List.getElem_cons_zero, List.setIfInBounds_toArray, List.set_cons_zero, List.set_cons_succ]
    refine Script.load (i := 10) (v := ?_) rfl (by kernel_rfl) (by kernel_rfl) (fun _ _ _ h => h) (by kernel_rfl) ?_ ?_
    rotate_left
    · (intro wS hSw; obtain ⟨c0, c1, c2, -, -, -⟩ := row_facts hSw; go_simp; try with_reducible rfl)
    try simp only [Act.put, List.getElem_toArray, List.getElem_cons_succ, List.getElem_cons_zero, List.setIfInBounds_toArray, List.set_cons_zero, List.set_cons_succ]
    refine Script.load (i := 11) (v := ?_) rfl (by kernel_rfl) (by kernel_rfl) (fun _ _ _ h => h) (by kernel_rfl) ?_ ?_
    rotate_left
    · (intro wS hSw; obtain ⟨c0, c1, c2, -, -, -⟩ := row_facts hSw; go_simp; try with_reducible rfl)
    try simp only [Act.put, List.getElem_toArray, List.getElem_cons_succ, List.getElem_cons_zero, List.setIfInBounds_toArray, List.set_cons_zero, List.set_cons_succ]
    refine Script.load (i := 12) (v := ?_) rfl (by kernel_rfl) (by kernel_rfl) (fun _ _ _ h => h) (by kernel_rfl) ?_ ?_
    rotate_left
    · (intro wS hSw; obtain ⟨c0, c1, c2, -, -, -⟩ := row_facts hSw; go_simp; try with_reducible rfl)
    try simp only [Act.put, List.getElem_toArray, List.getElem_cons_succ, List.getElem_cons_zero, List.setIfInBounds_toArray, List.set_cons_zero, List.set_cons_succ]
    refine Script.load (i := 13) (v := ?_) rfl (by kernel_rfl) (by kernel_rfl) (fun _ _ _ h => h) (by kernel_rfl) ?_ ?_
    rotate_left
    · (intro wS hSw; obtain ⟨c0, c1, c2, -, -, -⟩ := row_facts hSw; go_simp; try with_reducible rfl)
    try simp only [Act.put, List.getElem_toArray, List.getElem_cons_succ, List.getElem_cons_zero, List.setIfInBounds_toArray, List.set_cons_zero, List.set_cons_succ]
    refine Script.done (by kernel_rfl) ?_
    intro wD hD hG
    obtain ⟨-, -, -, HF⟩ := hG
    have HQ0 := Lib.hid hD
    have HT0 := Lib.hid HF
    have HPT := Lib.hid ht
    clear hD HF HQ HH
    go_wp2_with fail
    refine (once_is (cap := cap) (p := p) HCO.out 8 (by omega) (by omega) _ HT0.out.1.1).mono ?_
    rintro e w9 ⟨x', rfl, hd9, hg9⟩
    have HQ9 := Lib.hid (row_grown HQ0.out hg9 hpq)
    have HT9 : Hid (HeldT w0 a len cap p w.heap.size 0 0 0 w w9) := ⟨⟨hd9, row_grown HT0.out.1.2 hg9 hpb⟩, HT0.out.2.trans hg9⟩
    clear HT0 HQ0 hd9 hg9
    cases x'
    · obtain ⟨d0, d1, d2, -, -, -⟩ := row_facts HQ9.out
      obtain ⟨z0, z1, z2, f0, f1, f2⟩ := row_facts HT9.out.1.2
      have HF : Hid (HeldT w0 a len cap p w.heap.size W H z w (set3 w9 w.heap.size (.int .i64 W) (.int .i64 H) (.int .i64 z))) := HT9.out.set hw0 hpb' (Nat.le_refl _)
      obtain ⟨a0, a1, a2, -, -, -⟩ := row_facts HF.out.1.2
      unfold set3 at a0 a1 a2 HF
      go_wp2_with fail
      exact bodyPost_ret (v := .tuple #[bd W H z, .int .i64 r, .int .i64 t]) (by simp [results, Try.results30, go_sem, bd, a0, a1, a2]) rfl ⟨W, H, N, z, r, t, HO.out.1, HO.out.2.1, HO.out.2.2.1, HO.out.2.2.2, HPT.out, rfl, HF.out.1.1, HF.out.2⟩
    · obtain ⟨d0, d1, d2, -, -, -⟩ := row_facts HQ9.out
      go_wp2_with fail
      refine (somePos (cap := cap) (p := p) HCO.out HO'.out _ HT9.out.1.1).mono ?_
      rintro e w8 ⟨u, hu, rfl, hd8, hg8⟩
      have HQ8 := Lib.hid (row_grown HQ9.out hg8 hpq)
      have HT8 : Hid (HeldT w0 a len cap p w.heap.size 0 0 0 w w8) := ⟨⟨hd8, row_grown HT9.out.1.2 hg8 hpb⟩, HT9.out.2.trans hg8⟩
      clear HQ9 HT9 hd8 hg8 d0 d1 d2
      obtain ⟨d0, d1, d2, -, -, -⟩ := row_facts HQ8.out
      obtain ⟨z0, z1, z2, f0, f1, f2⟩ := row_facts HT8.out.1.2
      have HF : Hid (HeldT w0 a len cap p w.heap.size W H z w (set3 w8 w.heap.size (.int .i64 W) (.int .i64 H) (.int .i64 z))) := HT8.out.set hw0 hpb' (Nat.le_refl _)
      obtain ⟨a0, a1, a2, -, -, -⟩ := row_facts HF.out.1.2
      unfold set3 at a0 a1 a2 HF
      go_wp2_with fail
      exact bodyPost_ret (v := .tuple #[bd W H z, .int .i64 r, .int .i64 u]) (by simp [results, Try.results30, go_sem, bd, a0, a1, a2]) rfl ⟨W, H, N, z, r, u, HO.out.1, HO.out.2.1, HO.out.2.2.1, HO.out.2.2.2, hu, rfl, HF.out.1.1, HF.out.2⟩
def DrawAimPost (w : World) (e : Ending) (w' : World) : Prop :=
  ∃ (W H : Int) (N z r t : Nat), Ok W H N z ∧ N ≤ 16 ∧ (bitsOf N z).length ≤ 10 ∧ Part r z ∧ Part t z ∧ e = .returned (.tuple #[bd W H z, .int .i64 r, .int .i64 t]) ∧ Below w.heap.size w w'
set_option maxHeartbeats 2000000 in
set_option maxRecDepth 100000 in
theorem drawAim {a : Option Addr} {len cap : Nat} (w : World) (hcode : CodeAt w a len) :
    Calls Try.prog 10 #[.slice a len cap] w (DrawAimPost w) := by
  have HCO := Lib.hid hcode
  clear hcode
  go_enter Try.func10, Try.ntmps10
  go_wp2_with fail
  have hA : zero3 (w.alloc (.cells #[.int .i64 0, .int .i64 0, .int .i64 0] 25)) w.heap.size := heap_alloc_new w _
  have hB : Below w.heap.size w (w.alloc (.cells #[.int .i64 0, .int .i64 0, .int .i64 0] 25)) := (Below.refl _ _).alloc (Nat.le_refl _) _
  have hS : w.heap.size < (w.alloc (.cells #[.int .i64 0, .int .i64 0, .int .i64 0] 25)).heap.size := by simp
  have HC1 := Lib.hid (HCO.out.below hB)
  have HB := Lib.hid hB
  generalize w.alloc (.cells #[.int .i64 0, .int .i64 0, .int .i64 0] 25) = W1 at *
  refine (curNew _ HC1.out).mono ?_
  rintro e w1 ⟨p, rfl, hd⟩
  have HD := Lib.hid hd
  have hp := hd.1
  have HA1 : Hid (zero3 w1 w.heap.size) := row_later hA hd.2.1 hS
  clear hA hd hB
  go_wp2_with fail
  refine (startAim (cap := cap) (p := p) HC1.out _ HD.out).mono ?_
  rintro e w2 ⟨W, H, N, z, r, t, ho, hN, h10, hr, ht, rfl, hd2, hg⟩
  unfold bd
  have hlt1 : w.heap.size < w1.heap.size := Nat.lt_of_lt_of_le hS HD.out.2.1.size
  have HA2 : Hid (zero3 w2 w.heap.size) := (hg.block _ hlt1 (by intro h; injection h; omega)).trans HA1.out
  have HP : Hid (Ok W H N z ∧ N ≤ 16 ∧ (bitsOf N z).length ≤ 10 ∧ Part r z ∧ Part t z) := ⟨ho, hN, h10, hr, ht⟩
  have HBW : Hid (Below w.heap.size w w2) := HB.out.trans (hd2.2.1.mono HB.out.size)
  have hsz2 := HBW.out.size
  clear hg ho hd2 HA1 HD hN h10 hr ht
  have hq : (w2.alloc (.cells #[.int .i64 W, .int .i64 H, .int .i64 z] 25)).heap[w2.heap.size]? = some (.cells #[.int .i64 W, .int .i64 H, .int .i64 z] 25 (0, 0)) := heap_alloc_new w2 _
  have hb3 : Below w2.heap.size w2 (w2.alloc (.cells #[.int .i64 W, .int .i64 H, .int .i64 z] 25)) := (Below.refl _ _).alloc (Nat.le_refl _) _
  have HA3 := Lib.hid (row_later HA2.out hb3 (row_lt HA2.out))
  obtain ⟨c0, c1, c2, -, -, -⟩ := row_facts hq
  obtain ⟨d0, d1, d2, f0, f1, f2⟩ := row_facts HA3.out
  have HF : Hid ((set3 (w2.alloc (.cells #[.int .i64 W, .int .i64 H, .int .i64 z] 25)) w.heap.size (.int .i64 W) (.int .i64 H) (.int .i64 z)).heap[w.heap.size]? = some (.cells #[.int .i64 W, .int .i64 H, .int .i64 z] 25 (0, 0))) := row_set3 HA3.out
  have HF2 : Hid (Below w.heap.size w (set3 (w2.alloc (.cells #[.int .i64 W, .int .i64 H, .int .i64 z] 25)) w.heap.size (.int .i64 W) (.int .i64 H) (.int .i64 z))) := set3_below (HBW.out.trans (hb3.mono hsz2)) (Nat.le_refl _)
  obtain ⟨a0, a1, a2, -, -, -⟩ := row_facts HF.out
  unfold set3 at a0 a1 a2 HF2
  go_wp2_with fail
  exact bodyPost_ret (v := .tuple #[bd W H z, .int .i64 r, .int .i64 t]) (by simp [results, Try.results10, go_sem, bd, a0, a1, a2]) rfl ⟨W, H, N, z, r, t, HP.out.1, HP.out.2.1, HP.out.2.2.1, HP.out.2.2.2.1, HP.out.2.2.2.2, rfl, HF2.out⟩
end Go.Proofs.Ytgkmapemnlgldaa
