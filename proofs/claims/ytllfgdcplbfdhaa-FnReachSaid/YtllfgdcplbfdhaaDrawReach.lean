/- The drawn starts and goals: l14Start, DrawStart, l21Start and DrawAim of the model give a valid board of at most sixteen places and at most thirteen holes, and a position of it. Of codes of at most 1048576 bytes. -/
import Derived.Test.YtllfgdcplbfdhaaDrawGame
import Derived.Test.YtllfgdcplbfdhaaReachMath
import Derived.Deep.DeepCutAuto
namespace Go.Proofs.Ytllfgdcplbfdhaa
open Go.RowKit
set_option linter.unusedVariables false
set_option linter.unusedSimpArgs false
/-- The cursor, the result's block, what has grown. -/
def HeldT (w0 : World) (a : Option Addr) (len cap p b : Nat) (x y z : Int) (wi w : World) : Prop := HeldPos w0 a len cap p b x y z w ∧ wi.grownBy w (some p)
theorem closed_heldT {w0 wi : World} {a : Option Addr} {len cap p b : Nat} {x y z : Int} : Closed (HeldT w0 a len cap p b x y z wi) := fun _ _ h k => ⟨closed_held _ _ h.1 k, grown_then h.2 k h.2.size⟩
theorem HeldT.set {w0 wi w : World} {a : Option Addr} {len cap p b : Nat} {x y z x' y' z' : Int} (h : HeldT w0 a len cap p b x y z wi w) (h0 : w0.heap.size ≤ b) (hp : ¬ p = b) (hi : wi.heap.size ≤ b) : HeldT w0 a len cap p b x' y' z' wi (set3 w b (.int .i64 x') (.int .i64 y') (.int .i64 z')) :=
  ⟨⟨((h.1.1.set ⟨h0, hp⟩).set ⟨h0, hp⟩).set ⟨h0, hp⟩, row_set3 h.1.2⟩, grown_set_new (grown_set_new (grown_set_new h.2 hi) hi) hi⟩
def StartPost (w0 : World) (a : Option Addr) (len cap p : Nat) (w : World) (e : Ending) (w' : World) : Prop :=
  ∃ (W H : Int) (N z r : Nat), Ok W H N z ∧ N ≤ 16 ∧ (bitsOf N z).length ≤ 13 ∧ Part r z ∧ e = .returned (.tuple #[bd W H z, .int .i64 r]) ∧ Dr w0 a len cap p w' ∧ w.grownBy w' (some p)
theorem ok_43 : Ok 4 3 12 4095 := Ok.rect (N := 12) (by decide) (by decide) (by decide) (by decide) (by decide) (by decide) (by decide)
set_option maxHeartbeats 4000000 in
set_option maxRecDepth 100000 in
theorem startSmall {w0 : World} {a : Option Addr} {len cap p : Nat} (hcode : CodeAt w0 a len) (w : World) (hd : Dr w0 a len cap p w) :
    Calls Try.prog 35 #[.pointer (some ⟨p, 0, none⟩)] w (StartPost w0 a len cap p w) := by
  have HCO := Lib.hid hcode
  have hpw := Dr.lt hd
  have hw0 := hd.2.1.size
  have HD := Lib.hid hd
  clear hcode hd
  go_enter Try.func35, Try.ntmps35
  go_wp2_with fail
  have hB : Below w.heap.size w (w.alloc (.cells #[.int .i64 0, .int .i64 0, .int .i64 0] 25)) := (Below.refl _ _).alloc (Nat.le_refl _) _
  have HT1 : Hid (HeldT w0 a len cap p w.heap.size 0 0 0 w (w.alloc (.cells #[.int .i64 0, .int .i64 0, .int .i64 0] 25))) := ⟨⟨HD.out.below hB, heap_alloc_new w _⟩, grown_then (World.grownBy.refl _ _) hB (Nat.le_refl _)⟩
  clear hB HD
  generalize w.alloc (.cells #[.int .i64 0, .int .i64 0, .int .i64 0] 25) = W1 at *
  refine (small HCO.out _ HT1.out.1.1).mono ?_
  rintro e w2 ⟨W, H, N, z, ho, hN, rfl, hd2, hg⟩
  unfold bd
  have hpb : ¬ w.heap.size = p := by omega
  have hpb' : ¬ p = w.heap.size := by omega
  have hr1 := row_lt HT1.out.1.2
  have HT2 : Hid (HeldT w0 a len cap p w.heap.size 0 0 0 w w2) := ⟨⟨hd2, row_grown HT1.out.1.2 hg hpb⟩, HT1.out.2.trans hg⟩
  have hr2 := row_lt HT2.out.1.2
  have hp2 := Dr.lt hd2
  have HO := Lib.hid ho
  clear hd2 hg HT1 hr1 ho
  have hB3 : Below w2.heap.size w2 (w2.alloc (.cells #[.int .i64 W, .int .i64 H, .int .i64 z] 25)) := (Below.refl _ _).alloc (Nat.le_refl _) _
  have HQ3 : Hid ((w2.alloc (.cells #[.int .i64 W, .int .i64 H, .int .i64 z] 25)).heap[w2.heap.size]? = some (.cells #[.int .i64 W, .int .i64 H, .int .i64 z] 25 (0, 0))) := heap_alloc_new w2 _
  have HT3 := Lib.hid (closed_heldT _ _ HT2.out hB3)
  have hpq : ¬ w2.heap.size = p := by omega
  have hqb : ¬ w2.heap.size = w.heap.size := by omega
  have hbq : ¬ w.heap.size = w2.heap.size := by omega
  have hqw : w.heap.size ≤ w2.heap.size := by omega
  obtain ⟨c0, c1, c2, -, -, -⟩ := row_facts HQ3.out
  have CC := Lib.hid (fun w => specCount HO.out w)
  have CR := Lib.hid (fun w => specRect 4 3 w)
  clear hB3 HT2 hr2
  go_wp2_with fail
  generalize w2.alloc (.cells #[.int .i64 W, .int .i64 H, .int .i64 (z : Int)] 25) = w3 at *
  clear c0 c1 c2
  refine (CC.out _).mono ?_
  rintro e w4 ⟨rfl, hb⟩
  have HT4 := Lib.hid (closed_heldT _ _ HT3.out hb)
  have HQ4 := Lib.hid (closed_row _ _ _ _ HQ3.out hb)
  clear hb HT3 HQ3 CC
  have hq4 := row_lt HQ4.out
  generalize w2.heap.size = q at *
  obtain ⟨n, hn⟩ : ∃ n, (bitsOf N z).length = n := ⟨_, rfl⟩
  rw [hn]
  go_upto_if 9 with fail
  go_cut [] (fun wx => ∃ (W H : Int) (N z : Nat), Hid (Ok W H N z ∧ N ≤ 16 ∧ (bitsOf N z).length ≤ 13) ∧ Hid (wx.heap[q]? = some (.cells #[.int .i64 W, .int .i64 H, .int .i64 z] 25 (0, 0))) ∧ Hid (HeldT w0 a len cap p w.heap.size 0 0 0 w wx))
  case first =>
    by_cases h13 : (13 : Int) < (n : Int)
    · go_wp2_with fail
      refine (CR.out _).mono ?_
      rintro e w5 ⟨rfl, hb⟩
      have HT5 := Lib.hid (closed_heldT _ _ HT4.out hb)
      have HQ5 := Lib.hid (closed_row _ _ _ _ HQ4.out hb)
      rw [show rectZ 4 3 = (4, 3, 4095) by decide]
      unfold bd
      clear hb HT4 HQ4
      obtain ⟨d0, d1, d2, f0, f1, f2⟩ := row_facts HQ5.out
      have HQ6 : Hid ((set3 w5 q (.int .i64 4) (.int .i64 3) (.int .i64 4095)).heap[q]? = some (.cells #[.int .i64 4, .int .i64 3, .int .i64 4095] 25 (0, 0))) := row_set3 HQ5.out
      have hl5 := row_lt HT5.out.1.2
      have HT6 : Hid (HeldT w0 a len cap p w.heap.size 0 0 0 w (set3 w5 q (.int .i64 4) (.int .i64 3) (.int .i64 4095))) :=
        ⟨⟨((HT5.out.1.1.set ⟨by omega, fun e => hpq e.symm⟩).set ⟨by omega, fun e => hpq e.symm⟩).set ⟨by omega, fun e => hpq e.symm⟩, row_set3_other HT5.out.1.2 hbq⟩, grown_set_new (grown_set_new (grown_set_new HT5.out.2 hqw) hqw) hqw⟩
      unfold set3 at HQ6 HT6
      go_wp2_with fail
      go_meet
      exact ⟨4, 3, 12, 4095, ⟨ok_43, by decide, by decide⟩, HQ6, HT6⟩
    · have hn13 : n ≤ 13 := by omega
      go_wp2_with fail
      go_meet
      exact ⟨W, H, N, z, ⟨HO.out, hN, by rw [hn]; exact hn13⟩, HQ4, HT4⟩
  case rest =>
    clear HT4 HQ4 HO hN hn CR
    obtain ⟨W, H, N, z, HO, HQ, HH⟩ := hcut
    have HO' := Lib.hid HO.out.1
    go_wp2_with fail
    refine wp_region_from (fun w' => w'.heap[q]? = some (.cells #[.int .i64 W, .int .i64 H, .int .i64 z] 25 (0, 0))) (HeldT w0 a len cap p w.heap.size 0 0 0 w) (by kernel_rfl) (by kernel_rfl) (closed_row _ _) closed_heldT (closed_row _ _ _ _ HQ.out (After.drew (After.refl _))) (closed_heldT _ _ HH.out (After.drew (After.refl _))) ?_
    refine Script.load (i := 0) (v := ?_) rfl (by kernel_rfl) (by kernel_rfl) (fun _ _ _ h => h) (by kernel_rfl) ?_ ?_
    rotate_left
    · (intro wS hSw; obtain ⟨c0, c1, c2, -, -, -⟩ := row_facts hSw; go_simp; try with_reducible rfl)
    try simp only [Act.put, List.getElem_toArray, List.getElem_cons_succ, List.getElem_cons_zero, List.setIfInBounds_toArray, List.set_cons_zero, List.set_cons_succ]
    refine Script.load (i := 1) (v := ?_) rfl (by kernel_rfl) (by kernel_rfl) (fun _ _ _ h => h) (by kernel_rfl) ?_ ?_
    rotate_left
    · (intro wS hSw; obtain ⟨c0, c1, c2, -, -, -⟩ := row_facts hSw; go_simp; try with_reducible rfl)
    try simp only [Act.put, List.getElem_toArray, List.getElem_cons_succ, List.getElem_cons_zero, List.setIfInBounds_toArray, List.set_cons_zero, List.set_cons_succ]
    refine Script.load (i := 2) (v := ?_) rfl (by kernel_rfl) (by kernel_rfl) (fun _ _ _ h => h) (by kernel_rfl) ?_ ?_
    rotate_left
    · (intro wS hSw; obtain ⟨c0, c1, c2, -, -, -⟩ := row_facts hSw; go_simp; try with_reducible rfl)
    try simp only [Act.put, List.getElem_toArray, List.getElem_cons_succ, List.getElem_cons_zero, List.setIfInBounds_toArray, List.set_cons_zero, List.set_cons_succ]
    refine Script.oneG (i := 3) (fun v w' => ∃ r : Nat, Part r z ∧ v = .int .i64 r ∧ HeldT w0 a len cap p w.heap.size 0 0 0 w w') rfl (by kernel_rfl) (by kernel_rfl) (closed_row _ _) (fun _ _ _ h k => h.imp fun r hr => ⟨hr.1, hr.2.1, closed_heldT _ _ hr.2.2 k⟩) ?_
    intro wO3 hO3 hG3 K hK
    go_simp; go_at_call 61; refine (startPos (cap := cap) (p := p) HCO.out HO'.out _ hG3.1.1).mono ?_; rintro e wc' ⟨r, hr, rfl, hd, hg⟩; refine hK.out _ _ (row_grown hO3 hg hpq) ⟨r, hr, rfl, ⟨hd, row_grown hG3.1.2 hg hpb⟩, hG3.2.trans hg⟩ ?_
    clear hK K
    try simp only [Act.put, List.getElem_toArray, List.getElem_cons_succ, List.getElem_cons_zero, List.setIfInBounds_toArray, List.set_cons_zero, List.set_cons_succ]
    refine Script.oneG (i := 4) (fun _ w' => ∃ r : Nat, HeldT w0 a len cap p w.heap.size W H z w w') rfl (by kernel_rfl) (by kernel_rfl) (closed_row _ _) (fun _ _ _ h k => h.imp fun r hr => closed_heldT _ _ hr k) ?_
    intro wO4 hO4 hG4 K hK
    obtain ⟨r4, -, -, hh4⟩ := hG4; obtain ⟨z0, z1, z2, f0, f1, f2⟩ := row_facts hh4.1.2; go_simp; refine hK.out undef _ (row_set3_other hO4 hqb) ⟨0, hh4.set hw0 hpb' (Nat.le_refl _)⟩ ?_
    clear hK K
    try simp only [Act.put, List.getElem_toArray, List.getElem_cons_succ, List.getElem_cons_zero, List.setIfInBounds_toArray, List.set_cons_zero, List.set_cons_succ]
    refine Script.load (i := 5) (v := ?_) rfl (by kernel_rfl) (by kernel_rfl) (fun _ _ _ h => h) (by kernel_rfl) ?_ ?_
    rotate_left
    · (intro wS hSw; obtain ⟨c0, c1, c2, -, -, -⟩ := row_facts hSw; go_simp; try with_reducible rfl)
    try simp only [Act.put, List.getElem_toArray, List.getElem_cons_succ, List.getElem_cons_zero, List.setIfInBounds_toArray, List.set_cons_zero, List.set_cons_succ]
    refine Script.done (by kernel_rfl) ?_
    intro wD hD hG
    obtain ⟨-, HF⟩ := hG
    obtain ⟨a0, a1, a2, -, -, -⟩ := row_facts HF.1.2
    go_wp2_with fail
    exact bodyPost_ret (v := .tuple #[bd W H z, .int .i64 r]) (by simp [results, Try.results35, go_sem, bd, a0, a1, a2]) rfl ⟨W, H, N, z, r, HO.out.1, HO.out.2.1, HO.out.2.2, hr, rfl, HF.1.1, HF.2⟩
def DrawStartPost (w : World) (e : Ending) (w' : World) : Prop :=
  ∃ (W H : Int) (N z r : Nat), Ok W H N z ∧ N ≤ 16 ∧ (bitsOf N z).length ≤ 13 ∧ Part r z ∧ e = .returned (.tuple #[bd W H z, .int .i64 r]) ∧ Below w.heap.size w w'
set_option maxHeartbeats 2000000 in
set_option maxRecDepth 100000 in
theorem drawStart {a : Option Addr} {len cap : Nat} (w : World) (hcode : CodeAt w a len) :
    Calls Try.prog 11 #[.slice a len cap] w (DrawStartPost w) := by
  have HCO := Lib.hid hcode
  clear hcode
  go_enter Try.func11, Try.ntmps11
  go_wp2_with fail
  have hA : zero3 (w.alloc (.cells #[.int .i64 0, .int .i64 0, .int .i64 0] 25)) w.heap.size := heap_alloc_new w _
  have hB : Below w.heap.size w (w.alloc (.cells #[.int .i64 0, .int .i64 0, .int .i64 0] 25)) := (Below.refl _ _).alloc (Nat.le_refl _) _
  have hS : w.heap.size < (w.alloc (.cells #[.int .i64 0, .int .i64 0, .int .i64 0] 25)).heap.size := by simp
  have HC1 := Lib.hid (HCO.out.below hB)
  have HB := Lib.hid hB
  generalize w.alloc (.cells #[.int .i64 0, .int .i64 0, .int .i64 0] 25) = W1 at *
  refine (curNew _ HC1.out).mono ?_
  rintro e w1 ⟨p, rfl, hd⟩
  have HD := Lib.hid hd
  have hp := hd.1
  have HA1 : Hid (zero3 w1 w.heap.size) := row_later hA hd.2.1 hS
  clear hA hd hB
  go_wp2_with fail
  refine (startSmall (cap := cap) (p := p) HC1.out _ HD.out).mono ?_
  rintro e w2 ⟨W, H, N, z, r, ho, hN, h13, hr, rfl, hd2, hg⟩
  unfold bd
  have hlt1 : w.heap.size < w1.heap.size := Nat.lt_of_lt_of_le hS HD.out.2.1.size
  have HA2 : Hid (zero3 w2 w.heap.size) := (hg.block _ hlt1 (by intro h; injection h; omega)).trans HA1.out
  have HP : Hid (Ok W H N z ∧ N ≤ 16 ∧ (bitsOf N z).length ≤ 13 ∧ Part r z) := ⟨ho, hN, h13, hr⟩
  have HBW : Hid (Below w.heap.size w w2) := HB.out.trans (hd2.2.1.mono HB.out.size)
  have hsz2 := HBW.out.size
  clear hg ho hd2 HA1 HD hN h13 hr
  have hq : (w2.alloc (.cells #[.int .i64 W, .int .i64 H, .int .i64 z] 25)).heap[w2.heap.size]? = some (.cells #[.int .i64 W, .int .i64 H, .int .i64 z] 25 (0, 0)) := heap_alloc_new w2 _
  have hb3 : Below w2.heap.size w2 (w2.alloc (.cells #[.int .i64 W, .int .i64 H, .int .i64 z] 25)) := (Below.refl _ _).alloc (Nat.le_refl _) _
  have HA3 := Lib.hid (row_later HA2.out hb3 (row_lt HA2.out))
  obtain ⟨c0, c1, c2, -, -, -⟩ := row_facts hq
  obtain ⟨d0, d1, d2, f0, f1, f2⟩ := row_facts HA3.out
  have HF : Hid ((set3 (w2.alloc (.cells #[.int .i64 W, .int .i64 H, .int .i64 z] 25)) w.heap.size (.int .i64 W) (.int .i64 H) (.int .i64 z)).heap[w.heap.size]? = some (.cells #[.int .i64 W, .int .i64 H, .int .i64 z] 25 (0, 0))) := row_set3 HA3.out
  have HF2 : Hid (Below w.heap.size w (set3 (w2.alloc (.cells #[.int .i64 W, .int .i64 H, .int .i64 z] 25)) w.heap.size (.int .i64 W) (.int .i64 H) (.int .i64 z))) := set3_below (HBW.out.trans (hb3.mono hsz2)) (Nat.le_refl _)
  obtain ⟨a0, a1, a2, -, -, -⟩ := row_facts HF.out
  unfold set3 at a0 a1 a2 HF2
  go_wp2_with fail
  exact bodyPost_ret (v := .tuple #[bd W H z, .int .i64 r]) (by simp [results, Try.results11, go_sem, bd, a0, a1, a2]) rfl ⟨W, H, N, z, r, HP.out.1, HP.out.2.1, HP.out.2.2.1, HP.out.2.2.2, rfl, HF2.out⟩
/-- The end of a run of jumps is a position again. -/
theorem part_run {W H : Int} {N z r : Nat} {q : Int} {xs : List Ln} (ho : Ok W H N z) (hr : Part r z) (h : runO (doB W H z) r xs = some q) : ∃ t : Nat, q = t ∧ Part t z := by
  have h1 := run_pos (pos_of ho hr) h xs.length (Nat.le_refl _)
  rw [List.take_length, ← run_end h] at h1
  obtain ⟨N', z', p', e1, e2, -, h2⟩ := pos_yes h1
  have e3 : z = z' := by omega
  subst e3
  exact ⟨p', e2, h2⟩
def AimPost (w0 : World) (a : Option Addr) (len cap p : Nat) (w : World) (e : Ending) (w' : World) : Prop :=
  ∃ (W H : Int) (N z r t : Nat), Ok W H N z ∧ N ≤ 16 ∧ (bitsOf N z).length ≤ 10 ∧ Part r z ∧ Part t z ∧ e = .returned (.tuple #[bd W H z, .int .i64 r, .int .i64 t]) ∧ Dr w0 a len cap p w' ∧ w.grownBy w' (some p)
theorem ok_33 : Ok 3 3 9 511 := Ok.rect (N := 9) (by decide) (by decide) (by decide) (by decide) (by decide) (by decide) (by decide)
def DrawAimPost (w : World) (e : Ending) (w' : World) : Prop :=
  ∃ (W H : Int) (N z r t : Nat), Ok W H N z ∧ N ≤ 16 ∧ (bitsOf N z).length ≤ 10 ∧ Part r z ∧ Part t z ∧ e = .returned (.tuple #[bd W H z, .int .i64 r, .int .i64 t]) ∧ Below w.heap.size w w'
end Go.Proofs.Ytllfgdcplbfdhaa
