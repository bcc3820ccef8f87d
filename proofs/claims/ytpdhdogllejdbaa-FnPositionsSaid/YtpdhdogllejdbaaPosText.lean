/- PositionText of the program and of the model: for every board and every position of 64 bits both return the same rows (textOf), in new memory. -/
import Derived.Test.YtpdhdogllejdbaaPegsAll
import Derived.Test.YtpdhdogllejdbaaBoards
import Derived.Test.YtpdhdogllejdbaaRowsStr
namespace Go.Proofs.Ytpdhdogllejdbaa
open Go.RowKit
set_option linter.unusedSimpArgs false
theorem infoByte : (Try.prog.info? 5).map (fun i => (i.zero, i.size, i.bytes)) = some (some (.int .u8 0), 1, 1) := by kernel_rfl
theorem infoText : (Try.prog.info? 9).map (fun i => (i.zero, i.size, i.bytes)) = some (some (.string ⟨#[]⟩), 1, 16) := by kernel_rfl
def rowsT (z p a n : Nat) : List ByteArray := (List.range n).map fun y => bs (signs z p (y * a) a)
theorem rowsT_length (z p a n : Nat) : (rowsT z p a n).length = n := by simp [rowsT]
theorem rowsT_succ (z p a n : Nat) : rowsT z p a (n + 1) = rowsT z p a n ++ [bs (signs z p (n * a) a)] := by simp [rowsT, List.range_succ]
theorem rowsT_get {z p a n y : Nat} (h : y < n) : (rowsT z p a n)[y]? = some (bs (signs z p (y * a) a)) := by simp [rowsT, h]
/-- The text of a position; none of what is none. -/
def textOf (W H Z P : Int) : List ByteArray := if posB W H Z P = true then rowsT Z.toNat P.toNat W.toNat H.toNat else []
/-- It returns a list of strings in new memory. -/
def OwnStrs (xs : List ByteArray) (w : World) (e : Ending) (w' : World) : Prop :=
  ∃ v, e = .returned v ∧ w'.ownsRow w.heap.size 9 1 v xs.length (xs.map Value.string) ∧ Below w.heap.size w w'
/-- A valid board in natural numbers. -/
structure OkN (a b N z : Nat) : Prop where
  ok : Ok a b N z
  ab : a * b = N
  a1 : 1 ≤ a
  a7 : a ≤ 7
  b1 : 1 ≤ b
  b7 : b ≤ 7
theorem Ok.nats {W H : Int} {N z : Nat} (h : Ok W H N z) : ∃ a b : Nat, W = a ∧ H = b ∧ OkN a b N z := by
  obtain ⟨a, rfl⟩ := Int.eq_ofNat_of_zero_le (show 0 ≤ W by have := h.w1; omega)
  obtain ⟨b, rfl⟩ := Int.eq_ofNat_of_zero_le (show 0 ≤ H by have := h.h1; omega)
  have h1 := h.w1; have h2 := h.w7; have h3 := h.h1; have h4 := h.h7
  have h5 := h.wh
  exact ⟨a, b, rfl, rfl, h, by rw [← Int.natCast_mul] at h5; omega, by omega, by omega, by omega, by omega⟩
theorem idx_lt {a b x y : Nat} (hx : x < a) (hy : y < b) : y * a + x < a * b := by
  have : (y + 1) * a ≤ b * a := Nat.mul_le_mul_right a hy
  rw [Nat.add_mul, Nat.one_mul, Nat.mul_comm b a] at this
  omega
set_option maxRecDepth 100000 in
theorem implSign (W H : Int) (z p k : Nat) (hk : k < 49) (w : World) : Calls Try.prog 89 #[.agg #[.int .i64 W, .int .i64 H, .int .i64 z], .int .i64 p, .int .i64 k] w fun e w' => e = .returned (.int .u8 ((sign z p k).toNat : Int)) ∧ Below w.heap.size w w' := by
  have C1 := Lib.hid (fun w => implBit W H z k w hk)
  have C2 := Lib.hid (fun w => isPeg p k hk w)
  cases hz : bit z k
  · have E : Hid (((sign z p k).toNat : Int) = 32) := by unfold Hid sign; rw [hz]; rfl
    rw [hz] at C1
    clear hz
    go_enter Try.func89, Try.ntmps89
    go_wp2_with fail
    have B0 := Lib.hid (box_new W H z w)
    generalize w.alloc (.cells #[.int .i64 W, .int .i64 H, .int .i64 z] 25) = W1 at *
    refine (C1.out _).mono ?_
    rintro e w1 ⟨rfl, hb⟩
    have B1 := Lib.hid (B0.out.later hb)
    clear hb B0
    go_wp2_with fail
    go_ret
    exact ⟨ret_int E.out.symm, B1.out.2.2.2.2⟩
  · cases hp : bit p k
    all_goals
      first
      | have E : Hid (((sign z p k).toNat : Int) = 46) := by unfold Hid sign; rw [hz, hp]; rfl
      | have E : Hid (((sign z p k).toNat : Int) = 111) := by unfold Hid sign; rw [hz, hp]; rfl
      rw [hz] at C1
      rw [hp] at C2
      clear hz hp
      go_enter Try.func89, Try.ntmps89
      go_wp2_with fail
      have B0 := Lib.hid (box_new W H z w)
      generalize w.alloc (.cells #[.int .i64 W, .int .i64 H, .int .i64 z] 25) = W1 at *
      refine (C1.out _).mono ?_
      rintro e w1 ⟨rfl, hb⟩
      have B1 := Lib.hid (B0.out.later hb)
      clear hb B0
      go_wp2_with fail
      refine (C2.out _).mono ?_
      rintro e w2 ⟨rfl, rfl⟩
      go_wp2_with fail
      go_ret
      exact ⟨ret_int E.out.symm, B1.out.2.2.2.2⟩
set_option maxRecDepth 100000 in
theorem implIndex (a : Nat) (H : Int) (z x y m k : Nat) (hm : y * a = m) (hk : m + x = k) (hk49 : k < 49) (w : World) : Calls Try.prog 90 #[.agg #[.int .i64 a, .int .i64 H, .int .i64 z], .int .i64 x, .int .i64 y] w fun e w' => e = .returned (.int .i64 k) ∧ Below w.heap.size w w' := by
  have hm' : (y : Int) * (a : Int) = (m : Int) := by rw [← Int.natCast_mul, hm]
  have hk' : (m : Int) + (x : Int) = (k : Int) := by omega
  clear hm
  go_enter Try.func90, Try.ntmps90
  go_wp2_with fail
  go_ret
  exact ⟨rfl, (Below.refl _ _).alloc (Nat.le_refl _) _⟩
theorem implText_no {W H Z P : Int} (hP : P ≤ 9223372036854775807) (h : posB W H Z P = false) (w : World) : Calls Try.prog 27 #[.agg #[.int .i64 W, .int .i64 H, .int .i64 Z], .int .i64 P] w (OwnStrs [] w) := by
  have C1 := Lib.hid (implPos_is hP h)
  clear h hP
  go_enter Try.func27, Try.ntmps27
  go_wp2_with fail
  have B0 := Lib.hid (box_new W H Z w)
  generalize w.alloc (.cells #[.int .i64 W, .int .i64 H, .int .i64 Z] 25) = W1 at *
  refine (C1.out _).mono ?_
  rintro e w1 ⟨rfl, hb⟩
  have B1 := Lib.hid (B0.out.later hb)
  have hp : Hid (OwnStrs [] w (.returned (.slice none 0 0)) w1) := ⟨_, rfl, World.ownsRow_nil _ _ _ _, B1.out.2.2.2.2⟩
  go_wp2_with fail
  go_ret
  exact hp.out
/-- The rows of the text and the row under way, each owned, apart by their types. -/
def Rows2 (B : Nat) (vs : Value) (ts : List ByteArray) (vr : Value) (cs : List UInt8) (w : World) : Prop :=
  w.ownsRow B 9 1 vs ts.length (ts.map Value.string) ∧ w.ownsRow B 5 1 vr cs.length ((nums cs).map (Value.int .u8))
theorem closed_rows2 {B : Nat} {vs : Value} {ts : List ByteArray} {vr : Value} {cs : List UInt8} : Closed (Rows2 B vs ts vr cs) := fun _ _ h k => ⟨own_below h.1 k, own_below h.2 k⟩
theorem nums_snoc (cs : List UInt8) (c : UInt8) : (nums (cs ++ [c])).map (Value.int .u8) = (nums cs).map (Value.int .u8) ++ [Value.int .u8 (c.toNat : Int)] := by simp [nums]
set_option maxHeartbeats 2000000 in
set_option maxRecDepth 100000 in
theorem implText_yes {a b N z p : Nat} (ho : OkN a b N z) (h : Part p z) (w : World) : Calls Try.prog 27 #[.agg #[.int .i64 a, .int .i64 b, .int .i64 z], .int .i64 p] w (OwnStrs (rowsT z p a b) w) := by
  have hp := h.big ho.ok
  have C1 := Lib.hid (implPos_is (b := true) (P := p) (by omega) (pos_of ho.ok h))
  have hN := ho.ok.n49
  have hab := ho.ab
  have ha1 := ho.a1; have ha7 := ho.a7; have hb1 := ho.b1; have hb7 := ho.b7
  have C2 := Lib.hid (fun k w (hk : k < 49) => implSign a b z p k hk w)
  have C3 := Lib.hid (fun x y m k w (hm : y * a = m) (hk : m + x = k) (hk49 : k < 49) => implIndex a b z x y m k hm hk hk49 w)
  obtain ⟨i0, hi, hz0, hz1, hz2⟩ := info_parts infoText
  obtain ⟨i1, hj, hj0, hj1, hj2⟩ := info_parts infoByte
  clear ho h
  go_enter Try.func27, Try.ntmps27
  go_wp2_with fail
  have B0 := Lib.hid (box_new a b z w)
  generalize w.alloc (.cells #[.int .i64 (a : Int), .int .i64 (b : Int), .int .i64 (z : Int)] 25) = W1 at *
  refine (C1.out _).mono ?_
  rintro e w1 ⟨rfl, hb⟩
  have B1 := Lib.hid (B0.out.later hb)
  clear hb B0
  obtain ⟨c0, c1, c2, hlt, hbw⟩ := B1.out
  obtain ⟨w3, hmk, hrow, hg3⟩ := run_make_own (P := Try.prog) w1 (w.heap.size + 1) 46 9 i0 (.string ⟨#[]⟩) 1 Try.underlying46 hi hz0 hz1 .i64 .i64 b (by rw [hz2]; omega) (by unfold maxLen; omega) hlt
  have hk3 : Below w1.heap.size w1 w3 := ⟨hg3.os, hg3.tape, hg3.output, hg3.size, fun j hj => hg3.block j hj (by simp)⟩
  have B3 := Lib.hid (B1.out.later hk3)
  have HR := Lib.hid hrow
  clear hrow hg3 hk3 B1
  obtain ⟨d0, d1, d2, dlt, dbw⟩ := B3.out
  go_wp2_with fail
  clear hmk c0 c1 c2 hlt hbw d0 d1 d2 dlt dbw
  go_loopw [5, 18] (fun s i wr => ∃ (y : Nat) (v : Value), y ≤ b ∧ i = .int .i64 y ∧ s = v ∧ Hid (wr.ownsRow (w.heap.size + 1) 9 1 v (rowsT z p a y).length ((rowsT z p a y).map Value.string)) ∧ Hid (Box w.heap.size a b z w wr)) (fun _ i _ => b - (intOf i).toNat)
  case atStart => exact ⟨0, _, by omega, rfl, rfl, HR, B3⟩
  case round =>
    obtain ⟨y, vs, hy, rfl, hv, HS, HB⟩ := hrel
    obtain rfl := hv.symm
    clear HR B3
    by_cases hyb : y < b
    · have y0 : (y : Int) < (b : Int) := by omega
      obtain ⟨c0, c1, c2, hlt, hbw⟩ := HB.out
      obtain ⟨w4, hmk, hrow, hg4⟩ := run_make_own (P := Try.prog) wr (w.heap.size + 1) 22 5 i1 (.int .u8 0) 1 Try.underlying22 hj hj0 hj1 .i64 .i64 a (by rw [hj2]; omega) (by unfold maxLen; omega) hlt
      have hk4 : Below wr.heap.size wr w4 := ⟨hg4.os, hg4.tape, hg4.output, hg4.size, fun j hj => hg4.block j hj (by simp)⟩
      have B4 := Lib.hid (HB.out.later hk4)
      have R4 : Hid (Rows2 (w.heap.size + 1) vs (rowsT z p a y) _ [] w4) := ⟨own_below HS.out hk4, hrow⟩
      clear hrow hg4 hk4 HB HS
      obtain ⟨d0, d1, d2, dlt, dbw⟩ := B4.out
      go_wp2_with fail
      clear hmk c0 c1 c2 hlt hbw d0 d1 d2 dlt dbw
      obtain ⟨ts, hts⟩ : ∃ ts, rowsT z p a y = ts := ⟨_, rfl⟩
      have HT := Lib.hid hts
      have hyl : ts.length = y := by rw [← hts]; exact rowsT_length z p a y
      rw [hts] at R4
      clear hts
      go_loopw [7, 26] (fun r j wr => ∃ (x : Nat) (v : Value), x ≤ a ∧ j = .int .i64 x ∧ r = v ∧ Hid (Box w.heap.size a b z w wr) ∧ Hid (Rows2 (w.heap.size + 1) vs ts v (signs z p (y * a) x) wr)) (fun _ j _ => a - (intOf j).toNat)
      case atStart => exact ⟨0, _, by omega, rfl, rfl, B4, R4⟩
      case round =>
        obtain ⟨x, vr, hx, rfl, hv, HB, HR⟩ := hrel
        obtain rfl := hv.symm
        clear R4 B4
        by_cases hxa : x < a
        · have x0 : (x : Int) < (a : Int) := by omega
          obtain ⟨k, hk⟩ : ∃ k, y * a + x = k := ⟨_, rfl⟩
          have hk49 : k < 49 := by have := idx_lt hxa hyb; omega
          have K3 := Lib.hid (fun w => C3.out x y (y * a) k w rfl hk hk49)
          have K2 := Lib.hid (fun w => C2.out k w hk49)
          have HK : Hid (signs z p (y * a) (x + 1) = signs z p (y * a) x ++ [sign z p k]) := by unfold Hid; rw [signs_succ, hk]
          have hsl := signs_length z p (y * a) x
          obtain ⟨cs, hcs⟩ : ∃ cs, signs z p (y * a) x = cs := ⟨_, rfl⟩
          rw [hcs] at HK HR hsl
          obtain ⟨c, hc⟩ : ∃ c, sign z p k = c := ⟨_, rfl⟩
          rw [hc] at K2 HK
          clear hcs hc hk
          go_wp2_with fail
          refine wp_region_from (Box w.heap.size a b z w) (Rows2 (w.heap.size + 1) vs ts vr cs) (by kernel_rfl) (by kernel_rfl) closed_box closed_rows2 (closed_box _ _ HB.out (After.drew (After.refl _))) (closed_rows2 _ _ HR.out (After.drew (After.refl _))) ?_
          refine Script.load (i := 0) (v := ?_) rfl (by kernel_rfl) (by kernel_rfl) (fun _ _ _ h => h) (by kernel_rfl) ?_ ?_
          rotate_left
          · (intro wS hSw; obtain ⟨c0, c1, c2, -, -⟩ := hSw; go_simp; try with_reducible rfl)
          try simp only [Act.put, List.getElem_toArray, List.getElem_cons_succ, List.getElem_cons_zero, List.setIfInBounds_toArray, List.set_cons_zero, List.set_cons_succ]
          refine Script.load (i := 1) (v := ?_) rfl (by kernel_rfl) (by kernel_rfl) (fun _ _ _ h => h) (by kernel_rfl) ?_ ?_
          rotate_left
          · (intro wS hSw; obtain ⟨c0, c1, c2, -, -⟩ := hSw; go_simp; try with_reducible rfl)
          try simp only [Act.put, List.getElem_toArray, List.getElem_cons_succ, List.getElem_cons_zero, List.setIfInBounds_toArray, List.set_cons_zero, List.set_cons_succ]
          refine Script.load (i := 2) (v := ?_) rfl (by kernel_rfl) (by kernel_rfl) (fun _ _ _ h => h) (by kernel_rfl) ?_ ?_
          rotate_left
          · (intro wS hSw; obtain ⟨c0, c1, c2, -, -⟩ := hSw; go_simp; try with_reducible rfl)
          try simp only [Act.put, List.getElem_toArray, List.getElem_cons_succ, List.getElem_cons_zero, List.setIfInBounds_toArray, List.set_cons_zero, List.set_cons_succ]
          refine Script.load (i := 3) (v := ?_) rfl (by kernel_rfl) (by kernel_rfl) (fun _ _ _ h => h) (by kernel_rfl) ?_ ?_
          rotate_left
          · (intro wS hSw; obtain ⟨c0, c1, c2, -, -⟩ := hSw; go_simp; try with_reducible rfl)
          try simp only [Act.put, List.getElem_toArray, List.getElem_cons_succ, List.getElem_cons_zero, List.setIfInBounds_toArray, List.set_cons_zero, List.set_cons_succ]
          refine Script.load (i := 4) (v := ?_) rfl (by kernel_rfl) (by kernel_rfl) (fun _ _ _ h => h) (by kernel_rfl) ?_ ?_
          rotate_left
          · (intro wS hSw; obtain ⟨c0, c1, c2, -, -⟩ := hSw; go_simp; try with_reducible rfl)
          try simp only [Act.put, List.getElem_toArray, List.getElem_cons_succ, List.getElem_cons_zero, List.setIfInBounds_toArray, List.set_cons_zero, List.set_cons_succ]
          refine Script.load (i := 5) (v := ?_) rfl (by kernel_rfl) (by kernel_rfl) (fun _ _ _ h => h) (by kernel_rfl) ?_ ?_
          rotate_left
          · (intro wS hSw; obtain ⟨c0, c1, c2, -, -⟩ := hSw; go_simp; try with_reducible rfl)
          try simp only [Act.put, List.getElem_toArray, List.getElem_cons_succ, List.getElem_cons_zero, List.setIfInBounds_toArray, List.set_cons_zero, List.set_cons_succ]
          refine Script.call (i := 6) (v := ?_) rfl (by kernel_rfl) (by kernel_rfl) (fun _ _ _ h => h) (by kernel_rfl) ?_ ?_
          rotate_left
          · (intro wS hSw K hK; obtain ⟨c0, c1, c2, -, -⟩ := hSw; go_simp; go_at_call 90; refine (K3.out _).mono ?_; rintro e wc ⟨rfl, hbc⟩; exact hK.out _ hbc)
          try simp only [Act.put, List.getElem_toArray, List.getElem_cons_succ, List.getElem_cons_zero, List.setIfInBounds_toArray, List.set_cons_zero, List.set_cons_succ]
          refine Script.call (i := 7) (v := ?_) rfl (by kernel_rfl) (by kernel_rfl) (fun _ _ _ h => h) (by kernel_rfl) ?_ ?_
          rotate_left
          · (intro wS hSw K hK; obtain ⟨c0, c1, c2, -, -⟩ := hSw; go_simp; go_at_call 89; refine (K2.out _).mono ?_; rintro e wc ⟨rfl, hbc⟩; exact hK.out _ hbc)
          try simp only [Act.put, List.getElem_toArray, List.getElem_cons_succ, List.getElem_cons_zero, List.setIfInBounds_toArray, List.set_cons_zero, List.set_cons_succ]
          refine Script.oneG (i := 8) (fun v w' => Rows2 (w.heap.size + 1) vs ts vr cs w' ∧ ∃ q, v = .slice (some ⟨q, 0, none⟩) 1 1 ∧ w'.heap[q]? = some (.cells #[.int .u8 (c.toNat : Int)] 5 (0, 0))) rfl (by kernel_rfl) (by kernel_rfl) (closed_box) (fun _ _ _ h k => ⟨closed_rows2 _ _ h.1 k, h.2.imp fun q hq => ⟨hq.1, closed_row q _ _ _ hq.2 k⟩⟩) ?_
          intro wO8 hO8 hG8 K hK
          go_simp; refine hK.out _ _ (hO8.later ((Below.refl _ _).alloc (Nat.le_refl _) _)) ⟨closed_rows2 _ _ hG8 ((Below.refl _ _).alloc (Nat.le_refl _) _), _, rfl, heap_alloc_new _ _⟩ ?_
          clear hK K
          try simp only [Act.put, List.getElem_toArray, List.getElem_cons_succ, List.getElem_cons_zero, List.setIfInBounds_toArray, List.set_cons_zero, List.set_cons_succ]
          refine Script.oneG (i := 9) (fun v w' => Rows2 (w.heap.size + 1) vs ts v (cs ++ [c]) w') rfl (by kernel_rfl) (by kernel_rfl) (closed_box) (fun _ => closed_rows2) ?_
          intro wO9 hO9 hG9 K hK
          obtain ⟨hR9, q9, hq9, hrow9⟩ := hG9; obtain rfl : wO8.heap.size = q9 := (by simpa using hq9); refine wp_append_one (.tmp 29) (.tmp 37) 22 rfl (w.heap.size + 1) 5 i1 (.int .u8 0) 1 Try.underlying22 hj hj0 hj1 hj2 rfl (by decide) vr _ _ rfl hR9.2 _ rfl hrow9 rfl (by omega) hO9.2.2.2.1 ?_; intro g9 cap9 w9 hown hgrow hb9; refine hK.out _ _ (Box.kept hO9 hb9 (Nat.lt_succ_self _) (Nat.le_succ _)) ⟨hR9.1.kept hgrow (own_ne hR9.1 hR9.2 (by decide)), by rw [nums_snoc, List.length_append]; exact hown⟩ ?_
          clear hK K
          try simp only [Act.put, List.getElem_toArray, List.getElem_cons_succ, List.getElem_cons_zero, List.setIfInBounds_toArray, List.set_cons_zero, List.set_cons_succ]
          refine Script.load (i := 10) (v := ?_) rfl (by kernel_rfl) (by kernel_rfl) (fun _ _ _ h => h) (by kernel_rfl) ?_ ?_
          rotate_left
          · (intro wS hSw; obtain ⟨c0, c1, c2, -, -⟩ := hSw; go_simp; try with_reducible rfl)
          try simp only [Act.put, List.getElem_toArray, List.getElem_cons_succ, List.getElem_cons_zero, List.setIfInBounds_toArray, List.set_cons_zero, List.set_cons_succ]
          refine Script.done (by kernel_rfl) ?_
          intro wD hD hG
          have HB' := Lib.hid hD
          have HR' := Lib.hid hG
          rw [← HK.out, hsl] at HR'
          clear hD hG hO8 hG8 hO9 hR9 hrow9 hq9 hown hgrow hb9 HB HR HK K2 K3
          go_wp2_with fail
          go_roundw
          case rel => exact ⟨x + 1, _, by omega, by go_num, rfl, HB', HR'⟩
          case measure => simp [intOf]; omega
        · obtain rfl : a = x := by omega
          have hcv := convert_own (P := Try.prog) wr 22 5 9 Try.underlying22 Try.underlying5 Try.underlying9 HR.out.2
          rw [strOfNums_bs] at hcv
          have hsl := signs_length z p (y * a) a
          obtain ⟨cs, hcs⟩ : ∃ cs, signs z p (y * a) a = cs := ⟨_, rfl⟩
          have HCS := Lib.hid hcs
          rw [hcs] at HR hsl hcv
          clear hcs
          go_wp2_with (at_builtin; refine wpList_append_one rfl (.tmp 40) (.tmp 43) 46 rfl (w.heap.size + 1) 9 i0 (.string ⟨#[]⟩) 16 Try.underlying46 hi hz0 hz1 hz2 rfl (by decide) _ _ _ rfl HR.out.1 rfl rfl (by omega) HB.out.2.2.2.1 ?_; intro g' cap' w6 hown' hgrow hb6)
          have HB' := Lib.hid (HB.out.kept hb6 (Nat.lt_succ_self _) (Nat.le_succ _))
          rw [hyl] at hown'
          have HS' : Hid (w6.ownsRow (w.heap.size + 1) 9 1 (.slice (some ⟨g', 0, none⟩) (y + 1) cap') (rowsT z p a (y + 1)).length ((rowsT z p a (y + 1)).map Value.string)) := by
            unfold Hid
            rw [rowsT_succ, HT.out, HCS.out, List.length_append, hyl, List.map_append]
            exact hown'
          clear hown' hgrow hb6 HB HR hcv
          go_wp2_with fail
          go_roundw
          case rel => exact ⟨y + 1, _, by omega, by go_num, rfl, HS', HB'⟩
          case measure => simp [intOf]; omega
    · obtain rfl : b = y := by omega
      have hp : Hid (OwnStrs (rowsT z p a b) w (.returned vs) wr) := ⟨_, rfl, own_base HS.out (Nat.le_succ _), HB.out.2.2.2.2⟩
      clear HS HB
      go_wp2_with fail
      go_ret
      exact hp.out
theorem bs_sign (cs : List UInt8) (c : UInt8) (n : UInt8) (h : c = n) : bs cs ++ ⟨#[n]⟩ = bs (cs ++ [c]) := by subst h; exact bs_append cs [c]
theorem implText (W H Z P : Int) (hP : P ≤ 9223372036854775807) (w : World) : Calls Try.prog 27 #[.agg #[.int .i64 W, .int .i64 H, .int .i64 Z], .int .i64 P] w (OwnStrs (textOf W H Z P) w) := by
  cases h : posB W H Z P
  · rw [show textOf W H Z P = [] by simp [textOf, h]]; exact implText_no hP h w
  · rw [show textOf W H Z P = rowsT Z.toNat P.toNat W.toNat H.toNat by simp [textOf, h]]
    obtain ⟨N, z, p, rfl, rfl, ho, hp⟩ := pos_yes h
    obtain ⟨a, b, rfl, rfl, hn⟩ := ho.nats
    exact implText_yes hn hp w
theorem textOf_le (W H Z P : Int) : (textOf W H Z P).length ≤ 7 := by
  cases h : posB W H Z P
  · simp [textOf, h]
  · rw [show textOf W H Z P = rowsT Z.toNat P.toNat W.toNat H.toNat by simp [textOf, h], rowsT_length]
    obtain ⟨N, z, p, rfl, rfl, ho, hp⟩ := pos_yes h
    have := ho.h7
    omega
end Go.Proofs.Ytpdhdogllejdbaa
