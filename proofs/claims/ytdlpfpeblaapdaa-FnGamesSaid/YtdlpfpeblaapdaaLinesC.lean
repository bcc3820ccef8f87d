/- LinesOf of both. -/
import Derived.Test.YtdlpfpeblaapdaaLinesB
import Derived.Test.YtdlpfpeblaapdaaHolesB
import Derived.Test.YtdlpfpeblaapdaaLineRows
namespace Go.Proofs.Ytdlpfpeblaapdaa
open Go.RowKit
set_option linter.unusedVariables false
set_option linter.unusedSimpArgs false
/-- It returns a list of lines in new memory. -/
def OwnLines (xs : List Ln) (w : World) (e : Ending) (w' : World) : Prop :=
  ∃ v, e = .returned v ∧ w'.ownsRow w.heap.size 58 3 v xs.length (lv xs) ∧ Below w.heap.size w w'
/-- An owned list of lines, its length a letter. -/
def Held (w : World) (base : Nat) (v : Value) (n : Nat) (xs : List Ln) : Prop := xs.length = n ∧ w.ownsRow base 58 3 v n (lv xs)
theorem Held.below {w w' : World} {base n : Nat} {v : Value} {xs : List Ln} (h : Held w base v n xs) (hb : Below w.heap.size w w') : Held w' base v n xs := ⟨h.1, own_below h.2 hb⟩
theorem lineN_no1 {a b z k d : Nat} (h : stepN a b z k d = none) : lineN a b z k d = none := by simp [lineN, h]
theorem lineN_no2 {a b z k d o : Nat} (h : stepN a b z k d = some o) (h2 : stepN a b z o d = none) : lineN a b z k d = none := by simp [lineN, h, h2]
theorem lineN_yes {a b z k d o t : Nat} (h : stepN a b z k d = some o) (h2 : stepN a b z o d = some t) : lineN a b z k d = some ((k : Int), (o : Int), (t : Int)) := by simp [lineN, h, h2]
set_option maxHeartbeats 2000000 in
set_option maxRecDepth 100000 in
theorem specLines {a b N z : Nat} (h : Ok (a : Int) (b : Int) N z) (w : World) : Calls Try.prog 63 #[.agg #[.int .i64 a, .int .i64 b, .int .i64 z]] w (OwnLines (linesOf a b z (bitsOf N z)) w) := by
  obtain ⟨hN, ha, ha7, hb, hb7, hab⟩ := h.nat
  have C1 := Lib.hid (specHoles h)
  have C2 := Lib.hid (fun k d w (hk : k < a * b) (hd : d < 4) => specStep h hk hd w)
  have hst := Lib.hid (fun k d o (hk : k < a * b) (hh : stepN a b z k d = some o) => stepN_at ha hk hh)
  obtain ⟨ks, hks⟩ : ∃ ks, bitsOf N z = ks := ⟨_, rfl⟩
  have hlt : Hid (∀ k ∈ ks, k < a * b) := fun k hk => by rw [hN]; rw [← hks] at hk; exact (mem_bitsOf.1 hk).1
  have hle : Hid (ks.length ≤ 49) := by unfold Hid; rw [← hks]; exact Nat.le_trans (bitsOf_le N z) h.n49
  rw [hks] at C1 ⊢
  clear hks h hN
  obtain ⟨i0, hi, hz0, hz1, hz2⟩ : ∃ i, Try.prog.info? 58 = some i ∧ i.zero = some (.agg #[.int .i64 0, .int .i64 0, .int .i64 0]) ∧ i.size = 3 ∧ i.bytes = 24 := ⟨_, by rfl, by rfl, by rfl, by rfl⟩
  go_enter Try.func63, Try.ntmps63
  go_wp2_with fail
  have B00 := Lib.hid (box_new (a : Int) (b : Int) (z : Int) w)
  have hS : (w.alloc (.cells #[.int .i64 (a : Int), .int .i64 (b : Int), .int .i64 (z : Int)] 25)).heap.size = w.heap.size + 1 := by simp
  generalize w.alloc (.cells #[.int .i64 (a : Int), .int .i64 (b : Int), .int .i64 (z : Int)] 25) = W1 at *
  have HL0 : Hid (Held (W1.alloc (.cells #[] 58)) (w.heap.size + 1) (.slice (some ⟨w.heap.size + 1, 0, none⟩) 0 0) 0 []) := by
    refine ⟨rfl, ?_⟩
    rw [← hS]
    exact World.ownsRow_made W1 #[] 0 (Nat.le_refl _) (by unfold maxLen; omega) rfl
  have B0 := Lib.hid (B00.out.later ((Below.refl _ _).alloc (Nat.le_refl _) (.cells #[] 58)))
  have hS2 : w.heap.size + 1 ≤ (W1.alloc (.cells #[] 58)).heap.size := by simp; omega
  generalize W1.alloc (.cells #[] 58) = W2 at *
  clear B00 hS
  refine (C1.out _).mono ?_
  rintro e w3 ⟨hv, rfl, hh, hb3⟩
  have B3 := Lib.hid (B0.out.later hb3)
  have HL3 := Lib.hid (HL0.out.below hb3)
  have hh0 := Lib.hid (own_base hh hS2)
  obtain ⟨n, hn⟩ : ∃ n, ks.length = n := ⟨_, rfl⟩
  rw [hn] at hle hh0
  have HN := Lib.hid hn
  have hle' := hle.out
  obtain ⟨ga, gc, rfl⟩ : ∃ a c, hv = .slice a n c := by rcases Go.Joins.ownsRow_forms hh0.out with ⟨rfl, h⟩ | ⟨g, cap, rfl⟩ <;> first | exact ⟨_, _, rfl⟩ | exact ⟨none, 0, by rw [h]⟩
  clear hh hn B0 HL0 hb3 hS2
  go_wp2_with fail
  go_loopw [3, 5] (fun s i wr => ∃ (k m : Nat) (v : Value) (xs : List Ln), k ≤ n ∧ m ≤ 4 * k ∧ i = .int .i64 k ∧ v = s ∧ Hid (xs = linesOf a b z (ks.take k)) ∧ Hid (Held wr (w.heap.size + 1) v m xs) ∧ Hid (wr.ownsRow (w.heap.size + 1) 3 1 (.slice ga n gc) n (Ints ks)) ∧ Hid (Box w.heap.size a b z w wr)) (fun _ i _ => n - (intOf i).toNat)
  case atStart => exact ⟨0, 0, _, [], by omega, by omega, rfl, rfl, rfl, HL3, hh0, B3⟩
  case round =>
    obtain ⟨k, m, v, xs, hk, hm, rfl, rfl, hxs, HL, HH, B4⟩ := hrel
    by_cases hkn : k < n
    · obtain ⟨q, hq⟩ : ∃ q, ks[k]? = some q := ⟨_, List.getElem?_eq_getElem (by rw [HN.out]; exact hkn)⟩
      have hqN := hlt.out q (List.mem_of_getElem? hq)
      have k0 : (0 : Int) ≤ (k : Int) := by omega
      have k1 : (k : Int) < (n : Int) := by omega
      obtain ⟨g, rfl⟩ : ∃ g, ga = some ⟨g, 0, none⟩ := by
        rcases Go.Joins.ownsRow_forms HH.out with ⟨h, h0⟩ | ⟨g, cap, h⟩
        · omega
        · injection h with h1 h2 h3; exact ⟨g, h1⟩
      have HCE : Hid (∀ w' : World, w'.ownsRow (w.heap.size + 1) 3 1 (.slice (some ⟨g, 0, none⟩) n gc) n (Ints ks) → w'.cell? ⟨g, k, none⟩ = some (.int .i64 (q : Int))) := fun w' ho => own_cell ho k hkn _ (by simp [Ints, hq])
      have HQ := Lib.hid (linesOf_take (w := a) (h := b) (z := z) hq)
      clear hq
      go_wp2_with fail
      go_loopw [3, 6] (fun s d wr => ∃ (d' m' : Nat) (v : Value) (xs' : List Ln), d' ≤ 4 ∧ m' ≤ 4 * k + d' ∧ d = .int .i64 d' ∧ v = s ∧ Hid (xs' = xs ++ lineRow a b z q d') ∧ Hid (Held wr (w.heap.size + 1) v m' xs') ∧ Hid (wr.ownsRow (w.heap.size + 1) 3 1 (.slice (some ⟨g, 0, none⟩) n gc) n (Ints ks)) ∧ Hid (Box w.heap.size a b z w wr)) (fun _ d _ => 4 - (intOf d).toNat)
      case atStart => exact ⟨0, m, _, xs, by omega, by omega, rfl, rfl, by unfold Hid; rw [lineRow_zero, List.append_nil], HL, HH, B4⟩
      case round =>
        clear HL HH B4 hm
        obtain ⟨d, m', v', xs', hd, hm, rfl, rfl, hxs', HL, HH, B4⟩ := hrel
        by_cases hd4 : d < 4
        · have hdb : decide ((d : Int) < 4) = true := by simp only [decide_eq_true_eq]; omega
          go_wp2_with fail
          refine wp_region_script (by kernel_rfl) (by kernel_rfl) ?_
          refine Script.load (i := 0) (v := ?_) rfl (by kernel_rfl) (by kernel_rfl) (fun _ _ _ h => h) (by kernel_rfl) ?_ ?_
          rotate_left
          · (intro wS hSw; obtain ⟨c0, c1, c2, -, -⟩ := B4.out.later (After.trans (After.drew (After.refl _)) hSw); have hce := HCE.out _ (own_below HH.out (After.trans (After.drew (After.refl _)) hSw)); go_simp; try with_reducible rfl)
          try simp only [Act.put, List.getElem_toArray, List.getElem_cons_succ, List.getElem_cons_zero, List.setIfInBounds_toArray, List.set_cons_zero, List.set_cons_succ]
          refine Script.load (i := 1) (v := ?_) rfl (by kernel_rfl) (by kernel_rfl) (fun _ _ _ h => h) (by kernel_rfl) ?_ ?_
          rotate_left
          · (intro wS hSw; obtain ⟨c0, c1, c2, -, -⟩ := B4.out.later (After.trans (After.drew (After.refl _)) hSw); have hce := HCE.out _ (own_below HH.out (After.trans (After.drew (After.refl _)) hSw)); go_simp; try with_reducible rfl)
          try simp only [Act.put, List.getElem_toArray, List.getElem_cons_succ, List.getElem_cons_zero, List.setIfInBounds_toArray, List.set_cons_zero, List.set_cons_succ]
          refine Script.load (i := 2) (v := ?_) rfl (by kernel_rfl) (by kernel_rfl) (fun _ _ _ h => h) (by kernel_rfl) ?_ ?_
          rotate_left
          · (intro wS hSw; obtain ⟨c0, c1, c2, -, -⟩ := B4.out.later (After.trans (After.drew (After.refl _)) hSw); have hce := HCE.out _ (own_below HH.out (After.trans (After.drew (After.refl _)) hSw)); go_simp; try with_reducible rfl)
          try simp only [Act.put, List.getElem_toArray, List.getElem_cons_succ, List.getElem_cons_zero, List.setIfInBounds_toArray, List.set_cons_zero, List.set_cons_succ]
          refine Script.load (i := 3) (v := ?_) rfl (by kernel_rfl) (by kernel_rfl) (fun _ _ _ h => h) (by kernel_rfl) ?_ ?_
          rotate_left
          · (intro wS hSw; obtain ⟨c0, c1, c2, -, -⟩ := B4.out.later (After.trans (After.drew (After.refl _)) hSw); have hce := HCE.out _ (own_below HH.out (After.trans (After.drew (After.refl _)) hSw)); go_simp; try with_reducible rfl)
          try simp only [Act.put, List.getElem_toArray, List.getElem_cons_succ, List.getElem_cons_zero, List.setIfInBounds_toArray, List.set_cons_zero, List.set_cons_succ]
          refine Script.load (i := 4) (v := ?_) rfl (by kernel_rfl) (by kernel_rfl) (fun _ _ _ h => h) (by kernel_rfl) ?_ ?_
          rotate_left
          · (intro wS hSw; obtain ⟨c0, c1, c2, -, -⟩ := B4.out.later (After.trans (After.drew (After.refl _)) hSw); have hce := HCE.out _ (own_below HH.out (After.trans (After.drew (After.refl _)) hSw)); go_simp; try with_reducible rfl)
          try simp only [Act.put, List.getElem_toArray, List.getElem_cons_succ, List.getElem_cons_zero, List.setIfInBounds_toArray, List.set_cons_zero, List.set_cons_succ]
          refine Script.load (i := 5) (v := ?_) rfl (by kernel_rfl) (by kernel_rfl) (fun _ _ _ h => h) (by kernel_rfl) ?_ ?_
          rotate_left
          · (intro wS hSw; obtain ⟨c0, c1, c2, -, -⟩ := B4.out.later (After.trans (After.drew (After.refl _)) hSw); have hce := HCE.out _ (own_below HH.out (After.trans (After.drew (After.refl _)) hSw)); go_simp; try with_reducible rfl)
          try simp only [Act.put, List.getElem_toArray, List.getElem_cons_succ, List.getElem_cons_zero, List.setIfInBounds_toArray, List.set_cons_zero, List.set_cons_succ]
          refine Script.call (i := 6) (v := ?_) rfl (by kernel_rfl) (by kernel_rfl) (fun _ _ _ h => h) (by kernel_rfl) ?_ ?_
          rotate_left
          · (intro wS hSw K hK; obtain ⟨c0, c1, c2, -, -⟩ := B4.out.later (After.trans (After.drew (After.refl _)) hSw); have hce := HCE.out _ (own_below HH.out (After.trans (After.drew (After.refl _)) hSw)); go_simp; go_at_call 69; refine (C2.out q d _ hqN hd4).mono ?_; rintro e wc ⟨rfl, hbc⟩; exact hK.out _ hbc)
          try simp only [Act.put, List.getElem_toArray, List.getElem_cons_succ, List.getElem_cons_zero, List.setIfInBounds_toArray, List.set_cons_zero, List.set_cons_succ]
          refine Script.load (i := 7) (v := ?_) rfl (by kernel_rfl) (by kernel_rfl) (fun _ _ _ h => h) (by kernel_rfl) ?_ ?_
          rotate_left
          · (intro wS hSw; obtain ⟨c0, c1, c2, -, -⟩ := B4.out.later (After.trans (After.drew (After.refl _)) hSw); have hce := HCE.out _ (own_below HH.out (After.trans (After.drew (After.refl _)) hSw)); go_simp; try with_reducible rfl)
          try simp only [Act.put, List.getElem_toArray, List.getElem_cons_succ, List.getElem_cons_zero, List.setIfInBounds_toArray, List.set_cons_zero, List.set_cons_succ]
          refine Script.done (by kernel_rfl) ?_
          intro wD hD hG
          have hb5 := After.trans (After.drew (After.refl _)) hD
          have HL5 := Lib.hid (HL.out.below hb5)
          have HH5 := Lib.hid (own_below HH.out hb5)
          have B5 := Lib.hid (B4.out.later hb5)
          clear HL HH B4 hb5 hD
          cases h1 : stepN a b z q d with
          | none =>
            have HR := Lib.hid (lineRow_no (lineN_no1 h1))
            clear h1
            unfold stepI
            go_wp2_with fail
            go_roundw
            case rel => exact ⟨d + 1, m', _, xs', by omega, by omega, by go_num, rfl, by unfold Hid; rw [HR.out]; exact hxs'.out, HL5, HH5, B5⟩
            case measure => simp [intOf]; omega
          | some o =>
            have hoN := hst.out q d o hqN h1
            have ho0 : (0 : Int) ≤ (o : Int) := by omega
            unfold stepI
            obtain ⟨c0, c1, c2, hlt5, hb5⟩ := B5.out
            go_wp2_with fail
            refine (C2.out o d _ hoN hd4).mono ?_
            rintro e w6 ⟨rfl, hb6⟩
            have HL6 := Lib.hid (HL5.out.below hb6)
            have HH6 := Lib.hid (own_below HH5.out hb6)
            have B6 := Lib.hid (B5.out.later hb6)
            clear HL5 HH5 B5 c0 c1 c2 hlt5 hb5 hb6
            cases h2 : stepN a b z o d with
            | none =>
              have HR := Lib.hid (lineRow_no (lineN_no2 h1 h2))
              clear h1 h2
              unfold stepI
              go_wp2_with fail
              go_roundw
              case rel => exact ⟨d + 1, m', _, xs', by omega, by omega, by go_num, rfl, by unfold Hid; rw [HR.out]; exact hxs'.out, HL6, HH6, B6⟩
              case measure => simp [intOf]; omega
            | some t =>
              have HR := Lib.hid (lineRow_yes (lineN_yes h1 h2))
              have ht0 : (0 : Int) ≤ (t : Int) := by omega
              clear h1 h2
              unfold stepI
              have hce := HCE.out _ HH6.out
              have hln : Hid (m' ≤ 1000000000) := by unfold Hid; omega
              have hbz : Hid (w.heap.size + 1 ≤ w6.heap.size) := B6.out.2.2.2.1
              go_wp2_with (at_builtin; refine wpList_append_line rfl (.tmp 37) (.tmp 45) 26 rfl (w.heap.size + 1) 58 i0 (.agg #[.int .i64 0, .int .i64 0, .int .i64 0]) Try.underlying26 hi hz0 hz1 hz2 rfl _ _ xs' rfl HL6.out.2 _ rfl rfl hln.out hbz.out ?_; intro g' cap' w7 hown' hgrow hb2 _)
              have hl7 : xs'.length = m' := HL6.out.1
              have HL7 : Hid (Held w7 (w.heap.size + 1) (.slice (some ⟨g', 0, none⟩) (m' + 1) cap') (m' + 1) (xs' ++ [((q : Int), (o : Int), (t : Int))])) := ⟨by rw [List.length_append, hl7]; rfl, hown'⟩
              have HH7 : Hid (w7.ownsRow (w.heap.size + 1) 3 1 (.slice (some ⟨g, 0, none⟩) n gc) n (Ints ks)) := (own_below HH6.out ((Below.refl _ _).alloc (Nat.le_refl _) _)).kept hgrow (own_ne (own_below HH6.out ((Below.refl _ _).alloc (Nat.le_refl _) (.cells #[] 58))) (own_below HL6.out.2 ((Below.refl _ _).alloc (Nat.le_refl _) (.cells #[] 58))) (by decide))
              have B7 := Lib.hid (B6.out.kept hb2 (Nat.lt_succ_self _) (Nat.le_succ _))
              clear hown' hgrow hb2 hl7 hbz HL6 HH6 B6 hln hce
              go_wp2_with fail
              go_roundw
              case rel => exact ⟨d + 1, m' + 1, _, _, by omega, by omega, by go_num, rfl, by unfold Hid; rw [HR.out, hxs'.out, List.append_assoc], HL7, HH7, B7⟩
              case measure => simp [intOf]; omega
        · obtain rfl : d = 4 := by omega
          have hx4 : Hid (xs' = linesOf a b z (ks.take (k + 1))) := by unfold Hid; rw [hxs'.out, hxs.out, HQ.out]
          go_wp2_with fail
          go_roundw
          case rel => exact ⟨k + 1, m', _, xs', by omega, by omega, by go_num, rfl, hx4, HL, HH, B4⟩
          case measure => simp [intOf]; omega
    · obtain rfl : k = n := by omega
      have hp : Hid (OwnLines (linesOf a b z ks) w (.returned v) wr) := by
        refine ⟨_, rfl, ?_, B4.out.2.2.2.2⟩
        have e : linesOf a b z ks = xs := by rw [hxs.out, List.take_of_length_le (by rw [HN.out]; exact Nat.le_refl _)]
        rw [e, HL.out.1]
        exact own_base HL.out.2 (Nat.le_succ _)
      clear HL HH B4
      go_wp2_with fail
      go_ret
      exact hp.out
set_option maxRecDepth 100000 in
theorem specLines_no {W H Z : Int} (h : okB W H Z = false) (w : World) : Calls Try.prog 63 #[.agg #[.int .i64 W, .int .i64 H, .int .i64 Z]] w (OwnLines [] w) := by
  have C1 := Lib.hid (specHoles_no h)
  clear h
  go_enter Try.func63, Try.ntmps63
  go_wp2_with fail
  have B00 := Lib.hid (box_new W H Z w)
  have hS : (w.alloc (.cells #[.int .i64 W, .int .i64 H, .int .i64 Z] 25)).heap.size = w.heap.size + 1 := by simp
  generalize w.alloc (.cells #[.int .i64 W, .int .i64 H, .int .i64 Z] 25) = W1 at *
  have HL0 : Hid ((W1.alloc (.cells #[] 58)).ownsRow (w.heap.size + 1) 58 3 (.slice (some ⟨w.heap.size + 1, 0, none⟩) 0 0) 0 []) := by
    unfold Hid
    rw [← hS]
    exact World.ownsRow_made W1 #[] 0 (Nat.le_refl _) (by unfold maxLen; omega) rfl
  have B0 := Lib.hid (B00.out.later ((Below.refl _ _).alloc (Nat.le_refl _) (.cells #[] 58)))
  generalize W1.alloc (.cells #[] 58) = W2 at *
  clear B00 hS
  refine (C1.out _).mono ?_
  rintro e w3 ⟨hv, rfl, hh, hb3⟩
  have B3 := Lib.hid (B0.out.later hb3)
  have hp : Hid (OwnLines [] w (.returned (.slice (some ⟨w.heap.size + 1, 0, none⟩) 0 0)) w3) := ⟨_, rfl, own_base (own_below HL0.out hb3) (Nat.le_succ _), B3.out.2.2.2.2⟩
  obtain ⟨ga, gc, rfl⟩ : ∃ a c, hv = .slice a 0 c := by rcases Go.Joins.ownsRow_forms hh with ⟨rfl, h⟩ | ⟨g, cap, rfl⟩ <;> exact ⟨_, _, rfl⟩
  clear hh B0 HL0 hb3 B3
  go_wp2_with fail
  go_loop [3, 5] (fun s i => i = .int .i64 0 ∧ s = .slice (some ⟨w.heap.size + 1, 0, none⟩) 0 0) (fun _ _ => 0)
  case atStart => exact ⟨rfl, rfl⟩
  case round =>
    obtain ⟨rfl, rfl⟩ := hrel
    go_wp2_with fail
    go_ret
    exact hp.out
/-- The lines of a board; none of one that is not valid. -/
def lnsOf (W H Z : Int) : List Ln := if okB W H Z then linesOf W.toNat H.toNat Z.toNat (bitsOf 49 Z.toNat) else []
theorem lnsOf_ok {a b N z : Nat} (h : Ok (a : Int) (b : Int) N z) : lnsOf a b z = linesOf a b z (bitsOf N z) := by
  unfold lnsOf
  rw [h.ok, if_pos rfl, Int.toNat_natCast, Int.toNat_natCast, Int.toNat_natCast, h.list]
theorem lnsOf_no {W H Z : Int} (h : okB W H Z = false) : lnsOf W H Z = [] := by unfold lnsOf; rw [h]; rfl
theorem lnsOf_le (W H Z : Int) : (lnsOf W H Z).length ≤ 196 := by
  unfold lnsOf
  split
  · have h1 := linesOf_le W.toNat H.toNat Z.toNat (bitsOf 49 Z.toNat)
    have h2 := bitsOf_le 49 Z.toNat
    omega
  · simp
/-- A board that is valid, in natural numbers. -/
theorem okNat {W H Z : Int} (h : okB W H Z = true) : ∃ a b N z : Nat, W = a ∧ H = b ∧ Z = z ∧ Ok (a : Int) (b : Int) N z := by
  obtain ⟨N, z, rfl, ho⟩ := ok_of h
  have h1 := ho.w1; have h2 := ho.h1
  obtain ⟨a, rfl⟩ := Int.eq_ofNat_of_zero_le (show 0 ≤ W by omega)
  obtain ⟨b, rfl⟩ := Int.eq_ofNat_of_zero_le (show 0 ≤ H by omega)
  exact ⟨a, b, N, z, rfl, rfl, rfl, ho⟩
theorem specLinesA (W H Z : Int) (w : World) : Calls Try.prog 63 #[.agg #[.int .i64 W, .int .i64 H, .int .i64 Z]] w (OwnLines (lnsOf W H Z) w) := by
  cases h : okB W H Z
  · rw [lnsOf_no h]; exact specLines_no h w
  · obtain ⟨a, b, N, z, rfl, rfl, rfl, ho⟩ := okNat h
    rw [lnsOf_ok ho]; exact specLines ho w
end Go.Proofs.Ytdlpfpeblaapdaa
