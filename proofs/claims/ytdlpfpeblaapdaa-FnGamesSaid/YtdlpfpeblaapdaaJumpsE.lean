/- JumpsOf of the model. -/
import Derived.Test.YtdlpfpeblaapdaaJumpsD
namespace Go.Proofs.Ytdlpfpeblaapdaa
open Go.RowKit
set_option linter.unusedVariables false
set_option linter.unusedSimpArgs false
set_option maxHeartbeats 4000000 in
set_option maxRecDepth 100000 in
theorem specJumps (W H Z P : Int) (hP : P ≤ 9223372036854775807) (w : World) : Calls Try.prog 53 #[.agg #[.int .i64 W, .int .i64 H, .int .i64 Z], .int .i64 P] w (OwnLines (jumpsL W H Z P) w) := by
  obtain ⟨i0, hi, hz0, hz1, hz2⟩ : ∃ i, Try.prog.info? 58 = some i ∧ i.zero = some (.agg #[.int .i64 0, .int .i64 0, .int .i64 0]) ∧ i.size = 3 ∧ i.bytes = 24 := ⟨_, by rfl, by rfl, by rfl, by rfl⟩
  have C1 := Lib.hid (fun w => specLinesA W H Z w)
  cases hp : posB W H Z P
  · have C0 := Lib.hid (specPos_is hP hp)
    rw [show jumpsL W H Z P = [] by simp [jumpsL, hp]]
    obtain ⟨xs, hxs⟩ : ∃ xs, lnsOf W H Z = xs := ⟨_, rfl⟩
    have hle := lnsOf_le W H Z
    rw [hxs] at hle C1
    clear hp hP hxs
    obtain ⟨n, hn⟩ : ∃ n, xs.length = n := ⟨_, rfl⟩
    have HN := Lib.hid hn
    rw [hn] at hle
    clear hn
    go_enter Try.func53, Try.ntmps53
    go_wp2_with fail
    have B00 := Lib.hid (box_new W H Z w)
    have hS : (w.alloc (.cells #[.int .i64 W, .int .i64 H, .int .i64 Z] 25)).heap.size = w.heap.size + 1 := by simp
    generalize w.alloc (.cells #[.int .i64 W, .int .i64 H, .int .i64 Z] 25) = W1 at *
    have HL0 : Hid (Held (W1.alloc (.cells #[] 58)) (w.heap.size + 1) (.slice (some ⟨w.heap.size + 1, 0, none⟩) 0 0) 0 []) := by
      refine ⟨rfl, ?_⟩
      rw [← hS]
      exact World.ownsRow_made W1 #[] 0 (Nat.le_refl _) (by unfold maxLen; omega) rfl
    have B0 := Lib.hid (B00.out.later ((Below.refl _ _).alloc (Nat.le_refl _) (.cells #[] 58)))
    generalize W1.alloc (.cells #[] 58) = W2 at *
    clear B00 hS
    obtain ⟨c0, c1, c2, hlt, hb1⟩ := B0.out
    go_wp2_with fail
    refine (C1.out _).mono ?_
    rintro e w3 ⟨hv, rfl, hh, hb3⟩
    rw [HN.out] at hh
    have HF := Lib.hid (HL0.out.below hb3)
    have B3 := Lib.hid (B0.out.later hb3)
    obtain ⟨ga, gc, rfl⟩ := lines_form hh
    clear hh hb3 B0 HL0 c0 c1 c2 hlt hb1
    go_wp2_with fail
    go_loopw [5, 7] (fun s i wr => i = .int .i64 0 ∧ s = .slice (some ⟨w.heap.size + 1, 0, none⟩) 0 0 ∧ Hid (Held wr (w.heap.size + 1) (.slice (some ⟨w.heap.size + 1, 0, none⟩) 0 0) 0 []) ∧ Hid (Box w.heap.size W H Z w wr)) (fun _ _ _ => 0)
    case atStart => exact ⟨rfl, rfl, HF, B3⟩
    case round =>
      clear HF B3
      obtain ⟨rfl, rfl, HF, B3⟩ := hrel
      obtain ⟨c0, c1, c2, hlt, hb1⟩ := B3.out
      by_cases h0 : 0 < n
      · have k1 : (0 : Int) < (n : Int) := by omega
        go_wp2_with fail
        refine (C0.out _).mono ?_
        rintro e w4 ⟨rfl, hb4⟩
        have HF4 := Lib.hid (own_base (HF.out.below hb4).2 (Nat.le_succ _))
        have B4 := Lib.hid (B3.out.later hb4)
        clear c0 c1 c2 hlt hb1 hb4 HF B3
        go_wp2_with fail
        go_ret
        exact ⟨_, rfl, HF4.out, B4.out.2.2.2.2⟩
      · have k1 : ¬ (0 : Int) < (n : Int) := by omega
        have HF4 := Lib.hid (own_base HF.out.2 (Nat.le_succ _))
        clear c0 c1 c2 hlt hb1 HF
        go_wp2_with fail
        go_ret
        exact ⟨_, rfl, HF4.out, B3.out.2.2.2.2⟩
  · have C0 := Lib.hid (specPos_is hP hp)
    rw [show jumpsL W H Z P = (lnsOf W H Z).filter (befL P) by simp [jumpsL, hp]]
    have CB : Hid (∀ (f o t : Int), (f, o, t) ∈ lnsOf W H Z → ∃ a b N z p f' o' t', Set5 W H Z P (f, o, t) a b N z p f' o' t') := fun f o t hm => set5 hp (mem_contains hm)
    obtain ⟨xs, hxs⟩ : ∃ xs, lnsOf W H Z = xs := ⟨_, rfl⟩
    have hle := lnsOf_le W H Z
    rw [hxs] at hle C1 CB ⊢
    clear hxs hp hP
    obtain ⟨n, hn⟩ : ∃ n, xs.length = n := ⟨_, rfl⟩
    have HN := Lib.hid hn
    rw [hn] at hle
    clear hn
    go_enter Try.func53, Try.ntmps53
    go_wp2_with fail
    have B00 := Lib.hid (box_new W H Z w)
    have hS : (w.alloc (.cells #[.int .i64 W, .int .i64 H, .int .i64 Z] 25)).heap.size = w.heap.size + 1 := by simp
    generalize w.alloc (.cells #[.int .i64 W, .int .i64 H, .int .i64 Z] 25) = W1 at *
    have HL0 : Hid (Held (W1.alloc (.cells #[] 58)) (w.heap.size + 1) (.slice (some ⟨w.heap.size + 1, 0, none⟩) 0 0) 0 []) := by
      refine ⟨rfl, ?_⟩
      rw [← hS]
      exact World.ownsRow_made W1 #[] 0 (Nat.le_refl _) (by unfold maxLen; omega) rfl
    have B0 := Lib.hid (B00.out.later ((Below.refl _ _).alloc (Nat.le_refl _) (.cells #[] 58)))
    have hS2 : w.heap.size + 2 ≤ (W1.alloc (.cells #[] 58)).heap.size := by simp; omega
    generalize W1.alloc (.cells #[] 58) = W2 at *
    clear B00 hS
    obtain ⟨c0, c1, c2, hlt, hb1⟩ := B0.out
    go_wp2_with fail
    refine (C1.out _).mono ?_
    rintro e w4 ⟨hv, rfl, hh, hb3⟩
    rw [HN.out] at hh
    have B3 := Lib.hid (B0.out.later hb3)
    have HL3 := Lib.hid (HL0.out.below hb3)
    have HH3 := Lib.hid hh
    obtain ⟨ga, gc, rfl⟩ := lines_form hh
    clear hh B0 HL0 hb3 c0 c1 c2 hlt hb1
    obtain ⟨B, hB⟩ : ∃ B, W2.heap.size = B := ⟨_, rfl⟩
    rw [hB] at HH3 hS2
    clear hB
    have HA3 : Hid (∀ g0, ga = some ⟨g0, 0, none⟩ → (Value.slice (some ⟨w.heap.size + 1, 0, none⟩) 0 0).ownBlock ≠ some g0) := fun g0 h1 h2 => by
      have h3 := (HH3.out.lt g0 (by rw [h1]; rfl)).1
      simp [Value.ownBlock] at h2
      omega
    go_wp2_with fail
    go_loopw [5, 7] (fun s i wr => ∃ (k m : Nat) (v : Value) (ys : List Ln), k ≤ n ∧ m ≤ k ∧ i = .int .i64 k ∧ v = s ∧ Hid (ys = (xs.take k).filter (befL P)) ∧ Hid (Held wr (w.heap.size + 1) v m ys) ∧ Hid (wr.ownsRow B 58 3 (.slice ga n gc) n (lv xs)) ∧ Hid (∀ g0, ga = some ⟨g0, 0, none⟩ → v.ownBlock ≠ some g0) ∧ Hid (Box w.heap.size W H Z w wr)) (fun _ i _ => n - (intOf i).toNat)
    case atStart => exact ⟨0, 0, _, [], by omega, by omega, rfl, rfl, rfl, HL3, HH3, HA3, B3⟩
    case round =>
      clear HL3 HH3 HA3 B3
      obtain ⟨k, m, v, ys, hk, hm, rfl, rfl, hys, HL, HH, HA, B4⟩ := hrel
      by_cases hkn : k < n
      · obtain ⟨⟨f, o, t⟩, hl⟩ : ∃ l, xs[k]? = some l := ⟨_, List.getElem?_eq_getElem (by rw [HN.out]; exact hkn)⟩
        obtain ⟨a, b, N, z, p, f', o', t', S⟩ := CB.out f o t (List.mem_of_getElem? hl)
        have k0 : (0 : Int) ≤ (k : Int) := by omega
        have k1 : (k : Int) < (n : Int) := by omega
        obtain ⟨g, rfl⟩ : ∃ g, ga = some ⟨g, 0, none⟩ := by
          rcases Go.Joins.ownsRow_forms HH.out with ⟨h, h0⟩ | ⟨g, cap, h⟩
          · omega
          · injection h with h1 h2 h3; exact ⟨g, h1⟩
        have hln : Hid (m ≤ 1000000000) := by unfold Hid; omega
        obtain ⟨hpb, hf, ho, ht⟩ := S.bounds
        have C3 := Lib.hid (fun w => specBits f' o' t' hf ho ht w)
        have hm := lineM_lt hf ho ht
        obtain ⟨q1, e1, n1, l1, u1⟩ := pow_nat f' hf
        obtain ⟨q2, e2, n2, l2, u2⟩ := pow_nat o' ho
        have h12 : q1 ||| q2 < 2 ^ 63 := Nat.or_lt_two_pow (by omega) (by omega)
        have hor1 := or63 (a := q1) (b := q2) (by omega) (by omega)
        have hw2 : IntKind.i64.wrap (q2 : Int) = (q2 : Int) := IntWalk.i64_in _ (by omega)
        have hw1 : IntKind.i64.wrap (q1 : Int) = (q1 : Int) := IntWalk.i64_in _ (by omega)
        have hand := and63 (a := p) (b := lineM f' o' t') (by omega) (by omega)
        have E : Hid ((((p &&& lineM f' o' t' : Nat) : Int) == ((q1 ||| q2 : Nat) : Int)) = befL P (f, o, t)) := by
          unfold Hid
          rw [S.bef, ← and_bef S.at'.fo S.at'.ft S.at'.ot, n1, n2, Bool.eq_iff_iff]
          simp only [beq_iff_eq]
          omega
        have CE : Hid (∀ w' : World, w'.ownsRow B 58 3 (.slice (some ⟨g, 0, none⟩) n gc) n (lv xs) → w'.cell? ⟨g, k * 3, none⟩ = some (.int .i64 f) ∧ w'.cell? ⟨g, k * 3 + 1, none⟩ = some (.int .i64 o) ∧ w'.cell? ⟨g, k * 3 + 2, none⟩ = some (.int .i64 t)) := fun w' hh => line_cells hh HN.out hl
        have e3 := S.eP
        have e4 := S.at'.eq
        simp only [Prod.mk.injEq] at e4
        obtain ⟨e4, e5, e6⟩ := e4
        generalize p &&& lineM f' o' t' = x at *
        generalize lineM f' o' t' = lm at *
        generalize q1 ||| q2 = r at *
        clear n2
        clear S n1
        subst e4 e5 e6
        subst e3
        obtain ⟨c0, c1, c2, hlt, hb1⟩ := B4.out
        go_wp2_with fail
        refine (C0.out _).mono ?_
        rintro e wb ⟨rfl, hb⟩
        have HLb := Lib.hid (HL.out.below hb)
        have HHb := Lib.hid (own_below HH.out hb)
        have Bb := Lib.hid (B4.out.later hb)
        clear HL HH B4 hb c0 c1 c2 hlt hb1
        cases hc : befL (p : Int) ((f' : Int), (o' : Int), (t' : Int))
        · have HF := Lib.hid (filter_no hl hc)
          have E1 : ((x : Int) == ((r : Nat) : Int)) = false := E.out.trans hc
          clear hl hc E
          go_wp2_with fail
          refine wp_region_script (by kernel_rfl) (by kernel_rfl) ?_
          refine Script.load (i := 0) (v := ?_) rfl (by kernel_rfl) (by kernel_rfl) (fun _ _ _ h => h) (by kernel_rfl) ?_ ?_
          rotate_left
          · (intro wS hSw; obtain ⟨l0, l1, l2⟩ := CE.out _ (own_below HHb.out (After.trans (After.drew (After.refl _)) hSw)); go_simp; try with_reducible rfl)
          try simp only [Act.put, List.getElem_toArray, List.getElem_cons_succ, List.getElem_cons_zero, List.setIfInBounds_toArray, List.set_cons_zero, List.set_cons_succ]
          refine Script.load (i := 1) (v := ?_) rfl (by kernel_rfl) (by kernel_rfl) (fun _ _ _ h => h) (by kernel_rfl) ?_ ?_
          rotate_left
          · (intro wS hSw; obtain ⟨l0, l1, l2⟩ := CE.out _ (own_below HHb.out (After.trans (After.drew (After.refl _)) hSw)); go_simp; try with_reducible rfl)
          try simp only [Act.put, List.getElem_toArray, List.getElem_cons_succ, List.getElem_cons_zero, List.setIfInBounds_toArray, List.set_cons_zero, List.set_cons_succ]
          refine Script.load (i := 2) (v := ?_) rfl (by kernel_rfl) (by kernel_rfl) (fun _ _ _ h => h) (by kernel_rfl) ?_ ?_
          rotate_left
          · (intro wS hSw; obtain ⟨l0, l1, l2⟩ := CE.out _ (own_below HHb.out (After.trans (After.drew (After.refl _)) hSw)); go_simp; try with_reducible rfl)
          try simp only [Act.put, List.getElem_toArray, List.getElem_cons_succ, List.getElem_cons_zero, List.setIfInBounds_toArray, List.set_cons_zero, List.set_cons_succ]
          refine Script.load (i := 3) (v := ?_) rfl (by kernel_rfl) (by kernel_rfl) (fun _ _ _ h => h) (by kernel_rfl) ?_ ?_
          rotate_left
          · (intro wS hSw; obtain ⟨l0, l1, l2⟩ := CE.out _ (own_below HHb.out (After.trans (After.drew (After.refl _)) hSw)); go_simp; try with_reducible rfl)
          try simp only [Act.put, List.getElem_toArray, List.getElem_cons_succ, List.getElem_cons_zero, List.setIfInBounds_toArray, List.set_cons_zero, List.set_cons_succ]
          refine Script.load (i := 4) (v := ?_) rfl (by kernel_rfl) (by kernel_rfl) (fun _ _ _ h => h) (by kernel_rfl) ?_ ?_
          rotate_left
          · (intro wS hSw; obtain ⟨l0, l1, l2⟩ := CE.out _ (own_below HHb.out (After.trans (After.drew (After.refl _)) hSw)); go_simp; try with_reducible rfl)
          try simp only [Act.put, List.getElem_toArray, List.getElem_cons_succ, List.getElem_cons_zero, List.setIfInBounds_toArray, List.set_cons_zero, List.set_cons_succ]
          refine Script.call (i := 5) (v := ?_) rfl (by kernel_rfl) (by kernel_rfl) (fun _ _ _ h => h) (by kernel_rfl) ?_ ?_
          rotate_left
          · (intro wS hSw K hK; obtain ⟨l0, l1, l2⟩ := CE.out _ (own_below HHb.out (After.trans (After.drew (After.refl _)) hSw)); go_simp; go_at_call 60; refine (C3.out _).mono ?_; rintro e wc ⟨rfl, hbc⟩; exact hK.out _ hbc)
          try simp only [Act.put, List.getElem_toArray, List.getElem_cons_succ, List.getElem_cons_zero, List.setIfInBounds_toArray, List.set_cons_zero, List.set_cons_succ]
          refine Script.load (i := 6) (v := ?_) rfl (by kernel_rfl) (by kernel_rfl) (fun _ _ _ h => h) (by kernel_rfl) ?_ ?_
          rotate_left
          · (intro wS hSw; obtain ⟨l0, l1, l2⟩ := CE.out _ (own_below HHb.out (After.trans (After.drew (After.refl _)) hSw)); go_simp; try with_reducible rfl)
          try simp only [Act.put, List.getElem_toArray, List.getElem_cons_succ, List.getElem_cons_zero, List.setIfInBounds_toArray, List.set_cons_zero, List.set_cons_succ]
          refine Script.load (i := 7) (v := ?_) rfl (by kernel_rfl) (by kernel_rfl) (fun _ _ _ h => h) (by kernel_rfl) ?_ ?_
          rotate_left
          · (intro wS hSw; obtain ⟨l0, l1, l2⟩ := CE.out _ (own_below HHb.out (After.trans (After.drew (After.refl _)) hSw)); go_simp; try with_reducible rfl)
          try simp only [Act.put, List.getElem_toArray, List.getElem_cons_succ, List.getElem_cons_zero, List.setIfInBounds_toArray, List.set_cons_zero, List.set_cons_succ]
          refine Script.load (i := 8) (v := ?_) rfl (by kernel_rfl) (by kernel_rfl) (fun _ _ _ h => h) (by kernel_rfl) ?_ ?_
          rotate_left
          · (intro wS hSw; obtain ⟨l0, l1, l2⟩ := CE.out _ (own_below HHb.out (After.trans (After.drew (After.refl _)) hSw)); go_simp; try with_reducible rfl)
          try simp only [Act.put, List.getElem_toArray, List.getElem_cons_succ, List.getElem_cons_zero, List.setIfInBounds_toArray, List.set_cons_zero, List.set_cons_succ]
          refine Script.load (i := 9) (v := ?_) rfl (by kernel_rfl) (by kernel_rfl) (fun _ _ _ h => h) (by kernel_rfl) ?_ ?_
          rotate_left
          · (intro wS hSw; obtain ⟨l0, l1, l2⟩ := CE.out _ (own_below HHb.out (After.trans (After.drew (After.refl _)) hSw)); go_simp; try with_reducible rfl)
          try simp only [Act.put, List.getElem_toArray, List.getElem_cons_succ, List.getElem_cons_zero, List.setIfInBounds_toArray, List.set_cons_zero, List.set_cons_succ]
          refine Script.load (i := 10) (v := ?_) rfl (by kernel_rfl) (by kernel_rfl) (fun _ _ _ h => h) (by kernel_rfl) ?_ ?_
          rotate_left
          · (intro wS hSw; obtain ⟨l0, l1, l2⟩ := CE.out _ (own_below HHb.out (After.trans (After.drew (After.refl _)) hSw)); go_simp; try with_reducible rfl)
          try simp only [Act.put, List.getElem_toArray, List.getElem_cons_succ, List.getElem_cons_zero, List.setIfInBounds_toArray, List.set_cons_zero, List.set_cons_succ]
          refine Script.load (i := 11) (v := ?_) rfl (by kernel_rfl) (by kernel_rfl) (fun _ _ _ h => h) (by kernel_rfl) ?_ ?_
          rotate_left
          · (intro wS hSw; obtain ⟨l0, l1, l2⟩ := CE.out _ (own_below HHb.out (After.trans (After.drew (After.refl _)) hSw)); go_simp; try with_reducible rfl)
          try simp only [Act.put, List.getElem_toArray, List.getElem_cons_succ, List.getElem_cons_zero, List.setIfInBounds_toArray, List.set_cons_zero, List.set_cons_succ]
          refine Script.load (i := 12) (v := ?_) rfl (by kernel_rfl) (by kernel_rfl) (fun _ _ _ h => h) (by kernel_rfl) ?_ ?_
          rotate_left
          · (intro wS hSw; obtain ⟨l0, l1, l2⟩ := CE.out _ (own_below HHb.out (After.trans (After.drew (After.refl _)) hSw)); go_simp; try with_reducible rfl)
          try simp only [Act.put, List.getElem_toArray, List.getElem_cons_succ, List.getElem_cons_zero, List.setIfInBounds_toArray, List.set_cons_zero, List.set_cons_succ]
          refine Script.load (i := 13) (v := ?_) rfl (by kernel_rfl) (by kernel_rfl) (fun _ _ _ h => h) (by kernel_rfl) ?_ ?_
          rotate_left
          · (intro wS hSw; obtain ⟨l0, l1, l2⟩ := CE.out _ (own_below HHb.out (After.trans (After.drew (After.refl _)) hSw)); go_simp; try with_reducible rfl)
          try simp only [Act.put, List.getElem_toArray, List.getElem_cons_succ, List.getElem_cons_zero, List.setIfInBounds_toArray, List.set_cons_zero, List.set_cons_succ]
          refine Script.load (i := 14) (v := ?_) rfl (by kernel_rfl) (by kernel_rfl) (fun _ _ _ h => h) (by kernel_rfl) ?_ ?_
          rotate_left
          · (intro wS hSw; obtain ⟨l0, l1, l2⟩ := CE.out _ (own_below HHb.out (After.trans (After.drew (After.refl _)) hSw)); go_simp; try with_reducible rfl)
          try simp only [Act.put, List.getElem_toArray, List.getElem_cons_succ, List.getElem_cons_zero, List.setIfInBounds_toArray, List.set_cons_zero, List.set_cons_succ]
          refine Script.load (i := 15) (v := ?_) rfl (by kernel_rfl) (by kernel_rfl) (fun _ _ _ h => h) (by kernel_rfl) ?_ ?_
          rotate_left
          · (intro wS hSw; obtain ⟨l0, l1, l2⟩ := CE.out _ (own_below HHb.out (After.trans (After.drew (After.refl _)) hSw)); go_simp; try with_reducible rfl)
          try simp only [Act.put, List.getElem_toArray, List.getElem_cons_succ, List.getElem_cons_zero, List.setIfInBounds_toArray, List.set_cons_zero, List.set_cons_succ]
          refine Script.load (i := 16) (v := ?_) rfl (by kernel_rfl) (by kernel_rfl) (fun _ _ _ h => h) (by kernel_rfl) ?_ ?_
          rotate_left
          · (intro wS hSw; obtain ⟨l0, l1, l2⟩ := CE.out _ (own_below HHb.out (After.trans (After.drew (After.refl _)) hSw)); go_simp; try with_reducible rfl)
          try simp only [Act.put, List.getElem_toArray, List.getElem_cons_succ, List.getElem_cons_zero, List.setIfInBounds_toArray, List.set_cons_zero, List.set_cons_succ]
          refine Script.load (i := 17) (v := ?_) rfl (by kernel_rfl) (by kernel_rfl) (fun _ _ _ h => h) (by kernel_rfl) ?_ ?_
          rotate_left
          · (intro wS hSw; obtain ⟨l0, l1, l2⟩ := CE.out _ (own_below HHb.out (After.trans (After.drew (After.refl _)) hSw)); go_simp; try with_reducible rfl)
          try simp only [Act.put, List.getElem_toArray, List.getElem_cons_succ, List.getElem_cons_zero, List.setIfInBounds_toArray, List.set_cons_zero, List.set_cons_succ]
          refine Script.load (i := 18) (v := ?_) rfl (by kernel_rfl) (by kernel_rfl) (fun _ _ _ h => h) (by kernel_rfl) ?_ ?_
          rotate_left
          · (intro wS hSw; obtain ⟨l0, l1, l2⟩ := CE.out _ (own_below HHb.out (After.trans (After.drew (After.refl _)) hSw)); go_simp; try with_reducible rfl)
          try simp only [Act.put, List.getElem_toArray, List.getElem_cons_succ, List.getElem_cons_zero, List.setIfInBounds_toArray, List.set_cons_zero, List.set_cons_succ]
          refine Script.load (i := 19) (v := ?_) rfl (by kernel_rfl) (by kernel_rfl) (fun _ _ _ h => h) (by kernel_rfl) ?_ ?_
          rotate_left
          · (intro wS hSw; obtain ⟨l0, l1, l2⟩ := CE.out _ (own_below HHb.out (After.trans (After.drew (After.refl _)) hSw)); go_simp; try with_reducible rfl)
          try simp only [Act.put, List.getElem_toArray, List.getElem_cons_succ, List.getElem_cons_zero, List.setIfInBounds_toArray, List.set_cons_zero, List.set_cons_succ]
          refine Script.load (i := 20) (v := ?_) rfl (by kernel_rfl) (by kernel_rfl) (fun _ _ _ h => h) (by kernel_rfl) ?_ ?_
          rotate_left
          · (intro wS hSw; obtain ⟨l0, l1, l2⟩ := CE.out _ (own_below HHb.out (After.trans (After.drew (After.refl _)) hSw)); go_simp; try with_reducible rfl)
          try simp only [Act.put, List.getElem_toArray, List.getElem_cons_succ, List.getElem_cons_zero, List.setIfInBounds_toArray, List.set_cons_zero, List.set_cons_succ]
          refine Script.done (by kernel_rfl) ?_
          intro wD hD hG
          have hb6 := After.trans (After.drew (After.refl _)) hD
          have HL6 := Lib.hid (HLb.out.below hb6)
          have HH6 := Lib.hid (own_below HHb.out hb6)
          have B6 := Lib.hid (Bb.out.later hb6)
          clear hD hG hb6 HLb HHb Bb
          go_wp2_with fail
          go_roundw
          case rel => exact ⟨k + 1, m, _, ys, by omega, by omega, by go_num, rfl, by unfold Hid; rw [HF.out]; exact hys.out, HL6, HH6, HA, B6⟩
          case measure => simp [intOf]; omega
        · have HF := Lib.hid (filter_yes hl hc)
          have E1 : ((x : Int) == ((r : Nat) : Int)) = true := E.out.trans hc
          clear hl hc E
          go_wp2_with fail
          refine wp_region_script (by kernel_rfl) (by kernel_rfl) ?_
          refine Script.load (i := 0) (v := ?_) rfl (by kernel_rfl) (by kernel_rfl) (fun _ _ _ h => h) (by kernel_rfl) ?_ ?_
          rotate_left
          · (intro wS hSw; obtain ⟨l0, l1, l2⟩ := CE.out _ (own_below HHb.out (After.trans (After.drew (After.refl _)) hSw)); go_simp; try with_reducible rfl)
          try simp only [Act.put, List.getElem_toArray, List.getElem_cons_succ, List.getElem_cons_zero, List.setIfInBounds_toArray, List.set_cons_zero, List.set_cons_succ]
          refine Script.load (i := 1) (v := ?_) rfl (by kernel_rfl) (by kernel_rfl) (fun _ _ _ h => h) (by kernel_rfl) ?_ ?_
          rotate_left
          · (intro wS hSw; obtain ⟨l0, l1, l2⟩ := CE.out _ (own_below HHb.out (After.trans (After.drew (After.refl _)) hSw)); go_simp; try with_reducible rfl)
          try simp only [Act.put, List.getElem_toArray, List.getElem_cons_succ, List.getElem_cons_zero, List.setIfInBounds_toArray, List.set_cons_zero, List.set_cons_succ]
          refine Script.load (i := 2) (v := ?_) rfl (by kernel_rfl) (by kernel_rfl) (fun _ _ _ h => h) (by kernel_rfl) ?_ ?_
          rotate_left
          · (intro wS hSw; obtain ⟨l0, l1, l2⟩ := CE.out _ (own_below HHb.out (After.trans (After.drew (After.refl _)) hSw)); go_simp; try with_reducible rfl)
          try simp only [Act.put, List.getElem_toArray, List.getElem_cons_succ, List.getElem_cons_zero, List.setIfInBounds_toArray, List.set_cons_zero, List.set_cons_succ]
          refine Script.load (i := 3) (v := ?_) rfl (by kernel_rfl) (by kernel_rfl) (fun _ _ _ h => h) (by kernel_rfl) ?_ ?_
          rotate_left
          · (intro wS hSw; obtain ⟨l0, l1, l2⟩ := CE.out _ (own_below HHb.out (After.trans (After.drew (After.refl _)) hSw)); go_simp; try with_reducible rfl)
          try simp only [Act.put, List.getElem_toArray, List.getElem_cons_succ, List.getElem_cons_zero, List.setIfInBounds_toArray, List.set_cons_zero, List.set_cons_succ]
          refine Script.load (i := 4) (v := ?_) rfl (by kernel_rfl) (by kernel_rfl) (fun _ _ _ h => h) (by kernel_rfl) ?_ ?_
          rotate_left
          · (intro wS hSw; obtain ⟨l0, l1, l2⟩ := CE.out _ (own_below HHb.out (After.trans (After.drew (After.refl _)) hSw)); go_simp; try with_reducible rfl)
          try simp only [Act.put, List.getElem_toArray, List.getElem_cons_succ, List.getElem_cons_zero, List.setIfInBounds_toArray, List.set_cons_zero, List.set_cons_succ]
          refine Script.call (i := 5) (v := ?_) rfl (by kernel_rfl) (by kernel_rfl) (fun _ _ _ h => h) (by kernel_rfl) ?_ ?_
          rotate_left
          · (intro wS hSw K hK; obtain ⟨l0, l1, l2⟩ := CE.out _ (own_below HHb.out (After.trans (After.drew (After.refl _)) hSw)); go_simp; go_at_call 60; refine (C3.out _).mono ?_; rintro e wc ⟨rfl, hbc⟩; exact hK.out _ hbc)
          try simp only [Act.put, List.getElem_toArray, List.getElem_cons_succ, List.getElem_cons_zero, List.setIfInBounds_toArray, List.set_cons_zero, List.set_cons_succ]
          refine Script.load (i := 6) (v := ?_) rfl (by kernel_rfl) (by kernel_rfl) (fun _ _ _ h => h) (by kernel_rfl) ?_ ?_
          rotate_left
          · (intro wS hSw; obtain ⟨l0, l1, l2⟩ := CE.out _ (own_below HHb.out (After.trans (After.drew (After.refl _)) hSw)); go_simp; try with_reducible rfl)
          try simp only [Act.put, List.getElem_toArray, List.getElem_cons_succ, List.getElem_cons_zero, List.setIfInBounds_toArray, List.set_cons_zero, List.set_cons_succ]
          refine Script.load (i := 7) (v := ?_) rfl (by kernel_rfl) (by kernel_rfl) (fun _ _ _ h => h) (by kernel_rfl) ?_ ?_
          rotate_left
          · (intro wS hSw; obtain ⟨l0, l1, l2⟩ := CE.out _ (own_below HHb.out (After.trans (After.drew (After.refl _)) hSw)); go_simp; try with_reducible rfl)
          try simp only [Act.put, List.getElem_toArray, List.getElem_cons_succ, List.getElem_cons_zero, List.setIfInBounds_toArray, List.set_cons_zero, List.set_cons_succ]
          refine Script.load (i := 8) (v := ?_) rfl (by kernel_rfl) (by kernel_rfl) (fun _ _ _ h => h) (by kernel_rfl) ?_ ?_
          rotate_left
          · (intro wS hSw; obtain ⟨l0, l1, l2⟩ := CE.out _ (own_below HHb.out (After.trans (After.drew (After.refl _)) hSw)); go_simp; try with_reducible rfl)
          try simp only [Act.put, List.getElem_toArray, List.getElem_cons_succ, List.getElem_cons_zero, List.setIfInBounds_toArray, List.set_cons_zero, List.set_cons_succ]
          refine Script.load (i := 9) (v := ?_) rfl (by kernel_rfl) (by kernel_rfl) (fun _ _ _ h => h) (by kernel_rfl) ?_ ?_
          rotate_left
          · (intro wS hSw; obtain ⟨l0, l1, l2⟩ := CE.out _ (own_below HHb.out (After.trans (After.drew (After.refl _)) hSw)); go_simp; try with_reducible rfl)
          try simp only [Act.put, List.getElem_toArray, List.getElem_cons_succ, List.getElem_cons_zero, List.setIfInBounds_toArray, List.set_cons_zero, List.set_cons_succ]
          refine Script.load (i := 10) (v := ?_) rfl (by kernel_rfl) (by kernel_rfl) (fun _ _ _ h => h) (by kernel_rfl) ?_ ?_
          rotate_left
          · (intro wS hSw; obtain ⟨l0, l1, l2⟩ := CE.out _ (own_below HHb.out (After.trans (After.drew (After.refl _)) hSw)); go_simp; try with_reducible rfl)
          try simp only [Act.put, List.getElem_toArray, List.getElem_cons_succ, List.getElem_cons_zero, List.setIfInBounds_toArray, List.set_cons_zero, List.set_cons_succ]
          refine Script.load (i := 11) (v := ?_) rfl (by kernel_rfl) (by kernel_rfl) (fun _ _ _ h => h) (by kernel_rfl) ?_ ?_
          rotate_left
          · (intro wS hSw; obtain ⟨l0, l1, l2⟩ := CE.out _ (own_below HHb.out (After.trans (After.drew (After.refl _)) hSw)); go_simp; try with_reducible rfl)
          try simp only [Act.put, List.getElem_toArray, List.getElem_cons_succ, List.getElem_cons_zero, List.setIfInBounds_toArray, List.set_cons_zero, List.set_cons_succ]
          refine Script.load (i := 12) (v := ?_) rfl (by kernel_rfl) (by kernel_rfl) (fun _ _ _ h => h) (by kernel_rfl) ?_ ?_
          rotate_left
          · (intro wS hSw; obtain ⟨l0, l1, l2⟩ := CE.out _ (own_below HHb.out (After.trans (After.drew (After.refl _)) hSw)); go_simp; try with_reducible rfl)
          try simp only [Act.put, List.getElem_toArray, List.getElem_cons_succ, List.getElem_cons_zero, List.setIfInBounds_toArray, List.set_cons_zero, List.set_cons_succ]
          refine Script.load (i := 13) (v := ?_) rfl (by kernel_rfl) (by kernel_rfl) (fun _ _ _ h => h) (by kernel_rfl) ?_ ?_
          rotate_left
          · (intro wS hSw; obtain ⟨l0, l1, l2⟩ := CE.out _ (own_below HHb.out (After.trans (After.drew (After.refl _)) hSw)); go_simp; try with_reducible rfl)
          try simp only [Act.put, List.getElem_toArray, List.getElem_cons_succ, List.getElem_cons_zero, List.setIfInBounds_toArray, List.set_cons_zero, List.set_cons_succ]
          refine Script.load (i := 14) (v := ?_) rfl (by kernel_rfl) (by kernel_rfl) (fun _ _ _ h => h) (by kernel_rfl) ?_ ?_
          rotate_left
          · (intro wS hSw; obtain ⟨l0, l1, l2⟩ := CE.out _ (own_below HHb.out (After.trans (After.drew (After.refl _)) hSw)); go_simp; try with_reducible rfl)
          try simp only [Act.put, List.getElem_toArray, List.getElem_cons_succ, List.getElem_cons_zero, List.setIfInBounds_toArray, List.set_cons_zero, List.set_cons_succ]
          refine Script.load (i := 15) (v := ?_) rfl (by kernel_rfl) (by kernel_rfl) (fun _ _ _ h => h) (by kernel_rfl) ?_ ?_
          rotate_left
          · (intro wS hSw; obtain ⟨l0, l1, l2⟩ := CE.out _ (own_below HHb.out (After.trans (After.drew (After.refl _)) hSw)); go_simp; try with_reducible rfl)
          try simp only [Act.put, List.getElem_toArray, List.getElem_cons_succ, List.getElem_cons_zero, List.setIfInBounds_toArray, List.set_cons_zero, List.set_cons_succ]
          refine Script.load (i := 16) (v := ?_) rfl (by kernel_rfl) (by kernel_rfl) (fun _ _ _ h => h) (by kernel_rfl) ?_ ?_
          rotate_left
          · (intro wS hSw; obtain ⟨l0, l1, l2⟩ := CE.out _ (own_below HHb.out (After.trans (After.drew (After.refl _)) hSw)); go_simp; try with_reducible rfl)
          try simp only [Act.put, List.getElem_toArray, List.getElem_cons_succ, List.getElem_cons_zero, List.setIfInBounds_toArray, List.set_cons_zero, List.set_cons_succ]
          refine Script.load (i := 17) (v := ?_) rfl (by kernel_rfl) (by kernel_rfl) (fun _ _ _ h => h) (by kernel_rfl) ?_ ?_
          rotate_left
          · (intro wS hSw; obtain ⟨l0, l1, l2⟩ := CE.out _ (own_below HHb.out (After.trans (After.drew (After.refl _)) hSw)); go_simp; try with_reducible rfl)
          try simp only [Act.put, List.getElem_toArray, List.getElem_cons_succ, List.getElem_cons_zero, List.setIfInBounds_toArray, List.set_cons_zero, List.set_cons_succ]
          refine Script.load (i := 18) (v := ?_) rfl (by kernel_rfl) (by kernel_rfl) (fun _ _ _ h => h) (by kernel_rfl) ?_ ?_
          rotate_left
          · (intro wS hSw; obtain ⟨l0, l1, l2⟩ := CE.out _ (own_below HHb.out (After.trans (After.drew (After.refl _)) hSw)); go_simp; try with_reducible rfl)
          try simp only [Act.put, List.getElem_toArray, List.getElem_cons_succ, List.getElem_cons_zero, List.setIfInBounds_toArray, List.set_cons_zero, List.set_cons_succ]
          refine Script.load (i := 19) (v := ?_) rfl (by kernel_rfl) (by kernel_rfl) (fun _ _ _ h => h) (by kernel_rfl) ?_ ?_
          rotate_left
          · (intro wS hSw; obtain ⟨l0, l1, l2⟩ := CE.out _ (own_below HHb.out (After.trans (After.drew (After.refl _)) hSw)); go_simp; try with_reducible rfl)
          try simp only [Act.put, List.getElem_toArray, List.getElem_cons_succ, List.getElem_cons_zero, List.setIfInBounds_toArray, List.set_cons_zero, List.set_cons_succ]
          refine Script.load (i := 20) (v := ?_) rfl (by kernel_rfl) (by kernel_rfl) (fun _ _ _ h => h) (by kernel_rfl) ?_ ?_
          rotate_left
          · (intro wS hSw; obtain ⟨l0, l1, l2⟩ := CE.out _ (own_below HHb.out (After.trans (After.drew (After.refl _)) hSw)); go_simp; try with_reducible rfl)
          try simp only [Act.put, List.getElem_toArray, List.getElem_cons_succ, List.getElem_cons_zero, List.setIfInBounds_toArray, List.set_cons_zero, List.set_cons_succ]
          refine Script.done (by kernel_rfl) ?_
          intro wD hD hG
          have hb6 := After.trans (After.drew (After.refl _)) hD
          have HL6 := Lib.hid (HLb.out.below hb6)
          have HH6 := Lib.hid (own_below HHb.out hb6)
          have B6 := Lib.hid (Bb.out.later hb6)
          clear hD hG hb6 HLb HHb Bb
          have hbz : Hid (w.heap.size + 1 ≤ wD.heap.size) := B6.out.2.2.2.1
          obtain ⟨l0, l1, l2⟩ := CE.out _ HH6.out
          go_wp2_with (at_builtin; refine wpList_append_line rfl (.tmp 43) (.tmp 48) 26 rfl (w.heap.size + 1) 58 i0 (.agg #[.int .i64 0, .int .i64 0, .int .i64 0]) Try.underlying26 hi hz0 hz1 hz2 rfl _ _ ys rfl HL6.out.2 _ rfl rfl hln.out hbz.out ?_; intro g' cap' w7 hown' hgrow hb2 hat)
          have hl7 : ys.length = m := HL6.out.1
          have HL7 : Hid (Held w7 (w.heap.size + 1) (.slice (some ⟨g', 0, none⟩) (m + 1) cap') (m + 1) (ys ++ [((f' : Int), (o' : Int), (t' : Int))])) := ⟨by rw [List.length_append, hl7]; rfl, hown'⟩
          have hne := HA.out g rfl
          have HH7 : Hid (w7.ownsRow B 58 3 (.slice (some ⟨g, 0, none⟩) n gc) n (lv xs)) := (own_below HH6.out ((Below.refl _ _).alloc (Nat.le_refl _) _)).kept hgrow (.inr (fun h => hne h.symm))
          have B7 := Lib.hid (B6.out.kept hb2 (Nat.lt_succ_self _) (Nat.le_succ _))
          have HA7 : Hid (∀ g0, some (⟨g, 0, none⟩ : Addr) = some ⟨g0, 0, none⟩ → (Value.slice (some ⟨g', 0, none⟩) (m + 1) cap').ownBlock ≠ some g0) := fun g0 h1 h2 => by
            have hg0 : g = g0 := by simpa using h1
            have hg' : g' = g0 := by simpa [Value.ownBlock] using h2
            rw [← hg0] at hg'
            rcases hat with h3 | h3
            · exact hne ((show v.ownBlock = some g' from h3).trans (by rw [hg']))
            · have h4 := (HH6.out.lt g rfl).2
              have h5 : g' = wD.heap.size + 1 := h3
              omega
          clear hown' hgrow hb2 hl7 hbz HL6 HH6 B6 hln hat hne l0 l1 l2
          go_wp2_with fail
          go_roundw
          case rel => exact ⟨k + 1, m + 1, _, _, by omega, by omega, by go_num, rfl, by unfold Hid; rw [HF.out, hys.out], HL7, HH7, HA7, B7⟩
          case measure => simp [intOf]; omega
      · obtain rfl : k = n := by omega
        have hp : Hid (OwnLines (xs.filter (befL P)) w (.returned v) wr) := by
          refine ⟨_, rfl, ?_, B4.out.2.2.2.2⟩
          have e : xs.filter (befL P) = ys := by rw [hys.out, List.take_of_length_le (by rw [HN.out]; exact Nat.le_refl _)]
          rw [e, HL.out.1]
          exact own_base HL.out.2 (Nat.le_succ _)
        clear HL HH B4
        go_wp2_with fail
        go_ret
        exact hp.out
end Go.Proofs.Ytdlpfpeblaapdaa
