/- What is reached, of the model: CanReach, CountReach, FewestLeft, FinalsOf, for every three ints and ints up to 2^63 - 1. -/
import Derived.Test.YtkenlighpelhiaaReachB
import Derived.Test.YtkenlighpelhiaaClasses
namespace Go.Proofs.Ytkenlighpelhiaa
open Go.RowKit
set_option linter.unusedVariables false
set_option linter.unusedSimpArgs false
theorem specHolesR (W H Z : Int) (w : World) : Calls Try.prog 36 #[.agg #[.int .i64 W, .int .i64 H, .int .i64 Z]] w (OwnInts (holesR W H Z) w) := by
  cases h : okB W H Z
  · rw [show holesR W H Z = [] by simp [holesR, h]]; exact specHoles_no h w
  · obtain ⟨N, z, rfl, ho⟩ := ok_of h
    rw [show holesR W H z = bitsOf N z by simp [holesR, h, ho.list]]; exact specHoles ho w
theorem can_no {back : Bool} {W H Z P G : Int} (h : (smallB W H Z && posB W H Z P && posB W H Z G) = false) : reachB back W H Z P G = false := by unfold reachB; rw [h]; rfl
/-- A list that grows beside two that are read. -/
structure TwoSt (w0 : World) (W H Z : Int) (C B1 B2 : Nat) (va : Option Addr) (n vc : Nat) (l : List Nat) (ha : Option Addr) (m hc : Nat) (hs : List Nat) (v : Value) (out : List Nat) (w : World) : Prop where
  out : w.ownsRow C 3 1 v out.length (Ints out)
  l : w.ownsRow B1 3 1 (.slice va n vc) n (Ints l)
  hs : w.ownsRow B2 3 1 (.slice ha m hc) m (Ints hs)
  apart : ∀ g0, va = some ⟨g0, 0, none⟩ ∨ ha = some ⟨g0, 0, none⟩ → v.ownBlock ≠ some g0
  box : Box w0.heap.size W H Z w0 w
  low : w0.heap.size < C
  size : C ≤ w.heap.size
theorem TwoSt.later {w0 w w' : World} {W H Z : Int} {C B1 B2 n vc m hc : Nat} {va ha : Option Addr} {l hs out : List Nat} {v : Value} (h : TwoSt w0 W H Z C B1 B2 va n vc l ha m hc hs v out w) (hb : Below w.heap.size w w') : TwoSt w0 W H Z C B1 B2 va n vc l ha m hc hs v out w' :=
  ⟨own_below h.out hb, own_below h.l hb, own_below h.hs hb, h.apart, h.box.later hb, h.low, Nat.le_trans h.size hb.size⟩
theorem TwoSt.push {w0 w w' : World} {W H Z : Int} {C B1 B2 n vc m hc g cap x : Nat} {va ha : Option Addr} {l hs out : List Nat} {v : Value} {e : TypeId} (h : TwoSt w0 W H Z C B1 B2 va n vc l ha m hc hs v out w)
    (hown : w'.ownsRow C 3 1 (.slice (some ⟨g, 0, none⟩) (out.length + 1) cap) (out.length + 1) (Ints (out ++ [x]))) (hgrow : (w.alloc (.cells #[.int .i64 (x : Int)] e)).grownBy w' v.ownBlock) (hb : Below C w w') (hat : v.ownBlock = some g ∨ g = w.heap.size + 1) :
    TwoSt w0 W H Z C B1 B2 va n vc l ha m hc hs (.slice (some ⟨g, 0, none⟩) (out.length + 1) cap) (out ++ [x]) w' := by
  have hba : Below w.heap.size w (w.alloc (.cells #[.int .i64 (x : Int)] e)) := (Below.refl _ _).alloc (Nat.le_refl _) _
  have kept : ∀ {B n c : Nat} {a : Option Addr} {xs : List Nat}, w.ownsRow B 3 1 (.slice a n c) n (Ints xs) → (∀ g0, a = some ⟨g0, 0, none⟩ → v.ownBlock ≠ some g0) → w'.ownsRow B 3 1 (.slice a n c) n (Ints xs) := fun {B n c a xs} ho ha => by
    refine (own_below ho hba).kept hgrow ?_
    rcases Go.Joins.ownsRow_forms ho with ⟨h1, -⟩ | ⟨g', cap', h1⟩
    · left; injection h1 with h1 _ _; subst h1; rfl
    · right
      injection h1 with h1 _ _
      subst h1
      exact fun e => ha g' rfl e.symm
  refine ⟨by rw [List.length_append]; exact hown, kept h.l (fun g0 hg => h.apart g0 (.inl hg)), kept h.hs (fun g0 hg => h.apart g0 (.inr hg)), fun g0 hg e => ?_, h.box.kept hb h.low (Nat.le_of_lt h.low), h.low, Nat.le_trans h.size hb.size⟩
  have hg' : g = g0 := by simpa [Value.ownBlock] using e
  subst hg'
  rcases hat with h3 | h3
  · exact h.apart g hg h3
  · rcases hg with hg | hg
    · have := (h.l.lt g (by rw [hg]; rfl)).2
      omega
    · have := (h.hs.lt g (by rw [hg]; rfl)).2
      omega
theorem fin_snoc (W H Z P : Int) {hs : List Nat} (i : Nat) {h : Nat} (hi : hs[i]? = some h) : (hs.take (i + 1)).filter (fun k => decide (2 ^ k ∈ reachL false W H Z P)) = (hs.take i).filter (fun k => decide (2 ^ k ∈ reachL false W H Z P)) ++ (if 2 ^ h ∈ reachL false W H Z P then [h] else []) := by
  rw [take_one hi, List.filter_append]
  congr 1
  by_cases hc : 2 ^ h ∈ reachL false W H Z P <;> simp [hc]
theorem mem_take_next {l : List Nat} (hl : l.Nodup) {k x : Nat} (hk : l[k]? = some x) (y : Nat) : (y ∈ l.take (k + 1) ↔ y ∈ l.take k ∨ y = x) ∧ x ∉ l.take k := by
  refine ⟨by rw [take_one hk, List.mem_append, List.mem_singleton], fun hx => ?_⟩
  have := List.Nodup.sublist (List.take_sublist (k + 1) l) hl
  rw [take_one hk] at this
  exact (List.pairwise_append.1 this).2.2 x hx x (by simp) rfl
set_option maxHeartbeats 8000000 in
set_option maxRecDepth 100000 in
theorem specFinals (W H Z P : Int) (hP : P ≤ 9223372036854775807) (w : World) : Calls Try.prog 40 #[.agg #[.int .i64 W, .int .i64 H, .int .i64 Z], .int .i64 P] w (OwnInts (finL W H Z P) w) := by
  obtain ⟨j0, hj, jz0, jz1, jz2⟩ : ∃ i, Try.prog.info? 3 = some i ∧ i.zero = some (.int .i64 0) ∧ i.size = 1 ∧ i.bytes = 8 := ⟨_, by rfl, by rfl, by rfl, by rfl⟩
  have CR := Lib.hid (fun w => specReach W H Z P hP w)
  have CH := Lib.hid (fun w => specHolesR W H Z w)
  have hlen := reach_len false W H Z P
  have hhl := holesR_len W H Z
  have HLt := Lib.hid (fun q (h : q ∈ reachL false W H Z P) => reach_lt h)
  have HKt := Lib.hid (fun k (h : k ∈ holesR W H Z) => holesR_lt h)
  have HMem := Lib.hid (fun k x (hk : (reachL false W H Z P)[k]? = some x) y => mem_take_next (reach_nodup false W H Z P) hk y)
  have HNx := Lib.hid (fun hs i h hi => fin_snoc W H Z P (hs := hs) i (h := h) hi)
  unfold finL
  generalize reachL false W H Z P = l at *
  generalize holesR W H Z = hs at *
  obtain ⟨n, hn⟩ : ∃ n, l.length = n := ⟨_, rfl⟩
  obtain ⟨m, hm⟩ : ∃ m, hs.length = m := ⟨_, rfl⟩
  rw [hn] at hlen
  rw [hm] at hhl
  have HN := Lib.hid hn
  have HM := Lib.hid hm
  clear hP hn hm
  go_enter Try.func40, Try.ntmps40
  go_wp2_with fail
  have B01 := Lib.hid (box_new W H Z w)
  have HL1 : Hid (((w.alloc (.cells #[.int .i64 W, .int .i64 H, .int .i64 Z] 26)).alloc (.cells #[] 3)).ownsRow (w.heap.size + 1) 3 1 (.slice (some ⟨w.heap.size + 1, 0, none⟩) 0 0) 0 (Ints [])) := by
    have := World.ownsRow_made (base := w.heap.size + 1) (e := 3) (size := 1) (w.alloc (.cells #[.int .i64 W, .int .i64 H, .int .i64 Z] 26)) #[] 0 (by simp) (by unfold maxLen; omega) rfl
    simpa [Hid, Ints] using this
  have B0 : Hid (Box w.heap.size W H Z w ((w.alloc (.cells #[.int .i64 W, .int .i64 H, .int .i64 Z] 26)).alloc (.cells #[] 3))) := B01.out.later ((Below.refl _ _).alloc (Nat.le_refl _) _)
  clear B01
  generalize (w.alloc (.cells #[.int .i64 W, .int .i64 H, .int .i64 Z] 26)).alloc (.cells #[] 3) = W1 at *
  obtain ⟨c0, c1, c2, hlt, hb1⟩ := B0.out
  go_wp2_with fail
  refine (CR.out _).mono ?_
  rintro e w2 ⟨v, rfl, hh, hb⟩
  rw [HN.out] at hh
  obtain ⟨va, vc, rfl⟩ := one_form hh
  have B2 := Lib.hid (B0.out.later hb)
  have HL2 := Lib.hid (own_below HL1.out hb)
  have HR2 := Lib.hid hh
  have hz1' := (HL1.out.lt _ rfl).2
  have hz2' := hb.size
  clear hb hh c0 c1 c2 hlt hb1 B0 HL1
  obtain ⟨c0, c1, c2, hlt, hb1⟩ := B2.out
  go_wp2_with fail
  refine (CH.out _).mono ?_
  rintro e w3 ⟨hv, rfl, hh, hb⟩
  rw [HM.out] at hh
  obtain ⟨ha, hc, rfl⟩ := one_form hh
  have hz3' := hb.size
  have HS3 : Hid (TwoSt w W H Z (w.heap.size + 1) W1.heap.size w2.heap.size va n vc l ha m hc hs (.slice (some ⟨w.heap.size + 1, 0, none⟩) 0 0) [] w3) := by
    refine ⟨own_below HL2.out hb, own_below HR2.out hb, hh, fun g0 hg e => ?_, B2.out.later hb, by omega, by omega⟩
    have hg' : w.heap.size + 1 = g0 := by simpa [Value.ownBlock] using e
    subst hg'
    rcases hg with hg | hg
    · have := (HR2.out.lt _ (by rw [hg]; rfl)).1
      simp only at this
      omega
    · have := (hh.lt _ (by rw [hg]; rfl)).1
      simp only at this
      omega
  clear hb hh c0 c1 c2 hlt hb1 B2 HL2 HR2 hz1' hz2' hz3' CR CH
  generalize W1.heap.size = B1 at *
  generalize w2.heap.size = B2 at *
  go_wp2_with fail
  go_loopw [5, 8] (fun u i wr => ∃ (k : Nat) (v : Value), k ≤ m ∧ i = .int .i64 k ∧ v = u ∧ Hid (TwoSt w W H Z (w.heap.size + 1) B1 B2 va n vc l ha m hc hs v ((hs.take k).filter (fun k => decide (2 ^ k ∈ l))) wr)) (fun _ i _ => m - (intOf i).toNat)
  case atStart => exact ⟨0, _, Nat.zero_le _, rfl, rfl, HS3⟩
  case round =>
    clear HS3
    obtain ⟨i, v, hi, rfl, rfl, HS⟩ := hrel
    by_cases him : i < m
    · have i0 : (0 : Int) ≤ (i : Int) := by omega
      have i1 : (i : Int) < (m : Int) := by omega
      obtain ⟨h, hh⟩ : ∃ h, hs[i]? = some h := ⟨_, List.getElem?_eq_getElem (by rw [HM.out]; exact him)⟩
      have hh49 := HKt.out h (List.mem_of_getElem? hh)
      obtain ⟨q1, e1, n1, l1, u1⟩ := pow_nat h hh49
      have hqw : IntKind.i64.wrap (q1 : Int) = (q1 : Int) := IntWalk.i64_in _ (by omega)
      have HNX := Lib.hid (HNx.out hs i h hh)
      obtain ⟨out0, hout⟩ : ∃ o, (hs.take i).filter (fun k => decide (2 ^ k ∈ l)) = o := ⟨_, rfl⟩
      rw [hout] at HNX HS
      rw [n1] at HNX
      have hol : out0.length ≤ 49 := by
        rw [← hout]
        refine Nat.le_trans (List.length_filter_le ..) (Nat.le_trans (List.length_take_le' ..) (by rw [HM.out]; exact hhl))
      have HHH := Lib.hid hh
      have HS0 : Hid (TwoSt w W H Z (w.heap.size + 1) B1 B2 va n vc l ha m hc hs v (if q1 ∈ l.take 0 then out0 ++ [h] else out0) wr) := by
        rw [List.take_zero, if_neg (List.not_mem_nil)]; exact HS.out
      clear hh hout n1 HS
      go_wp2_with fail
      go_loopw [5, 9] (fun u i wr => ∃ (k : Nat) (v : Value), k ≤ n ∧ i = .int .i64 k ∧ v = u ∧ Hid (TwoSt w W H Z (w.heap.size + 1) B1 B2 va n vc l ha m hc hs v (if q1 ∈ l.take k then out0 ++ [h] else out0) wr)) (fun _ i _ => n - (intOf i).toNat)
      case atStart => exact ⟨0, v, Nat.zero_le _, rfl, rfl, HS0⟩
      case round =>
        clear HS0
        obtain ⟨k, v, hk, rfl, rfl, HS⟩ := hrel
        by_cases hkn : k < n
        · have k0 : (0 : Int) ≤ (k : Int) := by omega
          have k1 : (k : Int) < (n : Int) := by omega
          obtain ⟨x, hx⟩ : ∃ x, l[k]? = some x := ⟨_, List.getElem?_eq_getElem (by rw [HN.out]; exact hkn)⟩
          have hx65 := HLt.out x (List.mem_of_getElem? hx)
          obtain ⟨hmem, hnot⟩ := HMem.out k x hx q1
          obtain ⟨gl, hva⟩ := one_block HS.out.l (by omega)
          obtain ⟨gh, hha⟩ := one_block HS.out.hs (by omega)
          have HCl : Hid (∀ (w' : World) v o, TwoSt w W H Z (w.heap.size + 1) B1 B2 va n vc l ha m hc hs v o w' → w'.cell? ⟨gl, k, none⟩ = some (.int .i64 (x : Int)) ∧ w'.cell? ⟨gh, i, none⟩ = some (.int .i64 (h : Int))) := fun w' v o ht => by
            have h1 := ht.l
            have h2 := ht.hs
            rw [hva] at h1
            rw [hha] at h2
            exact ⟨one_cell_own h1 hkn hx, one_cell_own h2 him HHH.out⟩
          have HMemq := Lib.hid hmem
          have HNot := Lib.hid hnot
          clear hx hmem hnot
          by_cases hxq : x = q1
          · subst hxq
            have HS1 : Hid (TwoSt w W H Z (w.heap.size + 1) B1 B2 va n vc l ha m hc hs v out0 wr) := by have := HS.out; rw [if_neg HNot.out] at this; exact this
            have HO : Hid ((if x ∈ l.take (k + 1) then out0 ++ [h] else out0) = out0 ++ [h]) := if_pos (HMemq.out.2 (.inr rfl))
            subst hva hha
            clear HS HMemq HNot
            have hxw : IntKind.i64.wrap (x : Int) = (x : Int) := IntWalk.i64_in _ (by omega)
            go_wp2_with fail
            refine wp_region_script (by kernel_rfl) (by kernel_rfl) ?_
            refine Script.load (i := 0) (v := ?_) rfl (by kernel_rfl) (by kernel_rfl) (fun _ _ _ h => h) (by kernel_rfl) ?_ ?_
            rotate_left
            · (intro wS hSw; obtain ⟨x0, x1⟩ := HCl.out _ _ _ (HS1.out.later (After.trans (After.drew (After.refl _)) hSw)); go_simp; try with_reducible rfl)
            try simp only [Act.put, List.getElem_toArray, List.getElem_cons_succ, List.getElem_cons_zero, List.setIfInBounds_toArray, List.set_cons_zero, List.set_cons_succ]
            refine Script.load (i := 1) (v := ?_) rfl (by kernel_rfl) (by kernel_rfl) (fun _ _ _ h => h) (by kernel_rfl) ?_ ?_
            rotate_left
            · (intro wS hSw; obtain ⟨x0, x1⟩ := HCl.out _ _ _ (HS1.out.later (After.trans (After.drew (After.refl _)) hSw)); go_simp; try with_reducible rfl)
            try simp only [Act.put, List.getElem_toArray, List.getElem_cons_succ, List.getElem_cons_zero, List.setIfInBounds_toArray, List.set_cons_zero, List.set_cons_succ]
            refine Script.load (i := 2) (v := ?_) rfl (by kernel_rfl) (by kernel_rfl) (fun _ _ _ h => h) (by kernel_rfl) ?_ ?_
            rotate_left
            · (intro wS hSw; obtain ⟨x0, x1⟩ := HCl.out _ _ _ (HS1.out.later (After.trans (After.drew (After.refl _)) hSw)); go_simp; try with_reducible rfl)
            try simp only [Act.put, List.getElem_toArray, List.getElem_cons_succ, List.getElem_cons_zero, List.setIfInBounds_toArray, List.set_cons_zero, List.set_cons_succ]
            refine Script.load (i := 3) (v := ?_) rfl (by kernel_rfl) (by kernel_rfl) (fun _ _ _ h => h) (by kernel_rfl) ?_ ?_
            rotate_left
            · (intro wS hSw; obtain ⟨x0, x1⟩ := HCl.out _ _ _ (HS1.out.later (After.trans (After.drew (After.refl _)) hSw)); go_simp; try with_reducible rfl)
            try simp only [Act.put, List.getElem_toArray, List.getElem_cons_succ, List.getElem_cons_zero, List.setIfInBounds_toArray, List.set_cons_zero, List.set_cons_succ]
            refine Script.load (i := 4) (v := ?_) rfl (by kernel_rfl) (by kernel_rfl) (fun _ _ _ h => h) (by kernel_rfl) ?_ ?_
            rotate_left
            · (intro wS hSw; obtain ⟨x0, x1⟩ := HCl.out _ _ _ (HS1.out.later (After.trans (After.drew (After.refl _)) hSw)); go_simp; try with_reducible rfl)
            try simp only [Act.put, List.getElem_toArray, List.getElem_cons_succ, List.getElem_cons_zero, List.setIfInBounds_toArray, List.set_cons_zero, List.set_cons_succ]
            refine Script.load (i := 5) (v := ?_) rfl (by kernel_rfl) (by kernel_rfl) (fun _ _ _ h => h) (by kernel_rfl) ?_ ?_
            rotate_left
            · (intro wS hSw; obtain ⟨x0, x1⟩ := HCl.out _ _ _ (HS1.out.later (After.trans (After.drew (After.refl _)) hSw)); go_simp; try with_reducible rfl)
            try simp only [Act.put, List.getElem_toArray, List.getElem_cons_succ, List.getElem_cons_zero, List.setIfInBounds_toArray, List.set_cons_zero, List.set_cons_succ]
            refine Script.load (i := 6) (v := ?_) rfl (by kernel_rfl) (by kernel_rfl) (fun _ _ _ h => h) (by kernel_rfl) ?_ ?_
            rotate_left
            · (intro wS hSw; obtain ⟨x0, x1⟩ := HCl.out _ _ _ (HS1.out.later (After.trans (After.drew (After.refl _)) hSw)); go_simp; try with_reducible rfl)
            try simp only [Act.put, List.getElem_toArray, List.getElem_cons_succ, List.getElem_cons_zero, List.setIfInBounds_toArray, List.set_cons_zero, List.set_cons_succ]
            refine Script.load (i := 7) (v := ?_) rfl (by kernel_rfl) (by kernel_rfl) (fun _ _ _ h => h) (by kernel_rfl) ?_ ?_
            rotate_left
            · (intro wS hSw; obtain ⟨x0, x1⟩ := HCl.out _ _ _ (HS1.out.later (After.trans (After.drew (After.refl _)) hSw)); go_simp; try with_reducible rfl)
            try simp only [Act.put, List.getElem_toArray, List.getElem_cons_succ, List.getElem_cons_zero, List.setIfInBounds_toArray, List.set_cons_zero, List.set_cons_succ]
            refine Script.load (i := 8) (v := ?_) rfl (by kernel_rfl) (by kernel_rfl) (fun _ _ _ h => h) (by kernel_rfl) ?_ ?_
            rotate_left
            · (intro wS hSw; obtain ⟨x0, x1⟩ := HCl.out _ _ _ (HS1.out.later (After.trans (After.drew (After.refl _)) hSw)); go_simp; try with_reducible rfl)
            try simp only [Act.put, List.getElem_toArray, List.getElem_cons_succ, List.getElem_cons_zero, List.setIfInBounds_toArray, List.set_cons_zero, List.set_cons_succ]
            refine Script.load (i := 9) (v := ?_) rfl (by kernel_rfl) (by kernel_rfl) (fun _ _ _ h => h) (by kernel_rfl) ?_ ?_
            rotate_left
            · (intro wS hSw; obtain ⟨x0, x1⟩ := HCl.out _ _ _ (HS1.out.later (After.trans (After.drew (After.refl _)) hSw)); go_simp; try with_reducible rfl)
            try simp only [Act.put, List.getElem_toArray, List.getElem_cons_succ, List.getElem_cons_zero, List.setIfInBounds_toArray, List.set_cons_zero, List.set_cons_succ]
            refine Script.done (by kernel_rfl) ?_
            intro wD hD hG
            have HS2 := Lib.hid (HS1.out.later (After.trans (After.drew (After.refl _)) hD))
            obtain ⟨x0, x1⟩ := HCl.out _ _ _ HS2.out
            have hbz := HS2.out.size
            have hon : out0.length ≤ 1000000000 := by omega
            obtain ⟨ol, holn⟩ : ∃ ol, out0.length = ol := ⟨_, rfl⟩
            have hown0 := HS2.out.out
            rw [holn] at hown0 hon
            have HPush := Lib.hid (fun w' g cap ho hg hb hat => HS2.out.push (w' := w') (g := g) (cap := cap) (x := h) (e := 3) ho hg hb hat)
            rw [holn] at HPush
            clear hD hG HS1 HS2 HCl holn
            go_wp2_with (at_builtin; refine wpList_append_at rfl (.tmp 38) (.tmp 43) 24 rfl (w.heap.size + 1) 3 j0 (.int .i64 0) Try.underlying24 hj jz0 jz1 jz2 rfl _ _ out0 rfl hown0 _ rfl rfl hon hbz ?_; intro g' cap' w7 hown' hgrow hb2 hat)
            have HS7 := Lib.hid (HPush.out w7 g' cap' hown' hgrow hb2 hat)
            rw [← HO.out] at HS7
            clear hown' hgrow hb2 hat HPush hown0 x0 x1
            go_wp2_with fail
            go_roundw
            case rel => exact ⟨k + 1, _, by omega, by go_num, rfl, HS7⟩
            case measure => simp [intOf]; omega
          · have HO : Hid ((if q1 ∈ l.take (k + 1) then out0 ++ [h] else out0) = if q1 ∈ l.take k then out0 ++ [h] else out0) := by
              have h1 : (q1 ∈ l.take (k + 1)) = (q1 ∈ l.take k) := propext (HMemq.out.trans ⟨fun e => e.resolve_right (fun e => hxq e.symm), .inl⟩)
              unfold Hid; simp only [h1]
            rw [← HO.out] at HS
            have hne : ((x : Int) == (q1 : Int)) = false := by simp; omega
            subst hva hha
            clear HMemq HNot HO
            go_wp2_with fail
            refine wp_region_script (by kernel_rfl) (by kernel_rfl) ?_
            refine Script.load (i := 0) (v := ?_) rfl (by kernel_rfl) (by kernel_rfl) (fun _ _ _ h => h) (by kernel_rfl) ?_ ?_
            rotate_left
            · (intro wS hSw; obtain ⟨x0, x1⟩ := HCl.out _ _ _ (HS.out.later (After.trans (After.drew (After.refl _)) hSw)); go_simp; try with_reducible rfl)
            try simp only [Act.put, List.getElem_toArray, List.getElem_cons_succ, List.getElem_cons_zero, List.setIfInBounds_toArray, List.set_cons_zero, List.set_cons_succ]
            refine Script.load (i := 1) (v := ?_) rfl (by kernel_rfl) (by kernel_rfl) (fun _ _ _ h => h) (by kernel_rfl) ?_ ?_
            rotate_left
            · (intro wS hSw; obtain ⟨x0, x1⟩ := HCl.out _ _ _ (HS.out.later (After.trans (After.drew (After.refl _)) hSw)); go_simp; try with_reducible rfl)
            try simp only [Act.put, List.getElem_toArray, List.getElem_cons_succ, List.getElem_cons_zero, List.setIfInBounds_toArray, List.set_cons_zero, List.set_cons_succ]
            refine Script.load (i := 2) (v := ?_) rfl (by kernel_rfl) (by kernel_rfl) (fun _ _ _ h => h) (by kernel_rfl) ?_ ?_
            rotate_left
            · (intro wS hSw; obtain ⟨x0, x1⟩ := HCl.out _ _ _ (HS.out.later (After.trans (After.drew (After.refl _)) hSw)); go_simp; try with_reducible rfl)
            try simp only [Act.put, List.getElem_toArray, List.getElem_cons_succ, List.getElem_cons_zero, List.setIfInBounds_toArray, List.set_cons_zero, List.set_cons_succ]
            refine Script.load (i := 3) (v := ?_) rfl (by kernel_rfl) (by kernel_rfl) (fun _ _ _ h => h) (by kernel_rfl) ?_ ?_
            rotate_left
            · (intro wS hSw; obtain ⟨x0, x1⟩ := HCl.out _ _ _ (HS.out.later (After.trans (After.drew (After.refl _)) hSw)); go_simp; try with_reducible rfl)
            try simp only [Act.put, List.getElem_toArray, List.getElem_cons_succ, List.getElem_cons_zero, List.setIfInBounds_toArray, List.set_cons_zero, List.set_cons_succ]
            refine Script.load (i := 4) (v := ?_) rfl (by kernel_rfl) (by kernel_rfl) (fun _ _ _ h => h) (by kernel_rfl) ?_ ?_
            rotate_left
            · (intro wS hSw; obtain ⟨x0, x1⟩ := HCl.out _ _ _ (HS.out.later (After.trans (After.drew (After.refl _)) hSw)); go_simp; try with_reducible rfl)
            try simp only [Act.put, List.getElem_toArray, List.getElem_cons_succ, List.getElem_cons_zero, List.setIfInBounds_toArray, List.set_cons_zero, List.set_cons_succ]
            refine Script.load (i := 5) (v := ?_) rfl (by kernel_rfl) (by kernel_rfl) (fun _ _ _ h => h) (by kernel_rfl) ?_ ?_
            rotate_left
            · (intro wS hSw; obtain ⟨x0, x1⟩ := HCl.out _ _ _ (HS.out.later (After.trans (After.drew (After.refl _)) hSw)); go_simp; try with_reducible rfl)
            try simp only [Act.put, List.getElem_toArray, List.getElem_cons_succ, List.getElem_cons_zero, List.setIfInBounds_toArray, List.set_cons_zero, List.set_cons_succ]
            refine Script.load (i := 6) (v := ?_) rfl (by kernel_rfl) (by kernel_rfl) (fun _ _ _ h => h) (by kernel_rfl) ?_ ?_
            rotate_left
            · (intro wS hSw; obtain ⟨x0, x1⟩ := HCl.out _ _ _ (HS.out.later (After.trans (After.drew (After.refl _)) hSw)); go_simp; try with_reducible rfl)
            try simp only [Act.put, List.getElem_toArray, List.getElem_cons_succ, List.getElem_cons_zero, List.setIfInBounds_toArray, List.set_cons_zero, List.set_cons_succ]
            refine Script.load (i := 7) (v := ?_) rfl (by kernel_rfl) (by kernel_rfl) (fun _ _ _ h => h) (by kernel_rfl) ?_ ?_
            rotate_left
            · (intro wS hSw; obtain ⟨x0, x1⟩ := HCl.out _ _ _ (HS.out.later (After.trans (After.drew (After.refl _)) hSw)); go_simp; try with_reducible rfl)
            try simp only [Act.put, List.getElem_toArray, List.getElem_cons_succ, List.getElem_cons_zero, List.setIfInBounds_toArray, List.set_cons_zero, List.set_cons_succ]
            refine Script.load (i := 8) (v := ?_) rfl (by kernel_rfl) (by kernel_rfl) (fun _ _ _ h => h) (by kernel_rfl) ?_ ?_
            rotate_left
            · (intro wS hSw; obtain ⟨x0, x1⟩ := HCl.out _ _ _ (HS.out.later (After.trans (After.drew (After.refl _)) hSw)); go_simp; try with_reducible rfl)
            try simp only [Act.put, List.getElem_toArray, List.getElem_cons_succ, List.getElem_cons_zero, List.setIfInBounds_toArray, List.set_cons_zero, List.set_cons_succ]
            refine Script.load (i := 9) (v := ?_) rfl (by kernel_rfl) (by kernel_rfl) (fun _ _ _ h => h) (by kernel_rfl) ?_ ?_
            rotate_left
            · (intro wS hSw; obtain ⟨x0, x1⟩ := HCl.out _ _ _ (HS.out.later (After.trans (After.drew (After.refl _)) hSw)); go_simp; try with_reducible rfl)
            try simp only [Act.put, List.getElem_toArray, List.getElem_cons_succ, List.getElem_cons_zero, List.setIfInBounds_toArray, List.set_cons_zero, List.set_cons_succ]
            refine Script.done (by kernel_rfl) ?_
            intro wD hD hG
            have HS2 := Lib.hid (HS.out.later (After.trans (After.drew (After.refl _)) hD))
            clear hD hG HS HCl
            go_wp2_with fail
            go_roundw
            case rel => exact ⟨k + 1, _, by omega, by go_num, rfl, HS2⟩
            case measure => simp [intOf]; omega
        · obtain rfl : k = n := by omega
          have hfull : Hid (l.take k = l) := List.take_of_length_le (by rw [HN.out]; exact Nat.le_refl _)
          rw [hfull.out] at HS
          have HO : Hid ((if q1 ∈ l then out0 ++ [h] else out0) = (hs.take (i + 1)).filter (fun k => decide (2 ^ k ∈ l))) := by
            unfold Hid; rw [HNX.out]; split <;> simp
          rw [HO.out] at HS
          go_wp2_with fail
          go_roundw
          case rel => exact ⟨i + 1, v, by omega, by go_num, rfl, HS⟩
          case measure => simp [intOf]; omega
    · obtain rfl : i = m := by omega
      have hfull : Hid (hs.take i = hs) := List.take_of_length_le (by rw [HM.out]; exact Nat.le_refl _)
      rw [hfull.out] at HS
      have hp : Hid (OwnInts (hs.filter (fun k => decide (2 ^ k ∈ l))) w (.returned v) wr) := ⟨v, rfl, own_base HS.out.out (by omega), HS.out.box.2.2.2.2⟩
      clear HS
      go_wp2_with fail
      go_ret
      exact hp.out
end Go.Proofs.Ytkenlighpelhiaa
