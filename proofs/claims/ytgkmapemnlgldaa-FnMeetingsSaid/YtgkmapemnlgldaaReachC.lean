/- What is reached, of the model: CanReach, CountReach, FewestLeft, FinalsOf, for every three ints and ints up to 2^63 - 1. -/
import Derived.Test.YtgkmapemnlgldaaReachB
import Derived.Test.YtgkmapemnlgldaaClasses
namespace Go.Proofs.Ytgkmapemnlgldaa
open Go.RowKit
set_option linter.unusedVariables false
set_option linter.unusedSimpArgs false
theorem specHolesR (W H Z : Int) (w : World) : Calls Try.prog 71 #[.agg #[.int .i64 W, .int .i64 H, .int .i64 Z]] w (OwnInts (holesR W H Z) w) := by
  cases h : okB W H Z
  · rw [show holesR W H Z = [] by simp [holesR, h]]; exact specHoles_no h w
  · obtain ⟨N, z, rfl, ho⟩ := ok_of h
    rw [show holesR W H z = bitsOf N z by simp [holesR, h, ho.list]]; exact specHoles ho w
theorem can_no {back : Bool} {W H Z P G : Int} (h : (smallB W H Z && posB W H Z P && posB W H Z G) = false) : reachB back W H Z P G = false := by unfold reachB; rw [h]; rfl
set_option maxHeartbeats 4000000 in
set_option maxRecDepth 100000 in
theorem specCanRch (W H Z P G : Int) (hP : P ≤ 9223372036854775807) (hG : G ≤ 9223372036854775807) (w : World) : Calls Try.prog 12 #[.agg #[.int .i64 W, .int .i64 H, .int .i64 Z], .int .i64 P, .int .i64 G] w (QB (reachB false W H Z P G) w) := by
  have C1 := Lib.hid (fun b (h : smallB W H Z = b) w => specSmall_is h w)
  have C2 := Lib.hid (fun b (h : posB W H Z P = b) w => specPos_is hP h w)
  have C3 := Lib.hid (fun b (h : posB W H Z G = b) w => specPos_is hG h w)
  cases h1 : smallB W H Z
  · have HR := Lib.hid (can_no (back := false) (W := W) (H := H) (Z := Z) (P := P) (G := G) (by rw [h1]; rfl))
    have C1 := Lib.hid (C1.out _ h1)
    clear h1
    go_enter Try.func12, Try.ntmps12
    go_wp2_with fail
    have B0 := Lib.hid (box_new W H Z w)
    generalize w.alloc (.cells #[.int .i64 W, .int .i64 H, .int .i64 Z] 25) = W1 at *
    obtain ⟨c0, c1, c2, hlt, hb1⟩ := B0.out
    go_wp2_with fail
    refine (C1.out _).mono ?_
    rintro e w1 ⟨rfl, hb⟩
    have B1 := Lib.hid (B0.out.later hb)
    clear hb
    go_wp2_with fail
    go_ret
    exact ⟨ret_bool HR.out.symm, B1.out.2.2.2.2⟩
  have K1 := Lib.hid (C1.out _ h1)
  cases h2 : posB W H Z P
  · have HR := Lib.hid (can_no (back := false) (W := W) (H := H) (Z := Z) (P := P) (G := G) (by rw [h1, h2]; rfl))
    have K2 := Lib.hid (C2.out _ h2)
    clear h1 h2
    go_enter Try.func12, Try.ntmps12
    go_wp2_with fail
    have B0 := Lib.hid (box_new W H Z w)
    generalize w.alloc (.cells #[.int .i64 W, .int .i64 H, .int .i64 Z] 25) = W1 at *
    obtain ⟨c0, c1, c2, hlt, hb1⟩ := B0.out
    go_wp2_with fail
    refine (K1.out _).mono ?_
    rintro e w1 ⟨rfl, hb⟩
    have B1 := Lib.hid (B0.out.later hb)
    clear hb c0 c1 c2 hlt hb1
    obtain ⟨c0, c1, c2, hlt, hb1⟩ := B1.out
    go_wp2_with fail
    refine (K2.out _).mono ?_
    rintro e w2 ⟨rfl, hb⟩
    have B2 := Lib.hid (B1.out.later hb)
    clear hb
    go_wp2_with fail
    go_ret
    exact ⟨ret_bool HR.out.symm, B2.out.2.2.2.2⟩
  have K2 := Lib.hid (C2.out _ h2)
  cases h3 : posB W H Z G
  · have HR := Lib.hid (can_no (back := false) (W := W) (H := H) (Z := Z) (P := P) (G := G) (by rw [h1, h2, h3]; rfl))
    have K3 := Lib.hid (C3.out _ h3)
    clear h1 h2 h3
    go_enter Try.func12, Try.ntmps12
    go_wp2_with fail
    have B0 := Lib.hid (box_new W H Z w)
    generalize w.alloc (.cells #[.int .i64 W, .int .i64 H, .int .i64 Z] 25) = W1 at *
    obtain ⟨c0, c1, c2, hlt, hb1⟩ := B0.out
    go_wp2_with fail
    refine (K1.out _).mono ?_
    rintro e w1 ⟨rfl, hb⟩
    have B1 := Lib.hid (B0.out.later hb)
    clear hb c0 c1 c2 hlt hb1
    obtain ⟨c0, c1, c2, hlt, hb1⟩ := B1.out
    go_wp2_with fail
    refine (K2.out _).mono ?_
    rintro e w2 ⟨rfl, hb⟩
    have B2 := Lib.hid (B1.out.later hb)
    clear hb c0 c1 c2 hlt hb1
    obtain ⟨c0, c1, c2, hlt, hb1⟩ := B2.out
    go_wp2_with fail
    refine (K3.out _).mono ?_
    rintro e w3 ⟨rfl, hb⟩
    have B3 := Lib.hid (B2.out.later hb)
    clear hb
    go_wp2_with fail
    go_ret
    exact ⟨ret_bool HR.out.symm, B3.out.2.2.2.2⟩
  · have K3 := Lib.hid (C3.out _ h3)
    obtain ⟨M, hM, hM2, hpos, hseen⟩ := specSeenL false h1 h2
    obtain ⟨q, rfl, hqM⟩ := hpos G h3
    have HS := Lib.hid hseen
    have HR : Hid (reachB false W H Z P (q : Int) = seenB false W H Z P q) := by unfold Hid reachB; rw [h1, h2, h3, Int.toNat_natCast]; rfl
    rw [HR.out]
    have q0 : (0 : Int) ≤ (q : Int) := by omega
    have q1 : (q : Int) < (M : Int) := by omega
    generalize seenB false W H Z P = s at *
    clear h1 h2 h3 hM2 hpos hseen C1 C2 C3
    go_enter Try.func12, Try.ntmps12
    go_wp2_with fail
    have B0 := Lib.hid (box_new W H Z w)
    generalize w.alloc (.cells #[.int .i64 W, .int .i64 H, .int .i64 Z] 25) = W1 at *
    obtain ⟨c0, c1, c2, hlt, hb1⟩ := B0.out
    go_wp2_with fail
    refine (K1.out _).mono ?_
    rintro e w1 ⟨rfl, hb⟩
    have B1 := Lib.hid (B0.out.later hb)
    clear hb c0 c1 c2 hlt hb1
    obtain ⟨c0, c1, c2, hlt, hb1⟩ := B1.out
    go_wp2_with fail
    refine (K2.out _).mono ?_
    rintro e w2 ⟨rfl, hb⟩
    have B2 := Lib.hid (B1.out.later hb)
    clear hb c0 c1 c2 hlt hb1
    obtain ⟨c0, c1, c2, hlt, hb1⟩ := B2.out
    go_wp2_with fail
    refine (K3.out _).mono ?_
    rintro e w3 ⟨rfl, hb⟩
    have B3 := Lib.hid (B2.out.later hb)
    clear hb c0 c1 c2 hlt hb1
    obtain ⟨c0, c1, c2, hlt, hb1⟩ := B3.out
    go_wp2_with fail
    refine (HS.out _).mono ?_
    rintro e w4 ⟨g, rfl, hh, hb⟩
    have B4 := Lib.hid (B3.out.later hb)
    have hc := own_cell hh q hqM _ (bv_get s hqM)
    clear hb hh c0 c1 c2 hlt hb1
    go_wp2_with fail
    go_ret
    exact ⟨rfl, B4.out.2.2.2.2⟩
/-- A list that grows beside two that are read. -/
structure TwoSt (w0 : World) (W H Z : Int) (C B1 B2 : Nat) (va : Option Addr) (n vc : Nat) (l : List Nat) (ha : Option Addr) (m hc : Nat) (hs : List Nat) (v : Value) (out : List Nat) (w : World) : Prop where
  out : w.ownsRow C 3 1 v out.length (Ints out)
  l : w.ownsRow B1 3 1 (.slice va n vc) n (Ints l)
  hs : w.ownsRow B2 3 1 (.slice ha m hc) m (Ints hs)
  apart : ∀ g0, va = some ⟨g0, 0, none⟩ ∨ ha = some ⟨g0, 0, none⟩ → v.ownBlock ≠ some g0
  box : Box w0.heap.size W H Z w0 w
  low : w0.heap.size < C
  size : C ≤ w.heap.size
theorem TwoSt.later {w0 w w' : World} {W H Z : Int} {C B1 B2 n vc m hc : Nat} {va ha : Option Addr} {l hs out : List Nat} {v : Value} (h : TwoSt w0 W H Z C B1 B2 va n vc l ha m hc hs v out w) (hb : Below w.heap.size w w') : TwoSt w0 W H Z C B1 B2 va n vc l ha m hc hs v out w' :=
  ⟨own_below h.out hb, own_below h.l hb, own_below h.hs hb, h.apart, h.box.later hb, h.low, Nat.le_trans h.size hb.size⟩
theorem TwoSt.push {w0 w w' : World} {W H Z : Int} {C B1 B2 n vc m hc g cap x : Nat} {va ha : Option Addr} {l hs out : List Nat} {v : Value} {e : TypeId} (h : TwoSt w0 W H Z C B1 B2 va n vc l ha m hc hs v out w)
    (hown : w'.ownsRow C 3 1 (.slice (some ⟨g, 0, none⟩) (out.length + 1) cap) (out.length + 1) (Ints (out ++ [x]))) (hgrow : (w.alloc (.cells #[.int .i64 (x : Int)] e)).grownBy w' v.ownBlock) (hb : Below C w w') (hat : v.ownBlock = some g ∨ g = w.heap.size + 1) :
    TwoSt w0 W H Z C B1 B2 va n vc l ha m hc hs (.slice (some ⟨g, 0, none⟩) (out.length + 1) cap) (out ++ [x]) w' := by
  have hba : Below w.heap.size w (w.alloc (.cells #[.int .i64 (x : Int)] e)) := (Below.refl _ _).alloc (Nat.le_refl _) _
  have kept : ∀ {B n c : Nat} {a : Option Addr} {xs : List Nat}, w.ownsRow B 3 1 (.slice a n c) n (Ints xs) → (∀ g0, a = some ⟨g0, 0, none⟩ → v.ownBlock ≠ some g0) → w'.ownsRow B 3 1 (.slice a n c) n (Ints xs) := fun {B n c a xs} ho ha => by
    refine (own_below ho hba).kept hgrow ?_
    rcases Go.Joins.ownsRow_forms ho with ⟨h1, -⟩ | ⟨g', cap', h1⟩
    · left; injection h1 with h1 _ _; subst h1; rfl
    · right
      injection h1 with h1 _ _
      subst h1
      exact fun e => ha g' rfl e.symm
  refine ⟨by rw [List.length_append]; exact hown, kept h.l (fun g0 hg => h.apart g0 (.inl hg)), kept h.hs (fun g0 hg => h.apart g0 (.inr hg)), fun g0 hg e => ?_, h.box.kept hb h.low (Nat.le_of_lt h.low), h.low, Nat.le_trans h.size hb.size⟩
  have hg' : g = g0 := by simpa [Value.ownBlock] using e
  subst hg'
  rcases hat with h3 | h3
  · exact h.apart g hg h3
  · rcases hg with hg | hg
    · have := (h.l.lt g (by rw [hg]; rfl)).2
      omega
    · have := (h.hs.lt g (by rw [hg]; rfl)).2
      omega
theorem fin_snoc (W H Z P : Int) {hs : List Nat} (i : Nat) {h : Nat} (hi : hs[i]? = some h) : (hs.take (i + 1)).filter (fun k => decide (2 ^ k ∈ reachL false W H Z P)) = (hs.take i).filter (fun k => decide (2 ^ k ∈ reachL false W H Z P)) ++ (if 2 ^ h ∈ reachL false W H Z P then [h] else []) := by
  rw [take_one hi, List.filter_append]
  congr 1
  by_cases hc : 2 ^ h ∈ reachL false W H Z P <;> simp [hc]
theorem mem_take_next {l : List Nat} (hl : l.Nodup) {k x : Nat} (hk : l[k]? = some x) (y : Nat) : (y ∈ l.take (k + 1) ↔ y ∈ l.take k ∨ y = x) ∧ x ∉ l.take k := by
  refine ⟨by rw [take_one hk, List.mem_append, List.mem_singleton], fun hx => ?_⟩
  have := List.Nodup.sublist (List.take_sublist (k + 1) l) hl
  rw [take_one hk] at this
  exact (List.pairwise_append.1 this).2.2 x hx x (by simp) rfl
end Go.Proofs.Ytgkmapemnlgldaa
