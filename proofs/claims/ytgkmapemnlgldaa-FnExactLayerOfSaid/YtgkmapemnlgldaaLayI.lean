/- Layers, of the program: LayerOf, BackLayer, CommonOf, MeetingOf, WidestLayer, for every three ints and ints up to 2^63 - 1. -/
import Derived.Test.YtgkmapemnlgldaaLayS
import Derived.Test.YtgkmapemnlgldaaLayD
import Derived.Deep.LoopGhost
namespace Go.Proofs.Ytgkmapemnlgldaa
open Go.RowKit Go.Maps
set_option linter.unusedVariables false
set_option linter.unusedSimpArgs false
theorem LnsAt.wide {la : Option Addr} {n q B q' B' : Nat} {ls : List Ln} {w : World} (h : LnsAt la n ls q B w) (hq : B ≤ q') (hB : B ≤ B') : LnsAt la n ls q' B' w := by
  refine ⟨h.1, h.2.imp id ?_⟩
  rintro ⟨g, h1, h2, h3, h4⟩
  exact ⟨g, h1, by omega, by omega, h4⟩
/-- The state of a walk over layers: the board's block, the lines, the layer that has been come to. -/
structure WlSt (w0 : World) (B a b z m nl : Nat) (la : Option Addr) (ls : List Ln) (T L : List Nat) (w : World) : Prop where
  box : Box w0.heap.size a b z w0 w
  lines : LnsAt la nl ls B B w
  keys : KeysAt w m T
  nodup : T.Nodup
  mem : ∀ q, q ∈ T ↔ q ∈ L
  size : B ≤ w.heap.size
section
variable {w0 w w' : World} {B a b z m nl : Nat} {la : Option Addr} {ls : List Ln} {T L : List Nat}
theorem WlSt.later (h : WlSt w0 B a b z m nl la ls T L w) (hb : Below w.heap.size w w') : WlSt w0 B a b z m nl la ls T L w' := by
  have hs := h.size
  exact ⟨h.box.later hb, h.lines.turn (fun g _ hg => hb.block g (by omega)), h.keys.later hb, h.nodup, h.mem, Nat.le_trans hs hb.size⟩
theorem WlSt.next (h : WlSt w0 B a b z m nl la ls T L w) (hb : Below w.heap.size w w') {m' : Nat} {T' L' : List Nat} (hk : KeysAt w' m' T') (hn : T'.Nodup) (hm : ∀ q, q ∈ T' ↔ q ∈ L') : WlSt w0 B a b z m' nl la ls T' L' w' := by
  have h' := h.later hb
  exact ⟨h'.box, h'.lines, hk, hn, hm, h'.size⟩
theorem WlSt.at (h : WlSt w0 B a b z m nl la ls T L w) : LnsAt la nl ls w.heap.size w.heap.size w := h.lines.wide h.size h.size
end
theorem ownInts_nil (w w1 : World) (h : Below w.heap.size w w1) : OwnInts [] w (.returned (.slice none 0 0)) w1 := ⟨_, rfl, World.ownsRow_nil _ _ _ _, h⟩
theorem ownIv_nil (w w1 : World) (h : Below w.heap.size w w1) : OwnIv [] w (.returned (.slice none 0 0)) w1 := ⟨_, rfl, World.ownsRow_nil _ _ _ _, h⟩
set_option maxHeartbeats 8000000 in
set_option maxRecDepth 100000 in
theorem implLayerAt (back : Bool) (W H Z P n : Int) (hP : P ≤ 9223372036854775807) (hn : n ≤ 9223372036854775807) (w : World) : Calls Try.prog 42 #[.agg #[.int .i64 W, .int .i64 H, .int .i64 Z], .int .i64 P, .int .i64 n, .func (.func (fitF back)) #[] #[]] w (OwnInts (layL back W H Z P n) w) := by
  have hmm := @run_makeMap Try.prog
  have C1 := Lib.hid (fun b (h : smallB W H Z = b) w => implSmall_is h w)
  have C2 := Lib.hid (fun b (h : posB W H Z P = b) w => implPos_is hP h w)
  obtain ⟨ff, hff⟩ : ∃ ff, Value.func (.func (fitF back)) #[] #[] = ff := ⟨_, rfl⟩
  cases h1 : smallB W H Z
  · have K1 := Lib.hid (C1.out _ h1)
    rw [layL_no (by rw [h1]; rfl), hff]
    clear h1 C1 C2 hP hn hff
    go_enter Try.func42, Try.ntmps42
    go_wp2_with fail
    have B0 := Lib.hid (box_new W H Z w)
    generalize w.alloc (.cells #[.int .i64 W, .int .i64 H, .int .i64 Z] 25) = W1 at *
    obtain ⟨c0, c1, c2, hlt, hb1⟩ := B0.out
    go_wp2_with fail
    refine (K1.out _).mono ?_
    rintro e w1 ⟨rfl, hb⟩
    have HF := Lib.hid (ownInts_nil w w1 (B0.out.later hb).2.2.2.2)
    clear hb c0 c1 c2 hlt hb1
    go_wp2_with fail
    go_ret
    exact HF.out
  have K1 := Lib.hid (C1.out _ h1)
  cases h2 : posB W H Z P
  · have K2 := Lib.hid (C2.out _ h2)
    rw [layL_no (by rw [h1, h2]; rfl), hff]
    clear h1 h2 C1 C2 hP hn hff
    go_enter Try.func42, Try.ntmps42
    go_wp2_with fail
    have B0 := Lib.hid (box_new W H Z w)
    generalize w.alloc (.cells #[.int .i64 W, .int .i64 H, .int .i64 Z] 25) = W1 at *
    obtain ⟨c0, c1, c2, hlt, hb1⟩ := B0.out
    go_wp2_with fail
    refine (K1.out _).mono ?_
    rintro e w1 ⟨rfl, hb⟩
    have B1 := Lib.hid (B0.out.later hb)
    clear hb c0 c1 c2 hlt hb1
    obtain ⟨c0, c1, c2, hlt, hb1⟩ := B1.out
    go_wp2_with fail
    refine (K2.out _).mono ?_
    rintro e w2 ⟨rfl, hb⟩
    have HF := Lib.hid (ownInts_nil w w2 (B1.out.later hb).2.2.2.2)
    clear hb c0 c1 c2 hlt hb1
    go_wp2_with fail
    go_ret
    exact HF.out
  have K2 := Lib.hid (C2.out _ h2)
  rcases Int.lt_or_le n 0 with h3 | h3
  · rw [layL_no (by rw [h1, h2, decide_eq_false (by omega)]; rfl), hff]
    clear h1 h2 C1 C2 hP hn hff
    go_enter Try.func42, Try.ntmps42
    go_wp2_with fail
    have B0 := Lib.hid (box_new W H Z w)
    generalize w.alloc (.cells #[.int .i64 W, .int .i64 H, .int .i64 Z] 25) = W1 at *
    obtain ⟨c0, c1, c2, hlt, hb1⟩ := B0.out
    go_wp2_with fail
    refine (K1.out _).mono ?_
    rintro e w1 ⟨rfl, hb⟩
    have B1 := Lib.hid (B0.out.later hb)
    clear hb c0 c1 c2 hlt hb1
    obtain ⟨c0, c1, c2, hlt, hb1⟩ := B1.out
    go_wp2_with fail
    refine (K2.out _).mono ?_
    rintro e w2 ⟨rfl, hb⟩
    have HF := Lib.hid (ownInts_nil w w2 (B1.out.later hb).2.2.2.2)
    clear hb c0 c1 c2 hlt hb1
    go_wp2_with fail
    go_ret
    exact HF.out
  · obtain ⟨n', rfl⟩ := Int.eq_ofNat_of_zero_le h3
    obtain ⟨a, b, N, z, p, S⟩ := small5 h1 h2
    obtain ⟨rfl, rfl, rfl, rfl, ho, h16, hp⟩ := S
    have hpM := part_lt hp ho.zlt
    have hM65 : 2 ^ N ≤ 65536 := Nat.pow_le_pow_right (by decide) h16
    have CL := Lib.hid (fun w => implLinesA (a : Int) b z w)
    have CN := Lib.hid (fun (k nl lc m : Nat) (la : Option Addr) (T : List Nat) (hT : ∀ q, q ∈ T ↔ q ∈ layK (stepL back (lnsOf (a : Int) b z)) (2 ^ N) p k) (hnl : (lnsOf (a : Int) b z).length = nl) (w : World) (hk : KeysAt w m T) hl => implNext (la := la) (lc := lc) back ho (fun q hq => lay_parts ho hp k q ((hT q).1 hq)) hnl w hk hl)
    rw [hff] at CN ⊢
    have HX : Hid (∀ (k : Nat) (T : List Nat), (∀ q, q ∈ T ↔ q ∈ layK (stepL back (lnsOf (a : Int) b z)) (2 ^ N) p k) → ∀ q, q ∈ nextK (stepL back (lnsOf (a : Int) b z)) (2 ^ N) T ↔ q ∈ layK (stepL back (lnsOf (a : Int) b z)) (2 ^ N) p (k + 1)) := fun k T hT q => by
      show _ ↔ q ∈ nextK _ _ _
      rw [mem_nextK, mem_nextK]
      exact and_congr_right fun _ => exists_congr fun r => and_congr_left fun _ => hT r
    have CN2 : Hid (∀ (k nl lc m : Nat) (la : Option Addr) (T : List Nat) (hT : ∀ q, q ∈ T ↔ q ∈ layK (stepL back (lnsOf (a : Int) b z)) (2 ^ N) p k) (hnl : (lnsOf (a : Int) b z).length = nl) (w : World) (hk : KeysAt w m T) (hl : LnsAt la nl (lnsOf (a : Int) b z) w.heap.size w.heap.size w), Calls Try.prog 40 #[.map (some m), .slice la nl lc, ff] w (OwnLayer (layK (stepL back (lnsOf (a : Int) b z)) (2 ^ N) p (k + 1)) w)) := fun k nl lc m la T hT hnl w hk hl => (CN.out k nl lc m la T hT hnl w hk hl).mono fun e w' h => by
      obtain ⟨fb, T', r1, r2, r3, r4, r5⟩ := h
      exact ⟨fb, T', r1, r2, r3, fun q => (r4 q).trans (HX.out k T hT q), r5⟩
    have HLen : Hid (∀ k, (layK (stepL back (lnsOf (a : Int) b z)) (2 ^ N) p k).length ≤ 65536) := fun k => Nat.le_trans (layK_len hpM k) hM65
    have HUp : Hid (∀ k, (layK (stepL back (lnsOf (a : Int) b z)) (2 ^ N) p k).Pairwise (· < ·)) := fun k => layK_up k
    have HLt : Hid (∀ k, ∀ q ∈ layK (stepL back (lnsOf (a : Int) b z)) (2 ^ N) p k, q ≤ 65536) := fun k q hq => by have := layK_lt hpM hq; omega
    have HNil : Hid (∀ k, k ≤ n' → layK (stepL back (lnsOf (a : Int) b z)) (2 ^ N) p k = [] → layK (stepL back (lnsOf (a : Int) b z)) (2 ^ N) p n' = []) := fun k hk h => by
      have := layK_nil h (n' - k)
      rwa [show k + (n' - k) = n' by omega] at this
    have hll := lnsOf_le (a : Int) b z
    rw [layL_yes ho h16 hp n']
    have H0 : Hid (layK (stepL back (lnsOf (a : Int) b z)) (2 ^ N) p 0 = [p]) := rfl
    generalize layK (stepL back (lnsOf (a : Int) b z)) (2 ^ N) p = lay at *
    generalize lnsOf (a : Int) b z = ls at *
    obtain ⟨nl, hnl⟩ : ∃ nl, ls.length = nl := ⟨_, rfl⟩
    have HNL := Lib.hid hnl
    rw [hnl] at hll
    clear h1 h2 C1 C2 hP ho h16 hp CN hpM h3 hff HX hM65 hnl
    have h3 : ¬ (n' : Int) < 0 := by omega
    go_enter Try.func42, Try.ntmps42
    go_wp2_with fail
    have B0 := Lib.hid (box_new a b z w)
    generalize w.alloc (.cells #[.int .i64 (a : Int), .int .i64 (b : Int), .int .i64 (z : Int)] 25) = W1 at *
    obtain ⟨c0, c1, c2, hlt, hb1⟩ := B0.out
    go_wp2_with fail
    refine (K1.out _).mono ?_
    rintro e w1 ⟨rfl, hb⟩
    have B1 := Lib.hid (B0.out.later hb)
    clear hb c0 c1 c2 hlt hb1
    obtain ⟨c0, c1, c2, hlt, hb1⟩ := B1.out
    go_wp2_with fail
    refine (K2.out _).mono ?_
    rintro e w2 ⟨rfl, hb⟩
    have B2 := Lib.hid (B1.out.later hb)
    clear hb c0 c1 c2 hlt hb1
    obtain ⟨c0, c1, c2, hlt, hb1⟩ := B2.out
    go_wp2_with fail
    refine (CL.out _).mono ?_
    rintro e w3 ⟨lv', rfl, hh, hb⟩
    obtain ⟨la, lc, rfl⟩ := lines_form hh
    rw [HNL.out] at hh
    rw [HNL.out]
    have B3 := Lib.hid (B2.out.later hb)
    have HL3 : Hid (LnsAt la nl ls w3.heap.size w3.heap.size w3) := by
      refine ⟨HNL.out, ?_⟩
      rcases Nat.eq_zero_or_pos nl with h0 | h0
      · exact .inl h0
      · right
        rcases Go.Joins.ownsRow_forms hh with ⟨h, h1⟩ | ⟨g, cap', h⟩
        · omega
        · injection h with h1 h2 h3
          subst h1 h3
          have hl := hh.lt g rfl
          exact ⟨g, rfl, by omega, hl.2, fun i l hi => line_cells hh HNL.out hi⟩
    obtain ⟨w4, hput, hk4, hg4⟩ := (KeysAt.made w3).put (P := Try.prog) (K := 3) (E := 4) (T := 54) (key_int Try.underlying3) Try.underlying54 p
    have hb34 : Below w3.heap.size w3 w4 := ((Below.refl _ w3).alloc (Nat.le_refl _) _).grown hg4 (by simp) (fun k e => by cases e; exact Nat.le_refl _)
    have HS4 : Hid (WlSt w w3.heap.size a b z w3.heap.size nl la ls [p] (lay 0) w4) := ⟨B3.out.later hb34, HL3.out.turn (fun g _ hg => hb34.block g hg), hk4, by simp, fun q => by rw [H0.out], hb34.size⟩
    clear hh hb c0 c1 c2 hlt hb1 B0 B1 B2 B3 HL3 hk4 hg4 hb34 K1 K2 CL H0
    go_wp2_with fail
    clear hput hmm
    generalize w3.heap.size = B at *
    have HS4' : Hid (∃ m, m = B ∧ WlSt w B a b z m nl la ls [p] (lay 0) w4) := ⟨_, rfl, HS4.out⟩
    clear HS4
    go_loopw [10, 11] (fun u i wr => ∃ (k m : Nat) (T : List Nat), k ≤ n' ∧ i = .int .i64 k ∧ u = .map (some m) ∧ Hid (WlSt w B a b z m nl la ls T (lay k) wr)) (fun _ i _ => n' - (intOf i).toNat)
    case atStart =>
      obtain ⟨m, rfl, h⟩ := HS4'.out
      exact ⟨0, m, [p], Nat.zero_le _, rfl, rfl, h⟩
    case round =>
      clear HS4'
      obtain ⟨k, m, T, hk, rfl, rfl, HS⟩ := hrel
      obtain ⟨es, clock, hes, hsz⟩ := HS.out.keys.len
      have hlen := run_len_map (P := Try.prog) wr 54 3 m es clock (by exact Try.underlying54) hes
      obtain ⟨nn, hnn⟩ : ∃ nn, T.length = nn := ⟨_, rfl⟩
      have hT := same_len HS.out.nodup (HUp.out k) HS.out.mem
      have hl65 := HLen.out k
      rw [← hT] at hl65
      rw [hnn] at hsz hT hl65
      rw [hsz] at hlen
      by_cases hkm : k < n'
      · have k1 : (k : Int) < (n' : Int) := by omega
        by_cases hn0 : 0 < nn
        · have n1 : (0 : Int) < (nn : Int) := by omega
          have CX := Lib.hid (fun w hk hl => CN2.out k nl lc m la T HS.out.mem HNL.out w hk hl)
          clear hnn hes hsz hT
          go_wp2_with fail
          refine (CX.out _ HS.out.keys HS.out.at).mono ?_
          rintro e w5 ⟨m', T', rfl, hk', hn', hm', -, hb⟩
          have HS2 := Lib.hid (HS.out.next hb hk' hn' hm')
          clear hk' hn' hm' hb HS CX hlen
          go_wp2_with fail
          go_roundw
          case rel => exact ⟨k + 1, m', T', by omega, by go_num, rfl, HS2⟩
          case measure => simp [intOf]; omega
        · obtain rfl : nn = 0 := by omega
          have HE : Hid (lay n' = []) := HNil.out k hk (List.eq_nil_of_length_eq_zero hT.symm)
          have HE2 : Hid (T = []) := List.eq_nil_of_length_eq_zero hnn
          have CK := Lib.hid (keysLayer (some m) wr)
          have CS := Lib.hid (sortedLayer HS.out.keys HS.out.nodup (by rw [HE2.out]; simp) (fun q hq => by rw [HE2.out] at hq; exact absurd hq (by simp)) (HUp.out n') (fun q => by rw [HE2.out, HE.out]))
          have HB := Lib.hid HS.out.box.2.2.2.2
          clear hnn hes hsz hT HS HE HE2
          go_wp2_with fail
          refine CK.out.mono ?_
          rintro e w' ⟨rfl, rfl⟩
          clear CK
          go_wp2_with fail
          refine CS.out.mono ?_
          rintro e w' ⟨v, rfl, hh, hb⟩
          have hz := HB.out.size
          have hp : Hid (OwnInts (lay n') w (.returned v) w') := ⟨v, rfl, own_base hh (by simp; omega), HB.out.trans (((Below.refl _ wr).alloc (Nat.le_refl _) _).trans (hb.mono (by simp)) |>.mono hz)⟩
          clear hh hb CS
          go_wp2_with fail
          go_ret
          exact hp.out
      · obtain rfl : k = n' := by omega
        have CK := Lib.hid (keysLayer (some m) wr)
        have CS := Lib.hid (sortedLayer HS.out.keys HS.out.nodup (by rw [hnn]; exact hl65) (fun q hq => HLt.out k q ((HS.out.mem q).1 hq)) (HUp.out k) HS.out.mem)
        have HB := Lib.hid HS.out.box.2.2.2.2
        clear hnn hes hsz hT HS
        go_wp2_with fail
        refine CK.out.mono ?_
        rintro e w' ⟨rfl, rfl⟩
        clear CK
        go_wp2_with fail
        refine CS.out.mono ?_
        rintro e w' ⟨v, rfl, hh, hb⟩
        have hz := HB.out.size
        have hp : Hid (OwnInts (lay k) w (.returned v) w') := ⟨v, rfl, own_base hh (by simp; omega), HB.out.trans (((Below.refl _ wr).alloc (Nat.le_refl _) _).trans (hb.mono (by simp)) |>.mono hz)⟩
        clear hh hb CS
        go_wp2_with fail
        go_ret
        exact hp.out
set_option maxRecDepth 100000 in
theorem implLayerOf (W H Z P n : Int) (hP : P ≤ 9223372036854775807) (hn : n ≤ 9223372036854775807) (w : World) : Calls Try.prog 15 #[.agg #[.int .i64 W, .int .i64 H, .int .i64 Z], .int .i64 P, .int .i64 n] w (OwnInts (layL false W H Z P n) w) := by
  have C1 := Lib.hid (fun w => implLayerAt false W H Z P n hP hn w)
  clear hP hn
  go_enter Try.func15, Try.ntmps15
  go_wp2_with fail
  have B0 := Lib.hid (box_new W H Z w)
  generalize w.alloc (.cells #[.int .i64 W, .int .i64 H, .int .i64 Z] 25) = W1 at *
  obtain ⟨c0, c1, c2, hlt, hb1⟩ := B0.out
  go_wp2_with fail
  refine (C1.out _).mono ?_
  rintro e w1 ⟨v, rfl, ho, hb⟩
  have HO := Lib.hid (own_base ho hb1.size)
  have B1 := Lib.hid (B0.out.later hb)
  clear ho hb c0 c1 c2 hlt hb1 B0
  go_wp2_with fail
  go_ret
  exact ⟨_, rfl, HO.out, B1.out.2.2.2.2⟩
set_option maxRecDepth 100000 in
theorem implBackLayer (W H Z P n : Int) (hP : P ≤ 9223372036854775807) (hn : n ≤ 9223372036854775807) (w : World) : Calls Try.prog 17 #[.agg #[.int .i64 W, .int .i64 H, .int .i64 Z], .int .i64 P, .int .i64 n] w (OwnInts (layL true W H Z P n) w) := by
  have C1 := Lib.hid (fun w => implLayerAt true W H Z P n hP hn w)
  clear hP hn
  go_enter Try.func17, Try.ntmps17
  go_wp2_with fail
  have B0 := Lib.hid (box_new W H Z w)
  generalize w.alloc (.cells #[.int .i64 W, .int .i64 H, .int .i64 Z] 25) = W1 at *
  obtain ⟨c0, c1, c2, hlt, hb1⟩ := B0.out
  go_wp2_with fail
  refine (C1.out _).mono ?_
  rintro e w1 ⟨v, rfl, ho, hb⟩
  have HO := Lib.hid (own_base ho hb1.size)
  have B1 := Lib.hid (B0.out.later hb)
  clear ho hb c0 c1 c2 hlt hb1 B0
  go_wp2_with fail
  go_ret
  exact ⟨_, rfl, HO.out, B1.out.2.2.2.2⟩
set_option maxHeartbeats 8000000 in
set_option maxRecDepth 100000 in
theorem implCommon {a0 a1 : Option Addr} {n0 c0 n1 c1 : Nat} {xs ys : List Int} (w : World) (hx : n0 ≤ 1048576) (hy : n1 ≤ 1048576) (h0 : IntsAt w a0 n0 xs) (h1 : IntsAt w a1 n1 ys) (hl0 : xs.length = n0) (hl1 : ys.length = n1) :
    Calls Try.prog 19 #[.slice a0 n0 c0, .slice a1 n1 c1] w (OwnIv (commL xs ys) w) := by
  obtain ⟨j0, hj, jz0, jz1, jz2⟩ : ∃ i, Try.prog.info? 3 = some i ∧ i.zero = some (.int .i64 0) ∧ i.size = 1 ∧ i.bytes = 8 := ⟨_, by rfl, by rfl, by rfl, by rfl⟩
  have HX : Hid (∀ (i : Nat) (x : Int), xs[i]? = some x → ∃ b off, a0 = some ⟨b, off, none⟩ ∧ ∀ w', Below w.heap.size w w' → w'.cell? ⟨b, off + i, none⟩ = some (.int .i64 x)) := fun i x hi => by
    have hin : i < n0 := by rw [← hl0]; exact (List.getElem?_eq_some_iff.1 hi).1
    obtain ⟨b, off, rfl, hb, hc⟩ := h0.cell hin
    exact ⟨b, off, rfl, fun w' hw => (hw.cell (p := ⟨b, off + i, none⟩) hb).trans (hc i x hi)⟩
  have HY : Hid (∀ (i : Nat) (x : Int), ys[i]? = some x → ∃ b off, a1 = some ⟨b, off, none⟩ ∧ ∀ w', Below w.heap.size w w' → w'.cell? ⟨b, off + i, none⟩ = some (.int .i64 x)) := fun i x hi => by
    have hin : i < n1 := by rw [← hl1]; exact (List.getElem?_eq_some_iff.1 hi).1
    obtain ⟨b, off, rfl, hb, hc⟩ := h1.cell hin
    exact ⟨b, off, rfl, fun w' hw => (hw.cell (p := ⟨b, off + i, none⟩) hb).trans (hc i x hi)⟩
  have HStep : Hid (∀ (f i k : Nat) (out : List Int) (x y : Int), xs[i]? = some x → ys[k]? = some y → comF xs ys (f + 1) i k out = if x < y then comF xs ys f (i + 1) k out else if y < x then comF xs ys f i (k + 1) out else comF xs ys f (i + 1) (k + 1) (if out.getLast? = some x then out else out ++ [x])) := fun f i k out x y hx hy => comF_step hx hy
  have HEnd : Hid (∀ (f i k : Nat) (out : List Int), n0 ≤ i ∨ n1 ≤ k → comF xs ys f i k out = out) := fun f i k out h => comF_end (by rw [hl0, hl1]; exact h)
  have HGo : Hid (comF xs ys (n0 + n1) 0 0 [] = commL xs ys) := by unfold Hid commL; rw [hl0, hl1]
  have HN0 := Lib.hid hl0
  have HN1 := Lib.hid hl1
  generalize commL xs ys = R at *
  clear h0 h1 hl0 hl1
  go_enter Try.func19, Try.ntmps19
  go_wp2_with fail
  have HR0 : Hid ((w.alloc (.cells #[] 3)).ownsRow w.heap.size 3 1 (.slice (some ⟨w.heap.size, 0, none⟩) 0 0) 0 (iv [])) := World.ownsRow_made w #[] 0 (Nat.le_refl _) (by unfold maxLen; omega) rfl
  have HB0 : Hid (Below w.heap.size w (w.alloc (.cells #[] 3))) := (Below.refl _ _).alloc (Nat.le_refl _) _
  generalize w.alloc (.cells #[] 3) = W1 at *
  go_wp2_with fail
  go_loopw [5, 6, 7] (fun s u v wr => ∃ (i k f m : Nat) (out : List Int) (val : Value), i ≤ n0 ∧ k ≤ n1 ∧ n0 + n1 ≤ f + i + k ∧ m ≤ i ∧ u = .int .i64 i ∧ v = .int .i64 k ∧ val = s ∧ Hid (out.length = m) ∧ Hid (comF xs ys f i k out = R) ∧ Hid (wr.ownsRow w.heap.size 3 1 val m (iv out)) ∧ Hid (Below w.heap.size w wr)) (fun _ u v _ => (n0 - (intOf u).toNat) + (n1 - (intOf v).toNat))
  case atStart => exact ⟨0, 0, n0 + n1, 0, [], _, Nat.zero_le _, Nat.zero_le _, by omega, Nat.le_refl _, rfl, rfl, rfl, rfl, HGo, HR0, HB0⟩
  case round =>
    clear HR0 HB0 HGo
    obtain ⟨i, k, f, m, out, val, hi, hk, hf, hm, rfl, rfl, rfl, HM, HC, HR, HB⟩ := hrel
    by_cases hin : i < n0
    · by_cases hkn : k < n1
      · have i0' : (0 : Int) ≤ (i : Int) := by omega
        have i1' : (i : Int) < (n0 : Int) := by omega
        have k0' : (0 : Int) ≤ (k : Int) := by omega
        have k1' : (k : Int) < (n1 : Int) := by omega
        obtain ⟨x, hxi⟩ : ∃ x, xs[i]? = some x := ⟨_, List.getElem?_eq_getElem (by rw [HN0.out]; exact hin)⟩
        obtain ⟨y, hyk⟩ : ∃ y, ys[k]? = some y := ⟨_, List.getElem?_eq_getElem (by rw [HN1.out]; exact hkn)⟩
        obtain ⟨f0, rfl⟩ : ∃ f', f = f' + 1 := ⟨f - 1, by omega⟩
        have HSt := Lib.hid (HStep.out f0 i k out x y hxi hyk)
        obtain ⟨bx, ox, rfl, hcx⟩ := HX.out i x hxi
        obtain ⟨by', oy, rfl, hcy⟩ := HY.out k y hyk
        have HCx := Lib.hid hcx
        have HCy := Lib.hid hcy
        clear hxi hyk hcx hcy
        rcases Int.lt_trichotomy x y with hxy | hxy | hxy
        · have HC2 : Hid (comF xs ys f0 (i + 1) k out = R) := by unfold Hid; rw [← HC.out, HSt.out, if_pos hxy]
          have d1 : decide (x < y) = true := decide_eq_true hxy
          clear HSt HC
          have HD1 := Lib.hid d1
          clear d1 hxy
          go_wp2_with fail
          refine wp_region_script (by kernel_rfl) (by kernel_rfl) ?_
          refine Script.load (i := 0) (v := ?_) rfl (by kernel_rfl) (by kernel_rfl) (fun _ _ _ h => h) (by kernel_rfl) ?_ ?_
          rotate_left
          · (intro wS hSw; have hcx := HCx.out _ (HB.out.trans (Below.mono (After.trans (After.drew (After.refl _)) hSw) HB.out.size)); have hcy := HCy.out _ (HB.out.trans (Below.mono (After.trans (After.drew (After.refl _)) hSw) HB.out.size)); have hd := HD1.out; go_simp; try with_reducible rfl)
          try simp only [Act.put, List.getElem_toArray, List.getElem_cons_succ, List.getElem_cons_zero, List.setIfInBounds_toArray, List.set_cons_zero, List.set_cons_succ]
          refine Script.load (i := 1) (v := ?_) rfl (by kernel_rfl) (by kernel_rfl) (fun _ _ _ h => h) (by kernel_rfl) ?_ ?_
          rotate_left
          · (intro wS hSw; have hcx := HCx.out _ (HB.out.trans (Below.mono (After.trans (After.drew (After.refl _)) hSw) HB.out.size)); have hcy := HCy.out _ (HB.out.trans (Below.mono (After.trans (After.drew (After.refl _)) hSw) HB.out.size)); have hd := HD1.out; go_simp; try with_reducible rfl)
          try simp only [Act.put, List.getElem_toArray, List.getElem_cons_succ, List.getElem_cons_zero, List.setIfInBounds_toArray, List.set_cons_zero, List.set_cons_succ]
          refine Script.load (i := 2) (v := ?_) rfl (by kernel_rfl) (by kernel_rfl) (fun _ _ _ h => h) (by kernel_rfl) ?_ ?_
          rotate_left
          · (intro wS hSw; have hcx := HCx.out _ (HB.out.trans (Below.mono (After.trans (After.drew (After.refl _)) hSw) HB.out.size)); have hcy := HCy.out _ (HB.out.trans (Below.mono (After.trans (After.drew (After.refl _)) hSw) HB.out.size)); have hd := HD1.out; go_simp; try with_reducible rfl)
          try simp only [Act.put, List.getElem_toArray, List.getElem_cons_succ, List.getElem_cons_zero, List.setIfInBounds_toArray, List.set_cons_zero, List.set_cons_succ]
          refine Script.load (i := 3) (v := ?_) rfl (by kernel_rfl) (by kernel_rfl) (fun _ _ _ h => h) (by kernel_rfl) ?_ ?_
          rotate_left
          · (intro wS hSw; have hcx := HCx.out _ (HB.out.trans (Below.mono (After.trans (After.drew (After.refl _)) hSw) HB.out.size)); have hcy := HCy.out _ (HB.out.trans (Below.mono (After.trans (After.drew (After.refl _)) hSw) HB.out.size)); have hd := HD1.out; go_simp; try with_reducible rfl)
          try simp only [Act.put, List.getElem_toArray, List.getElem_cons_succ, List.getElem_cons_zero, List.setIfInBounds_toArray, List.set_cons_zero, List.set_cons_succ]
          refine Script.load (i := 4) (v := ?_) rfl (by kernel_rfl) (by kernel_rfl) (fun _ _ _ h => h) (by kernel_rfl) ?_ ?_
          rotate_left
          · (intro wS hSw; have hcx := HCx.out _ (HB.out.trans (Below.mono (After.trans (After.drew (After.refl _)) hSw) HB.out.size)); have hcy := HCy.out _ (HB.out.trans (Below.mono (After.trans (After.drew (After.refl _)) hSw) HB.out.size)); have hd := HD1.out; go_simp; try with_reducible rfl)
          try simp only [Act.put, List.getElem_toArray, List.getElem_cons_succ, List.getElem_cons_zero, List.setIfInBounds_toArray, List.set_cons_zero, List.set_cons_succ]
          refine Script.load (i := 5) (v := ?_) rfl (by kernel_rfl) (by kernel_rfl) (fun _ _ _ h => h) (by kernel_rfl) ?_ ?_
          rotate_left
          · (intro wS hSw; have hcx := HCx.out _ (HB.out.trans (Below.mono (After.trans (After.drew (After.refl _)) hSw) HB.out.size)); have hcy := HCy.out _ (HB.out.trans (Below.mono (After.trans (After.drew (After.refl _)) hSw) HB.out.size)); have hd := HD1.out; go_simp; try with_reducible rfl)
          try simp only [Act.put, List.getElem_toArray, List.getElem_cons_succ, List.getElem_cons_zero, List.setIfInBounds_toArray, List.set_cons_zero, List.set_cons_succ]
          refine Script.load (i := 6) (v := ?_) rfl (by kernel_rfl) (by kernel_rfl) (fun _ _ _ h => h) (by kernel_rfl) ?_ ?_
          rotate_left
          · (intro wS hSw; have hcx := HCx.out _ (HB.out.trans (Below.mono (After.trans (After.drew (After.refl _)) hSw) HB.out.size)); have hcy := HCy.out _ (HB.out.trans (Below.mono (After.trans (After.drew (After.refl _)) hSw) HB.out.size)); have hd := HD1.out; go_simp; try with_reducible rfl)
          try simp only [Act.put, List.getElem_toArray, List.getElem_cons_succ, List.getElem_cons_zero, List.setIfInBounds_toArray, List.set_cons_zero, List.set_cons_succ]
          refine Script.load (i := 7) (v := ?_) rfl (by kernel_rfl) (by kernel_rfl) (fun _ _ _ h => h) (by kernel_rfl) ?_ ?_
          rotate_left
          · (intro wS hSw; have hcx := HCx.out _ (HB.out.trans (Below.mono (After.trans (After.drew (After.refl _)) hSw) HB.out.size)); have hcy := HCy.out _ (HB.out.trans (Below.mono (After.trans (After.drew (After.refl _)) hSw) HB.out.size)); have hd := HD1.out; go_simp; try with_reducible rfl)
          try simp only [Act.put, List.getElem_toArray, List.getElem_cons_succ, List.getElem_cons_zero, List.setIfInBounds_toArray, List.set_cons_zero, List.set_cons_succ]
          refine Script.load (i := 8) (v := ?_) rfl (by kernel_rfl) (by kernel_rfl) (fun _ _ _ h => h) (by kernel_rfl) ?_ ?_
          rotate_left
          · (intro wS hSw; have hcx := HCx.out _ (HB.out.trans (Below.mono (After.trans (After.drew (After.refl _)) hSw) HB.out.size)); have hcy := HCy.out _ (HB.out.trans (Below.mono (After.trans (After.drew (After.refl _)) hSw) HB.out.size)); have hd := HD1.out; go_simp; try with_reducible rfl)
          try simp only [Act.put, List.getElem_toArray, List.getElem_cons_succ, List.getElem_cons_zero, List.setIfInBounds_toArray, List.set_cons_zero, List.set_cons_succ]
          refine Script.load (i := 9) (v := ?_) rfl (by kernel_rfl) (by kernel_rfl) (fun _ _ _ h => h) (by kernel_rfl) ?_ ?_
          rotate_left
          · (intro wS hSw; have hcx := HCx.out _ (HB.out.trans (Below.mono (After.trans (After.drew (After.refl _)) hSw) HB.out.size)); have hcy := HCy.out _ (HB.out.trans (Below.mono (After.trans (After.drew (After.refl _)) hSw) HB.out.size)); have hd := HD1.out; go_simp; try with_reducible rfl)
          try simp only [Act.put, List.getElem_toArray, List.getElem_cons_succ, List.getElem_cons_zero, List.setIfInBounds_toArray, List.set_cons_zero, List.set_cons_succ]
          refine Script.done (by kernel_rfl) ?_
          intro wD hD hG
          have HR2 := Lib.hid (own_below HR.out (After.trans (After.drew (After.refl _)) hD))
          have HB2 := Lib.hid (HB.out.trans (Below.mono (After.trans (After.drew (After.refl _)) hD) HB.out.size))
          clear hD hG HR HB
          go_wp2_with fail
          go_roundw
          case rel => exact ⟨i + 1, k, f0, m, out, _, by omega, by omega, by omega, by omega, by go_num, rfl, rfl, HM, HC2, HR2, HB2⟩
          case measure => simp [intOf]; omega
        · subst hxy
          have HD1 : Hid (decide (x < x) = false) := decide_eq_false (by omega)
          have HC2 : Hid (comF xs ys f0 (i + 1) (k + 1) (if out.getLast? = some x then out else out ++ [x]) = R) := by unfold Hid; rw [← HC.out, HSt.out, if_neg (show ¬ x < x by omega), if_neg (show ¬ x < x by omega)]
          clear HSt HC
          go_wp2_with fail
          refine wp_region_script (by kernel_rfl) (by kernel_rfl) ?_
          refine Script.load (i := 0) (v := ?_) rfl (by kernel_rfl) (by kernel_rfl) (fun _ _ _ h => h) (by kernel_rfl) ?_ ?_
          rotate_left
          · (intro wS hSw; have hcx := HCx.out _ (HB.out.trans (Below.mono (After.trans (After.drew (After.refl _)) hSw) HB.out.size)); have hcy := HCy.out _ (HB.out.trans (Below.mono (After.trans (After.drew (After.refl _)) hSw) HB.out.size)); have hd := HD1.out; go_simp; try with_reducible rfl)
          try simp only [Act.put, List.getElem_toArray, List.getElem_cons_succ, List.getElem_cons_zero, List.setIfInBounds_toArray, List.set_cons_zero, List.set_cons_succ]
          refine Script.load (i := 1) (v := ?_) rfl (by kernel_rfl) (by kernel_rfl) (fun _ _ _ h => h) (by kernel_rfl) ?_ ?_
          rotate_left
          · (intro wS hSw; have hcx := HCx.out _ (HB.out.trans (Below.mono (After.trans (After.drew (After.refl _)) hSw) HB.out.size)); have hcy := HCy.out _ (HB.out.trans (Below.mono (After.trans (After.drew (After.refl _)) hSw) HB.out.size)); have hd := HD1.out; go_simp; try with_reducible rfl)
          try simp only [Act.put, List.getElem_toArray, List.getElem_cons_succ, List.getElem_cons_zero, List.setIfInBounds_toArray, List.set_cons_zero, List.set_cons_succ]
          refine Script.load (i := 2) (v := ?_) rfl (by kernel_rfl) (by kernel_rfl) (fun _ _ _ h => h) (by kernel_rfl) ?_ ?_
          rotate_left
          · (intro wS hSw; have hcx := HCx.out _ (HB.out.trans (Below.mono (After.trans (After.drew (After.refl _)) hSw) HB.out.size)); have hcy := HCy.out _ (HB.out.trans (Below.mono (After.trans (After.drew (After.refl _)) hSw) HB.out.size)); have hd := HD1.out; go_simp; try with_reducible rfl)
          try simp only [Act.put, List.getElem_toArray, List.getElem_cons_succ, List.getElem_cons_zero, List.setIfInBounds_toArray, List.set_cons_zero, List.set_cons_succ]
          refine Script.load (i := 3) (v := ?_) rfl (by kernel_rfl) (by kernel_rfl) (fun _ _ _ h => h) (by kernel_rfl) ?_ ?_
          rotate_left
          · (intro wS hSw; have hcx := HCx.out _ (HB.out.trans (Below.mono (After.trans (After.drew (After.refl _)) hSw) HB.out.size)); have hcy := HCy.out _ (HB.out.trans (Below.mono (After.trans (After.drew (After.refl _)) hSw) HB.out.size)); have hd := HD1.out; go_simp; try with_reducible rfl)
          try simp only [Act.put, List.getElem_toArray, List.getElem_cons_succ, List.getElem_cons_zero, List.setIfInBounds_toArray, List.set_cons_zero, List.set_cons_succ]
          refine Script.load (i := 4) (v := ?_) rfl (by kernel_rfl) (by kernel_rfl) (fun _ _ _ h => h) (by kernel_rfl) ?_ ?_
          rotate_left
          · (intro wS hSw; have hcx := HCx.out _ (HB.out.trans (Below.mono (After.trans (After.drew (After.refl _)) hSw) HB.out.size)); have hcy := HCy.out _ (HB.out.trans (Below.mono (After.trans (After.drew (After.refl _)) hSw) HB.out.size)); have hd := HD1.out; go_simp; try with_reducible rfl)
          try simp only [Act.put, List.getElem_toArray, List.getElem_cons_succ, List.getElem_cons_zero, List.setIfInBounds_toArray, List.set_cons_zero, List.set_cons_succ]
          refine Script.load (i := 5) (v := ?_) rfl (by kernel_rfl) (by kernel_rfl) (fun _ _ _ h => h) (by kernel_rfl) ?_ ?_
          rotate_left
          · (intro wS hSw; have hcx := HCx.out _ (HB.out.trans (Below.mono (After.trans (After.drew (After.refl _)) hSw) HB.out.size)); have hcy := HCy.out _ (HB.out.trans (Below.mono (After.trans (After.drew (After.refl _)) hSw) HB.out.size)); have hd := HD1.out; go_simp; try with_reducible rfl)
          try simp only [Act.put, List.getElem_toArray, List.getElem_cons_succ, List.getElem_cons_zero, List.setIfInBounds_toArray, List.set_cons_zero, List.set_cons_succ]
          refine Script.load (i := 6) (v := ?_) rfl (by kernel_rfl) (by kernel_rfl) (fun _ _ _ h => h) (by kernel_rfl) ?_ ?_
          rotate_left
          · (intro wS hSw; have hcx := HCx.out _ (HB.out.trans (Below.mono (After.trans (After.drew (After.refl _)) hSw) HB.out.size)); have hcy := HCy.out _ (HB.out.trans (Below.mono (After.trans (After.drew (After.refl _)) hSw) HB.out.size)); have hd := HD1.out; go_simp; try with_reducible rfl)
          try simp only [Act.put, List.getElem_toArray, List.getElem_cons_succ, List.getElem_cons_zero, List.setIfInBounds_toArray, List.set_cons_zero, List.set_cons_succ]
          refine Script.load (i := 7) (v := ?_) rfl (by kernel_rfl) (by kernel_rfl) (fun _ _ _ h => h) (by kernel_rfl) ?_ ?_
          rotate_left
          · (intro wS hSw; have hcx := HCx.out _ (HB.out.trans (Below.mono (After.trans (After.drew (After.refl _)) hSw) HB.out.size)); have hcy := HCy.out _ (HB.out.trans (Below.mono (After.trans (After.drew (After.refl _)) hSw) HB.out.size)); have hd := HD1.out; go_simp; try with_reducible rfl)
          try simp only [Act.put, List.getElem_toArray, List.getElem_cons_succ, List.getElem_cons_zero, List.setIfInBounds_toArray, List.set_cons_zero, List.set_cons_succ]
          refine Script.load (i := 8) (v := ?_) rfl (by kernel_rfl) (by kernel_rfl) (fun _ _ _ h => h) (by kernel_rfl) ?_ ?_
          rotate_left
          · (intro wS hSw; have hcx := HCx.out _ (HB.out.trans (Below.mono (After.trans (After.drew (After.refl _)) hSw) HB.out.size)); have hcy := HCy.out _ (HB.out.trans (Below.mono (After.trans (After.drew (After.refl _)) hSw) HB.out.size)); have hd := HD1.out; go_simp; try with_reducible rfl)
          try simp only [Act.put, List.getElem_toArray, List.getElem_cons_succ, List.getElem_cons_zero, List.setIfInBounds_toArray, List.set_cons_zero, List.set_cons_succ]
          refine Script.load (i := 9) (v := ?_) rfl (by kernel_rfl) (by kernel_rfl) (fun _ _ _ h => h) (by kernel_rfl) ?_ ?_
          rotate_left
          · (intro wS hSw; have hcx := HCx.out _ (HB.out.trans (Below.mono (After.trans (After.drew (After.refl _)) hSw) HB.out.size)); have hcy := HCy.out _ (HB.out.trans (Below.mono (After.trans (After.drew (After.refl _)) hSw) HB.out.size)); have hd := HD1.out; go_simp; try with_reducible rfl)
          try simp only [Act.put, List.getElem_toArray, List.getElem_cons_succ, List.getElem_cons_zero, List.setIfInBounds_toArray, List.set_cons_zero, List.set_cons_succ]
          refine Script.done (by kernel_rfl) ?_
          intro wD hD hG
          have HR2 := Lib.hid (own_below HR.out (After.trans (After.drew (After.refl _)) hD))
          have HB2 := Lib.hid (HB.out.trans (Below.mono (After.trans (After.drew (After.refl _)) hD) HB.out.size))
          clear hD hG HR HB
          go_wp2_with fail
          refine wp_region_script (by kernel_rfl) (by kernel_rfl) ?_
          refine Script.load (i := 0) (v := ?_) rfl (by kernel_rfl) (by kernel_rfl) (fun _ _ _ h => h) (by kernel_rfl) ?_ ?_
          rotate_left
          · (intro wS hSw; have hcx := HCx.out _ (HB2.out.trans (Below.mono (After.trans (After.drew (After.refl _)) hSw) HB2.out.size)); have hcy := HCy.out _ (HB2.out.trans (Below.mono (After.trans (After.drew (After.refl _)) hSw) HB2.out.size)); have hd := HD1.out; go_simp; try with_reducible rfl)
          try simp only [Act.put, List.getElem_toArray, List.getElem_cons_succ, List.getElem_cons_zero, List.setIfInBounds_toArray, List.set_cons_zero, List.set_cons_succ]
          refine Script.load (i := 1) (v := ?_) rfl (by kernel_rfl) (by kernel_rfl) (fun _ _ _ h => h) (by kernel_rfl) ?_ ?_
          rotate_left
          · (intro wS hSw; have hcx := HCx.out _ (HB2.out.trans (Below.mono (After.trans (After.drew (After.refl _)) hSw) HB2.out.size)); have hcy := HCy.out _ (HB2.out.trans (Below.mono (After.trans (After.drew (After.refl _)) hSw) HB2.out.size)); have hd := HD1.out; go_simp; try with_reducible rfl)
          try simp only [Act.put, List.getElem_toArray, List.getElem_cons_succ, List.getElem_cons_zero, List.setIfInBounds_toArray, List.set_cons_zero, List.set_cons_succ]
          refine Script.load (i := 2) (v := ?_) rfl (by kernel_rfl) (by kernel_rfl) (fun _ _ _ h => h) (by kernel_rfl) ?_ ?_
          rotate_left
          · (intro wS hSw; have hcx := HCx.out _ (HB2.out.trans (Below.mono (After.trans (After.drew (After.refl _)) hSw) HB2.out.size)); have hcy := HCy.out _ (HB2.out.trans (Below.mono (After.trans (After.drew (After.refl _)) hSw) HB2.out.size)); have hd := HD1.out; go_simp; try with_reducible rfl)
          try simp only [Act.put, List.getElem_toArray, List.getElem_cons_succ, List.getElem_cons_zero, List.setIfInBounds_toArray, List.set_cons_zero, List.set_cons_succ]
          refine Script.load (i := 3) (v := ?_) rfl (by kernel_rfl) (by kernel_rfl) (fun _ _ _ h => h) (by kernel_rfl) ?_ ?_
          rotate_left
          · (intro wS hSw; have hcx := HCx.out _ (HB2.out.trans (Below.mono (After.trans (After.drew (After.refl _)) hSw) HB2.out.size)); have hcy := HCy.out _ (HB2.out.trans (Below.mono (After.trans (After.drew (After.refl _)) hSw) HB2.out.size)); have hd := HD1.out; go_simp; try with_reducible rfl)
          try simp only [Act.put, List.getElem_toArray, List.getElem_cons_succ, List.getElem_cons_zero, List.setIfInBounds_toArray, List.set_cons_zero, List.set_cons_succ]
          refine Script.load (i := 4) (v := ?_) rfl (by kernel_rfl) (by kernel_rfl) (fun _ _ _ h => h) (by kernel_rfl) ?_ ?_
          rotate_left
          · (intro wS hSw; have hcx := HCx.out _ (HB2.out.trans (Below.mono (After.trans (After.drew (After.refl _)) hSw) HB2.out.size)); have hcy := HCy.out _ (HB2.out.trans (Below.mono (After.trans (After.drew (After.refl _)) hSw) HB2.out.size)); have hd := HD1.out; go_simp; try with_reducible rfl)
          try simp only [Act.put, List.getElem_toArray, List.getElem_cons_succ, List.getElem_cons_zero, List.setIfInBounds_toArray, List.set_cons_zero, List.set_cons_succ]
          refine Script.load (i := 5) (v := ?_) rfl (by kernel_rfl) (by kernel_rfl) (fun _ _ _ h => h) (by kernel_rfl) ?_ ?_
          rotate_left
          · (intro wS hSw; have hcx := HCx.out _ (HB2.out.trans (Below.mono (After.trans (After.drew (After.refl _)) hSw) HB2.out.size)); have hcy := HCy.out _ (HB2.out.trans (Below.mono (After.trans (After.drew (After.refl _)) hSw) HB2.out.size)); have hd := HD1.out; go_simp; try with_reducible rfl)
          try simp only [Act.put, List.getElem_toArray, List.getElem_cons_succ, List.getElem_cons_zero, List.setIfInBounds_toArray, List.set_cons_zero, List.set_cons_succ]
          refine Script.load (i := 6) (v := ?_) rfl (by kernel_rfl) (by kernel_rfl) (fun _ _ _ h => h) (by kernel_rfl) ?_ ?_
          rotate_left
          · (intro wS hSw; have hcx := HCx.out _ (HB2.out.trans (Below.mono (After.trans (After.drew (After.refl _)) hSw) HB2.out.size)); have hcy := HCy.out _ (HB2.out.trans (Below.mono (After.trans (After.drew (After.refl _)) hSw) HB2.out.size)); have hd := HD1.out; go_simp; try with_reducible rfl)
          try simp only [Act.put, List.getElem_toArray, List.getElem_cons_succ, List.getElem_cons_zero, List.setIfInBounds_toArray, List.set_cons_zero, List.set_cons_succ]
          refine Script.load (i := 7) (v := ?_) rfl (by kernel_rfl) (by kernel_rfl) (fun _ _ _ h => h) (by kernel_rfl) ?_ ?_
          rotate_left
          · (intro wS hSw; have hcx := HCx.out _ (HB2.out.trans (Below.mono (After.trans (After.drew (After.refl _)) hSw) HB2.out.size)); have hcy := HCy.out _ (HB2.out.trans (Below.mono (After.trans (After.drew (After.refl _)) hSw) HB2.out.size)); have hd := HD1.out; go_simp; try with_reducible rfl)
          try simp only [Act.put, List.getElem_toArray, List.getElem_cons_succ, List.getElem_cons_zero, List.setIfInBounds_toArray, List.set_cons_zero, List.set_cons_succ]
          refine Script.load (i := 8) (v := ?_) rfl (by kernel_rfl) (by kernel_rfl) (fun _ _ _ h => h) (by kernel_rfl) ?_ ?_
          rotate_left
          · (intro wS hSw; have hcx := HCx.out _ (HB2.out.trans (Below.mono (After.trans (After.drew (After.refl _)) hSw) HB2.out.size)); have hcy := HCy.out _ (HB2.out.trans (Below.mono (After.trans (After.drew (After.refl _)) hSw) HB2.out.size)); have hd := HD1.out; go_simp; try with_reducible rfl)
          try simp only [Act.put, List.getElem_toArray, List.getElem_cons_succ, List.getElem_cons_zero, List.setIfInBounds_toArray, List.set_cons_zero, List.set_cons_succ]
          refine Script.load (i := 9) (v := ?_) rfl (by kernel_rfl) (by kernel_rfl) (fun _ _ _ h => h) (by kernel_rfl) ?_ ?_
          rotate_left
          · (intro wS hSw; have hcx := HCx.out _ (HB2.out.trans (Below.mono (After.trans (After.drew (After.refl _)) hSw) HB2.out.size)); have hcy := HCy.out _ (HB2.out.trans (Below.mono (After.trans (After.drew (After.refl _)) hSw) HB2.out.size)); have hd := HD1.out; go_simp; try with_reducible rfl)
          try simp only [Act.put, List.getElem_toArray, List.getElem_cons_succ, List.getElem_cons_zero, List.setIfInBounds_toArray, List.set_cons_zero, List.set_cons_succ]
          refine Script.done (by kernel_rfl) ?_
          intro wD hD hG
          have HR3 := Lib.hid (own_below HR2.out (After.trans (After.drew (After.refl _)) hD))
          have HB3 := Lib.hid (HB2.out.trans (Below.mono (After.trans (After.drew (After.refl _)) hD) HB2.out.size))
          clear hD hG HR2 HB2
          have hmn : m ≤ 1000000000 := by omega
          have HPush : Hid (∀ (g cap : Nat) (w' : World), w'.ownsRow w.heap.size 3 1 (.slice (some ⟨g, 0, none⟩) (m + 1) cap) (m + 1) (iv out ++ [.int .i64 x]) → w'.ownsRow w.heap.size 3 1 (.slice (some ⟨g, 0, none⟩) (m + 1) cap) (m + 1) (iv (out ++ [x])) ∧ (out ++ [x]).length = m + 1) := fun g cap w' h => ⟨by rw [iv_snoc]; exact h, by rw [List.length_append, HM.out]; rfl⟩
          rcases Nat.eq_zero_or_pos m with hm0 | hm0
          · subst hm0
            have HO : Hid (out = []) := List.eq_nil_of_length_eq_zero HM.out
            have HC3 : Hid (comF xs ys f0 (i + 1) (k + 1) (out ++ [x]) = R) := by
              have := HC2.out
              rw [HO.out] at this
              unfold Hid
              rw [HO.out]
              simpa using this
            obtain ⟨va, vc, rfl⟩ := int_form HR3.out
            have hw0 : IntKind.i64.wrap (-1) = -1 := IntWalk.i64_in _ (by omega)
            go_wp2_with fail
            refine wp_region_script (by kernel_rfl) (by kernel_rfl) ?_
            refine Script.load (i := 0) (v := ?_) rfl (by kernel_rfl) (by kernel_rfl) (fun _ _ _ h => h) (by kernel_rfl) ?_ ?_
            rotate_left
            · (intro wS hSw; skip; go_simp; try with_reducible rfl)
            try simp only [Act.put, List.getElem_toArray, List.getElem_cons_succ, List.getElem_cons_zero, List.setIfInBounds_toArray, List.set_cons_zero, List.set_cons_succ]
            refine Script.load (i := 1) (v := ?_) rfl (by kernel_rfl) (by kernel_rfl) (fun _ _ _ h => h) (by kernel_rfl) ?_ ?_
            rotate_left
            · (intro wS hSw; skip; go_simp; try with_reducible rfl)
            try simp only [Act.put, List.getElem_toArray, List.getElem_cons_succ, List.getElem_cons_zero, List.setIfInBounds_toArray, List.set_cons_zero, List.set_cons_succ]
            refine Script.load (i := 2) (v := ?_) rfl (by kernel_rfl) (by kernel_rfl) (fun _ _ _ h => h) (by kernel_rfl) ?_ ?_
            rotate_left
            · (intro wS hSw; skip; go_simp; try with_reducible rfl)
            try simp only [Act.put, List.getElem_toArray, List.getElem_cons_succ, List.getElem_cons_zero, List.setIfInBounds_toArray, List.set_cons_zero, List.set_cons_succ]
            refine Script.skip (i := 3) rfl (by kernel_rfl) (by kernel_rfl) (fun _ _ _ h => h) (by kernel_rfl) ?_
            try simp only [Act.put, List.getElem_toArray, List.getElem_cons_succ, List.getElem_cons_zero, List.setIfInBounds_toArray, List.set_cons_zero, List.set_cons_succ]
            refine Script.skip (i := 4) rfl (by kernel_rfl) (by kernel_rfl) (fun _ _ _ h => h) (by kernel_rfl) ?_
            try simp only [Act.put, List.getElem_toArray, List.getElem_cons_succ, List.getElem_cons_zero, List.setIfInBounds_toArray, List.set_cons_zero, List.set_cons_succ]
            refine Script.skip (i := 5) rfl (by kernel_rfl) (by kernel_rfl) (fun _ _ _ h => h) (by kernel_rfl) ?_
            try simp only [Act.put, List.getElem_toArray, List.getElem_cons_succ, List.getElem_cons_zero, List.setIfInBounds_toArray, List.set_cons_zero, List.set_cons_succ]
            refine Script.skip (i := 6) rfl (by kernel_rfl) (by kernel_rfl) (fun _ _ _ h => h) (by kernel_rfl) ?_
            try simp only [Act.put, List.getElem_toArray, List.getElem_cons_succ, List.getElem_cons_zero, List.setIfInBounds_toArray, List.set_cons_zero, List.set_cons_succ]
            refine Script.skip (i := 7) rfl (by kernel_rfl) (by kernel_rfl) (fun _ _ _ h => h) (by kernel_rfl) ?_
            try simp only [Act.put, List.getElem_toArray, List.getElem_cons_succ, List.getElem_cons_zero, List.setIfInBounds_toArray, List.set_cons_zero, List.set_cons_succ]
            refine Script.skip (i := 8) rfl (by kernel_rfl) (by kernel_rfl) (fun _ _ _ h => h) (by kernel_rfl) ?_
            try simp only [Act.put, List.getElem_toArray, List.getElem_cons_succ, List.getElem_cons_zero, List.setIfInBounds_toArray, List.set_cons_zero, List.set_cons_succ]
            refine Script.skip (i := 9) rfl (by kernel_rfl) (by kernel_rfl) (fun _ _ _ h => h) (by kernel_rfl) ?_
            try simp only [Act.put, List.getElem_toArray, List.getElem_cons_succ, List.getElem_cons_zero, List.setIfInBounds_toArray, List.set_cons_zero, List.set_cons_succ]
            refine Script.skip (i := 10) rfl (by kernel_rfl) (by kernel_rfl) (fun _ _ _ h => h) (by kernel_rfl) ?_
            try simp only [Act.put, List.getElem_toArray, List.getElem_cons_succ, List.getElem_cons_zero, List.setIfInBounds_toArray, List.set_cons_zero, List.set_cons_succ]
            refine Script.skip (i := 11) rfl (by kernel_rfl) (by kernel_rfl) (fun _ _ _ h => h) (by kernel_rfl) ?_
            try simp only [Act.put, List.getElem_toArray, List.getElem_cons_succ, List.getElem_cons_zero, List.setIfInBounds_toArray, List.set_cons_zero, List.set_cons_succ]
            refine Script.load (i := 12) (v := ?_) rfl (by kernel_rfl) (by kernel_rfl) (fun _ _ _ h => h) (by kernel_rfl) ?_ ?_
            rotate_left
            · (intro wS hSw; skip; go_simp; try with_reducible rfl)
            try simp only [Act.put, List.getElem_toArray, List.getElem_cons_succ, List.getElem_cons_zero, List.setIfInBounds_toArray, List.set_cons_zero, List.set_cons_succ]
            refine Script.done (by kernel_rfl) ?_
            intro wD hD hG
            have HR4 := Lib.hid (own_below HR3.out (After.trans (After.drew (After.refl _)) hD))
            have HB4 := Lib.hid (HB3.out.trans (Below.mono (After.trans (After.drew (After.refl _)) hD) HB3.out.size))
            clear hD hG HR3 HB3 HC2
            have hcx := HCx.out _ HB4.out
            have hBs := HB4.out.size
            have hown := HR4.out
            go_wp2_with (at_builtin; refine wpList_append_one rfl (.tmp 36) (.tmp 41) 30 rfl w.heap.size 3 j0 (.int .i64 0) 8 Try.underlying30 hj jz0 jz1 jz2 rfl (by decide) _ 0 (iv out) rfl hown rfl rfl hmn hBs ?_; intro g' cap' w8 hown' hgrow hb2)
            have HR5 := Lib.hid (HPush.out _ _ _ hown').1
            have HM5 := Lib.hid (HPush.out _ _ _ hown').2
            have HB5 := Lib.hid (HB4.out.trans hb2)
            clear hown' hgrow hb2 hown hcx hBs HR4 HB4 HPush
            go_wp2_with fail
            go_roundw
            case rel => exact ⟨i + 1, k + 1, f0, 0 + 1, _, _, by omega, by omega, by omega, by omega, by go_num, by go_num, rfl, HM5, HC3, HR5, HB5⟩
            case measure => simp [intOf]; omega
          · obtain ⟨m1, hm1⟩ : ∃ m1, m = m1 + 1 := ⟨m - 1, by omega⟩
            obtain ⟨z, hz⟩ : ∃ z, out[m1]? = some z := ⟨_, List.getElem?_eq_getElem (by rw [HM.out]; omega)⟩
            have HLast : Hid (out.getLast? = some z) := by
              unfold Hid
              rw [last_get, HM.out, show m - 1 = m1 by omega]
              exact hz
            obtain ⟨va, vc, rfl⟩ := int_form HR3.out
            obtain ⟨go, rfl⟩ := one_block HR3.out hm0
            have HCz : Hid (∀ w', After wD w' → w'.cell? ⟨go, m1, none⟩ = some (.int .i64 z)) := fun w' h => own_cell (own_below HR3.out h) m1 (by omega) _ (by simp [iv, hz])
            have hwm : IntKind.i64.wrap ((m : Int) - 1) = (m1 : Int) := by rw [show (m : Int) - 1 = (m1 : Int) by omega]; exact IntWalk.i64_in _ (by omega)
            have HNeg : Hid (decide ((m1 : Int) < 0) = false) := decide_eq_false (by omega)
            have m0' : (0 : Int) ≤ (m1 : Int) := by omega
            have m1' : (m1 : Int) < (m : Int) := by omega
            have HM1 := Lib.hid hm1
            clear hz hm1 hm0
            go_wp2_with fail
            by_cases hzx : z = x
            · have HNe : Hid ((z != x) = false) := by unfold Hid; simp [hzx]
              have HC3 : Hid (comF xs ys f0 (i + 1) (k + 1) out = R) := by
                have := HC2.out
                rwa [HLast.out, hzx, if_pos rfl] at this
              clear hzx HC2
              refine wp_region_script (by kernel_rfl) (by kernel_rfl) ?_
              refine Script.load (i := 0) (v := ?_) rfl (by kernel_rfl) (by kernel_rfl) (fun _ _ _ h => h) (by kernel_rfl) ?_ ?_
              rotate_left
              · (intro wS hSw; have hcx := HCx.out _ (HB3.out.trans (Below.mono (After.trans (After.drew (After.refl _)) hSw) HB3.out.size)); have hcz := HCz.out _ (After.trans (After.drew (After.refl _)) hSw); have hne := HNe.out; have hneg := HNeg.out; go_simp; try with_reducible rfl)
              try simp only [Act.put, List.getElem_toArray, List.getElem_cons_succ, List.getElem_cons_zero, List.setIfInBounds_toArray, List.set_cons_zero, List.set_cons_succ]
              refine Script.load (i := 1) (v := ?_) rfl (by kernel_rfl) (by kernel_rfl) (fun _ _ _ h => h) (by kernel_rfl) ?_ ?_
              rotate_left
              · (intro wS hSw; have hcx := HCx.out _ (HB3.out.trans (Below.mono (After.trans (After.drew (After.refl _)) hSw) HB3.out.size)); have hcz := HCz.out _ (After.trans (After.drew (After.refl _)) hSw); have hne := HNe.out; have hneg := HNeg.out; go_simp; try with_reducible rfl)
              try simp only [Act.put, List.getElem_toArray, List.getElem_cons_succ, List.getElem_cons_zero, List.setIfInBounds_toArray, List.set_cons_zero, List.set_cons_succ]
              refine Script.load (i := 2) (v := ?_) rfl (by kernel_rfl) (by kernel_rfl) (fun _ _ _ h => h) (by kernel_rfl) ?_ ?_
              rotate_left
              · (intro wS hSw; have hcx := HCx.out _ (HB3.out.trans (Below.mono (After.trans (After.drew (After.refl _)) hSw) HB3.out.size)); have hcz := HCz.out _ (After.trans (After.drew (After.refl _)) hSw); have hne := HNe.out; have hneg := HNeg.out; go_simp; try with_reducible rfl)
              try simp only [Act.put, List.getElem_toArray, List.getElem_cons_succ, List.getElem_cons_zero, List.setIfInBounds_toArray, List.set_cons_zero, List.set_cons_succ]
              refine Script.load (i := 3) (v := ?_) rfl (by kernel_rfl) (by kernel_rfl) (fun _ _ _ h => h) (by kernel_rfl) ?_ ?_
              rotate_left
              · (intro wS hSw; have hcx := HCx.out _ (HB3.out.trans (Below.mono (After.trans (After.drew (After.refl _)) hSw) HB3.out.size)); have hcz := HCz.out _ (After.trans (After.drew (After.refl _)) hSw); have hne := HNe.out; have hneg := HNeg.out; go_simp; try with_reducible rfl)
              try simp only [Act.put, List.getElem_toArray, List.getElem_cons_succ, List.getElem_cons_zero, List.setIfInBounds_toArray, List.set_cons_zero, List.set_cons_succ]
              refine Script.load (i := 4) (v := ?_) rfl (by kernel_rfl) (by kernel_rfl) (fun _ _ _ h => h) (by kernel_rfl) ?_ ?_
              rotate_left
              · (intro wS hSw; have hcx := HCx.out _ (HB3.out.trans (Below.mono (After.trans (After.drew (After.refl _)) hSw) HB3.out.size)); have hcz := HCz.out _ (After.trans (After.drew (After.refl _)) hSw); have hne := HNe.out; have hneg := HNeg.out; go_simp; try with_reducible rfl)
              try simp only [Act.put, List.getElem_toArray, List.getElem_cons_succ, List.getElem_cons_zero, List.setIfInBounds_toArray, List.set_cons_zero, List.set_cons_succ]
              refine Script.load (i := 5) (v := ?_) rfl (by kernel_rfl) (by kernel_rfl) (fun _ _ _ h => h) (by kernel_rfl) ?_ ?_
              rotate_left
              · (intro wS hSw; have hcx := HCx.out _ (HB3.out.trans (Below.mono (After.trans (After.drew (After.refl _)) hSw) HB3.out.size)); have hcz := HCz.out _ (After.trans (After.drew (After.refl _)) hSw); have hne := HNe.out; have hneg := HNeg.out; go_simp; try with_reducible rfl)
              try simp only [Act.put, List.getElem_toArray, List.getElem_cons_succ, List.getElem_cons_zero, List.setIfInBounds_toArray, List.set_cons_zero, List.set_cons_succ]
              refine Script.load (i := 6) (v := ?_) rfl (by kernel_rfl) (by kernel_rfl) (fun _ _ _ h => h) (by kernel_rfl) ?_ ?_
              rotate_left
              · (intro wS hSw; have hcx := HCx.out _ (HB3.out.trans (Below.mono (After.trans (After.drew (After.refl _)) hSw) HB3.out.size)); have hcz := HCz.out _ (After.trans (After.drew (After.refl _)) hSw); have hne := HNe.out; have hneg := HNeg.out; go_simp; try with_reducible rfl)
              try simp only [Act.put, List.getElem_toArray, List.getElem_cons_succ, List.getElem_cons_zero, List.setIfInBounds_toArray, List.set_cons_zero, List.set_cons_succ]
              refine Script.load (i := 7) (v := ?_) rfl (by kernel_rfl) (by kernel_rfl) (fun _ _ _ h => h) (by kernel_rfl) ?_ ?_
              rotate_left
              · (intro wS hSw; have hcx := HCx.out _ (HB3.out.trans (Below.mono (After.trans (After.drew (After.refl _)) hSw) HB3.out.size)); have hcz := HCz.out _ (After.trans (After.drew (After.refl _)) hSw); have hne := HNe.out; have hneg := HNeg.out; go_simp; try with_reducible rfl)
              try simp only [Act.put, List.getElem_toArray, List.getElem_cons_succ, List.getElem_cons_zero, List.setIfInBounds_toArray, List.set_cons_zero, List.set_cons_succ]
              refine Script.load (i := 8) (v := ?_) rfl (by kernel_rfl) (by kernel_rfl) (fun _ _ _ h => h) (by kernel_rfl) ?_ ?_
              rotate_left
              · (intro wS hSw; have hcx := HCx.out _ (HB3.out.trans (Below.mono (After.trans (After.drew (After.refl _)) hSw) HB3.out.size)); have hcz := HCz.out _ (After.trans (After.drew (After.refl _)) hSw); have hne := HNe.out; have hneg := HNeg.out; go_simp; try with_reducible rfl)
              try simp only [Act.put, List.getElem_toArray, List.getElem_cons_succ, List.getElem_cons_zero, List.setIfInBounds_toArray, List.set_cons_zero, List.set_cons_succ]
              refine Script.load (i := 9) (v := ?_) rfl (by kernel_rfl) (by kernel_rfl) (fun _ _ _ h => h) (by kernel_rfl) ?_ ?_
              rotate_left
              · (intro wS hSw; have hcx := HCx.out _ (HB3.out.trans (Below.mono (After.trans (After.drew (After.refl _)) hSw) HB3.out.size)); have hcz := HCz.out _ (After.trans (After.drew (After.refl _)) hSw); have hne := HNe.out; have hneg := HNeg.out; go_simp; try with_reducible rfl)
              try simp only [Act.put, List.getElem_toArray, List.getElem_cons_succ, List.getElem_cons_zero, List.setIfInBounds_toArray, List.set_cons_zero, List.set_cons_succ]
              refine Script.load (i := 10) (v := ?_) rfl (by kernel_rfl) (by kernel_rfl) (fun _ _ _ h => h) (by kernel_rfl) ?_ ?_
              rotate_left
              · (intro wS hSw; have hcx := HCx.out _ (HB3.out.trans (Below.mono (After.trans (After.drew (After.refl _)) hSw) HB3.out.size)); have hcz := HCz.out _ (After.trans (After.drew (After.refl _)) hSw); have hne := HNe.out; have hneg := HNeg.out; go_simp; try with_reducible rfl)
              try simp only [Act.put, List.getElem_toArray, List.getElem_cons_succ, List.getElem_cons_zero, List.setIfInBounds_toArray, List.set_cons_zero, List.set_cons_succ]
              refine Script.load (i := 11) (v := ?_) rfl (by kernel_rfl) (by kernel_rfl) (fun _ _ _ h => h) (by kernel_rfl) ?_ ?_
              rotate_left
              · (intro wS hSw; have hcx := HCx.out _ (HB3.out.trans (Below.mono (After.trans (After.drew (After.refl _)) hSw) HB3.out.size)); have hcz := HCz.out _ (After.trans (After.drew (After.refl _)) hSw); have hne := HNe.out; have hneg := HNeg.out; go_simp; try with_reducible rfl)
              try simp only [Act.put, List.getElem_toArray, List.getElem_cons_succ, List.getElem_cons_zero, List.setIfInBounds_toArray, List.set_cons_zero, List.set_cons_succ]
              refine Script.load (i := 12) (v := ?_) rfl (by kernel_rfl) (by kernel_rfl) (fun _ _ _ h => h) (by kernel_rfl) ?_ ?_
              rotate_left
              · (intro wS hSw; have hcx := HCx.out _ (HB3.out.trans (Below.mono (After.trans (After.drew (After.refl _)) hSw) HB3.out.size)); have hcz := HCz.out _ (After.trans (After.drew (After.refl _)) hSw); have hne := HNe.out; have hneg := HNeg.out; go_simp; try with_reducible rfl)
              try simp only [Act.put, List.getElem_toArray, List.getElem_cons_succ, List.getElem_cons_zero, List.setIfInBounds_toArray, List.set_cons_zero, List.set_cons_succ]
              refine Script.done (by kernel_rfl) ?_
              intro wD hD hG
              have HR4 := Lib.hid (own_below HR3.out (After.trans (After.drew (After.refl _)) hD))
              have HB4 := Lib.hid (HB3.out.trans (Below.mono (After.trans (After.drew (After.refl _)) hD) HB3.out.size))
              clear hD hG HR3 HB3
              go_wp2_with fail
              go_roundw
              case rel => exact ⟨i + 1, k + 1, f0, m, _, _, by omega, by omega, by omega, by omega, by go_num, by go_num, rfl, HM, HC3, HR4, HB4⟩
              case measure => simp [intOf]; omega
            · have HNe : Hid ((z != x) = true) := by unfold Hid; simp [hzx]
              have HC3 : Hid (comF xs ys f0 (i + 1) (k + 1) (out ++ [x]) = R) := by
                have := HC2.out
                rwa [HLast.out, if_neg (fun e => hzx (Option.some.inj e))] at this
              clear hzx HC2
              refine wp_region_script (by kernel_rfl) (by kernel_rfl) ?_
              refine Script.load (i := 0) (v := ?_) rfl (by kernel_rfl) (by kernel_rfl) (fun _ _ _ h => h) (by kernel_rfl) ?_ ?_
              rotate_left
              · (intro wS hSw; have hcx := HCx.out _ (HB3.out.trans (Below.mono (After.trans (After.drew (After.refl _)) hSw) HB3.out.size)); have hcz := HCz.out _ (After.trans (After.drew (After.refl _)) hSw); have hne := HNe.out; have hneg := HNeg.out; go_simp; try with_reducible rfl)
              try simp only [Act.put, List.getElem_toArray, List.getElem_cons_succ, List.getElem_cons_zero, List.setIfInBounds_toArray, List.set_cons_zero, List.set_cons_succ]
              refine Script.load (i := 1) (v := ?_) rfl (by kernel_rfl) (by kernel_rfl) (fun _ _ _ h => h) (by kernel_rfl) ?_ ?_
              rotate_left
              · (intro wS hSw; have hcx := HCx.out _ (HB3.out.trans (Below.mono (After.trans (After.drew (After.refl _)) hSw) HB3.out.size)); have hcz := HCz.out _ (After.trans (After.drew (After.refl _)) hSw); have hne := HNe.out; have hneg := HNeg.out; go_simp; try with_reducible rfl)
              try simp only [Act.put, List.getElem_toArray, List.getElem_cons_succ, List.getElem_cons_zero, List.setIfInBounds_toArray, List.set_cons_zero, List.set_cons_succ]
              refine Script.load (i := 2) (v := ?_) rfl (by kernel_rfl) (by kernel_rfl) (fun _ _ _ h => h) (by kernel_rfl) ?_ ?_
              rotate_left
              · (intro wS hSw; have hcx := HCx.out _ (HB3.out.trans (Below.mono (After.trans (After.drew (After.refl _)) hSw) HB3.out.size)); have hcz := HCz.out _ (After.trans (After.drew (After.refl _)) hSw); have hne := HNe.out; have hneg := HNeg.out; go_simp; try with_reducible rfl)
              try simp only [Act.put, List.getElem_toArray, List.getElem_cons_succ, List.getElem_cons_zero, List.setIfInBounds_toArray, List.set_cons_zero, List.set_cons_succ]
              refine Script.load (i := 3) (v := ?_) rfl (by kernel_rfl) (by kernel_rfl) (fun _ _ _ h => h) (by kernel_rfl) ?_ ?_
              rotate_left
              · (intro wS hSw; have hcx := HCx.out _ (HB3.out.trans (Below.mono (After.trans (After.drew (After.refl _)) hSw) HB3.out.size)); have hcz := HCz.out _ (After.trans (After.drew (After.refl _)) hSw); have hne := HNe.out; have hneg := HNeg.out; go_simp; try with_reducible rfl)
              try simp only [Act.put, List.getElem_toArray, List.getElem_cons_succ, List.getElem_cons_zero, List.setIfInBounds_toArray, List.set_cons_zero, List.set_cons_succ]
              refine Script.load (i := 4) (v := ?_) rfl (by kernel_rfl) (by kernel_rfl) (fun _ _ _ h => h) (by kernel_rfl) ?_ ?_
              rotate_left
              · (intro wS hSw; have hcx := HCx.out _ (HB3.out.trans (Below.mono (After.trans (After.drew (After.refl _)) hSw) HB3.out.size)); have hcz := HCz.out _ (After.trans (After.drew (After.refl _)) hSw); have hne := HNe.out; have hneg := HNeg.out; go_simp; try with_reducible rfl)
              try simp only [Act.put, List.getElem_toArray, List.getElem_cons_succ, List.getElem_cons_zero, List.setIfInBounds_toArray, List.set_cons_zero, List.set_cons_succ]
              refine Script.load (i := 5) (v := ?_) rfl (by kernel_rfl) (by kernel_rfl) (fun _ _ _ h => h) (by kernel_rfl) ?_ ?_
              rotate_left
              · (intro wS hSw; have hcx := HCx.out _ (HB3.out.trans (Below.mono (After.trans (After.drew (After.refl _)) hSw) HB3.out.size)); have hcz := HCz.out _ (After.trans (After.drew (After.refl _)) hSw); have hne := HNe.out; have hneg := HNeg.out; go_simp; try with_reducible rfl)
              try simp only [Act.put, List.getElem_toArray, List.getElem_cons_succ, List.getElem_cons_zero, List.setIfInBounds_toArray, List.set_cons_zero, List.set_cons_succ]
              refine Script.load (i := 6) (v := ?_) rfl (by kernel_rfl) (by kernel_rfl) (fun _ _ _ h => h) (by kernel_rfl) ?_ ?_
              rotate_left
              · (intro wS hSw; have hcx := HCx.out _ (HB3.out.trans (Below.mono (After.trans (After.drew (After.refl _)) hSw) HB3.out.size)); have hcz := HCz.out _ (After.trans (After.drew (After.refl _)) hSw); have hne := HNe.out; have hneg := HNeg.out; go_simp; try with_reducible rfl)
              try simp only [Act.put, List.getElem_toArray, List.getElem_cons_succ, List.getElem_cons_zero, List.setIfInBounds_toArray, List.set_cons_zero, List.set_cons_succ]
              refine Script.load (i := 7) (v := ?_) rfl (by kernel_rfl) (by kernel_rfl) (fun _ _ _ h => h) (by kernel_rfl) ?_ ?_
              rotate_left
              · (intro wS hSw; have hcx := HCx.out _ (HB3.out.trans (Below.mono (After.trans (After.drew (After.refl _)) hSw) HB3.out.size)); have hcz := HCz.out _ (After.trans (After.drew (After.refl _)) hSw); have hne := HNe.out; have hneg := HNeg.out; go_simp; try with_reducible rfl)
              try simp only [Act.put, List.getElem_toArray, List.getElem_cons_succ, List.getElem_cons_zero, List.setIfInBounds_toArray, List.set_cons_zero, List.set_cons_succ]
              refine Script.load (i := 8) (v := ?_) rfl (by kernel_rfl) (by kernel_rfl) (fun _ _ _ h => h) (by kernel_rfl) ?_ ?_
              rotate_left
              · (intro wS hSw; have hcx := HCx.out _ (HB3.out.trans (Below.mono (After.trans (After.drew (After.refl _)) hSw) HB3.out.size)); have hcz := HCz.out _ (After.trans (After.drew (After.refl _)) hSw); have hne := HNe.out; have hneg := HNeg.out; go_simp; try with_reducible rfl)
              try simp only [Act.put, List.getElem_toArray, List.getElem_cons_succ, List.getElem_cons_zero, List.setIfInBounds_toArray, List.set_cons_zero, List.set_cons_succ]
              refine Script.load (i := 9) (v := ?_) rfl (by kernel_rfl) (by kernel_rfl) (fun _ _ _ h => h) (by kernel_rfl) ?_ ?_
              rotate_left
              · (intro wS hSw; have hcx := HCx.out _ (HB3.out.trans (Below.mono (After.trans (After.drew (After.refl _)) hSw) HB3.out.size)); have hcz := HCz.out _ (After.trans (After.drew (After.refl _)) hSw); have hne := HNe.out; have hneg := HNeg.out; go_simp; try with_reducible rfl)
              try simp only [Act.put, List.getElem_toArray, List.getElem_cons_succ, List.getElem_cons_zero, List.setIfInBounds_toArray, List.set_cons_zero, List.set_cons_succ]
              refine Script.load (i := 10) (v := ?_) rfl (by kernel_rfl) (by kernel_rfl) (fun _ _ _ h => h) (by kernel_rfl) ?_ ?_
              rotate_left
              · (intro wS hSw; have hcx := HCx.out _ (HB3.out.trans (Below.mono (After.trans (After.drew (After.refl _)) hSw) HB3.out.size)); have hcz := HCz.out _ (After.trans (After.drew (After.refl _)) hSw); have hne := HNe.out; have hneg := HNeg.out; go_simp; try with_reducible rfl)
              try simp only [Act.put, List.getElem_toArray, List.getElem_cons_succ, List.getElem_cons_zero, List.setIfInBounds_toArray, List.set_cons_zero, List.set_cons_succ]
              refine Script.load (i := 11) (v := ?_) rfl (by kernel_rfl) (by kernel_rfl) (fun _ _ _ h => h) (by kernel_rfl) ?_ ?_
              rotate_left
              · (intro wS hSw; have hcx := HCx.out _ (HB3.out.trans (Below.mono (After.trans (After.drew (After.refl _)) hSw) HB3.out.size)); have hcz := HCz.out _ (After.trans (After.drew (After.refl _)) hSw); have hne := HNe.out; have hneg := HNeg.out; go_simp; try with_reducible rfl)
              try simp only [Act.put, List.getElem_toArray, List.getElem_cons_succ, List.getElem_cons_zero, List.setIfInBounds_toArray, List.set_cons_zero, List.set_cons_succ]
              refine Script.load (i := 12) (v := ?_) rfl (by kernel_rfl) (by kernel_rfl) (fun _ _ _ h => h) (by kernel_rfl) ?_ ?_
              rotate_left
              · (intro wS hSw; have hcx := HCx.out _ (HB3.out.trans (Below.mono (After.trans (After.drew (After.refl _)) hSw) HB3.out.size)); have hcz := HCz.out _ (After.trans (After.drew (After.refl _)) hSw); have hne := HNe.out; have hneg := HNeg.out; go_simp; try with_reducible rfl)
              try simp only [Act.put, List.getElem_toArray, List.getElem_cons_succ, List.getElem_cons_zero, List.setIfInBounds_toArray, List.set_cons_zero, List.set_cons_succ]
              refine Script.done (by kernel_rfl) ?_
              intro wD hD hG
              have HR4 := Lib.hid (own_below HR3.out (After.trans (After.drew (After.refl _)) hD))
              have HB4 := Lib.hid (HB3.out.trans (Below.mono (After.trans (After.drew (After.refl _)) hD) HB3.out.size))
              clear hD hG HR3 HB3
              have hcx := HCx.out _ HB4.out
              have hBs := HB4.out.size
              have hown := HR4.out
              go_wp2_with (at_builtin; refine wpList_append_one rfl (.tmp 36) (.tmp 41) 30 rfl w.heap.size 3 j0 (.int .i64 0) 8 Try.underlying30 hj jz0 jz1 jz2 rfl (by decide) _ m (iv out) rfl hown rfl rfl hmn hBs ?_; intro g' cap' w8 hown' hgrow hb2)
              have HR5 := Lib.hid (HPush.out _ _ _ hown').1
              have HM5 := Lib.hid (HPush.out _ _ _ hown').2
              have HB5 := Lib.hid (HB4.out.trans hb2)
              clear hown' hgrow hb2 hown hcx hBs HR4 HB4 HPush
              go_wp2_with fail
              go_roundw
              case rel => exact ⟨i + 1, k + 1, f0, m + 1, _, _, by omega, by omega, by omega, by omega, by go_num, by go_num, rfl, HM5, HC3, HR5, HB5⟩
              case measure => simp [intOf]; omega
        · have HC2 : Hid (comF xs ys f0 i (k + 1) out = R) := by unfold Hid; rw [← HC.out, HSt.out, if_neg (by omega), if_pos hxy]
          have HD1 : Hid (decide (x < y) = false) := decide_eq_false (by omega)
          have HD2 : Hid (decide (y < x) = true) := decide_eq_true hxy
          clear HSt HC hxy
          go_wp2_with fail
          refine wp_region_script (by kernel_rfl) (by kernel_rfl) ?_
          refine Script.load (i := 0) (v := ?_) rfl (by kernel_rfl) (by kernel_rfl) (fun _ _ _ h => h) (by kernel_rfl) ?_ ?_
          rotate_left
          · (intro wS hSw; have hcx := HCx.out _ (HB.out.trans (Below.mono (After.trans (After.drew (After.refl _)) hSw) HB.out.size)); have hcy := HCy.out _ (HB.out.trans (Below.mono (After.trans (After.drew (After.refl _)) hSw) HB.out.size)); have hd := HD1.out; go_simp; try with_reducible rfl)
          try simp only [Act.put, List.getElem_toArray, List.getElem_cons_succ, List.getElem_cons_zero, List.setIfInBounds_toArray, List.set_cons_zero, List.set_cons_succ]
          refine Script.load (i := 1) (v := ?_) rfl (by kernel_rfl) (by kernel_rfl) (fun _ _ _ h => h) (by kernel_rfl) ?_ ?_
          rotate_left
          · (intro wS hSw; have hcx := HCx.out _ (HB.out.trans (Below.mono (After.trans (After.drew (After.refl _)) hSw) HB.out.size)); have hcy := HCy.out _ (HB.out.trans (Below.mono (After.trans (After.drew (After.refl _)) hSw) HB.out.size)); have hd := HD1.out; go_simp; try with_reducible rfl)
          try simp only [Act.put, List.getElem_toArray, List.getElem_cons_succ, List.getElem_cons_zero, List.setIfInBounds_toArray, List.set_cons_zero, List.set_cons_succ]
          refine Script.load (i := 2) (v := ?_) rfl (by kernel_rfl) (by kernel_rfl) (fun _ _ _ h => h) (by kernel_rfl) ?_ ?_
          rotate_left
          · (intro wS hSw; have hcx := HCx.out _ (HB.out.trans (Below.mono (After.trans (After.drew (After.refl _)) hSw) HB.out.size)); have hcy := HCy.out _ (HB.out.trans (Below.mono (After.trans (After.drew (After.refl _)) hSw) HB.out.size)); have hd := HD1.out; go_simp; try with_reducible rfl)
          try simp only [Act.put, List.getElem_toArray, List.getElem_cons_succ, List.getElem_cons_zero, List.setIfInBounds_toArray, List.set_cons_zero, List.set_cons_succ]
          refine Script.load (i := 3) (v := ?_) rfl (by kernel_rfl) (by kernel_rfl) (fun _ _ _ h => h) (by kernel_rfl) ?_ ?_
          rotate_left
          · (intro wS hSw; have hcx := HCx.out _ (HB.out.trans (Below.mono (After.trans (After.drew (After.refl _)) hSw) HB.out.size)); have hcy := HCy.out _ (HB.out.trans (Below.mono (After.trans (After.drew (After.refl _)) hSw) HB.out.size)); have hd := HD1.out; go_simp; try with_reducible rfl)
          try simp only [Act.put, List.getElem_toArray, List.getElem_cons_succ, List.getElem_cons_zero, List.setIfInBounds_toArray, List.set_cons_zero, List.set_cons_succ]
          refine Script.load (i := 4) (v := ?_) rfl (by kernel_rfl) (by kernel_rfl) (fun _ _ _ h => h) (by kernel_rfl) ?_ ?_
          rotate_left
          · (intro wS hSw; have hcx := HCx.out _ (HB.out.trans (Below.mono (After.trans (After.drew (After.refl _)) hSw) HB.out.size)); have hcy := HCy.out _ (HB.out.trans (Below.mono (After.trans (After.drew (After.refl _)) hSw) HB.out.size)); have hd := HD1.out; go_simp; try with_reducible rfl)
          try simp only [Act.put, List.getElem_toArray, List.getElem_cons_succ, List.getElem_cons_zero, List.setIfInBounds_toArray, List.set_cons_zero, List.set_cons_succ]
          refine Script.load (i := 5) (v := ?_) rfl (by kernel_rfl) (by kernel_rfl) (fun _ _ _ h => h) (by kernel_rfl) ?_ ?_
          rotate_left
          · (intro wS hSw; have hcx := HCx.out _ (HB.out.trans (Below.mono (After.trans (After.drew (After.refl _)) hSw) HB.out.size)); have hcy := HCy.out _ (HB.out.trans (Below.mono (After.trans (After.drew (After.refl _)) hSw) HB.out.size)); have hd := HD1.out; go_simp; try with_reducible rfl)
          try simp only [Act.put, List.getElem_toArray, List.getElem_cons_succ, List.getElem_cons_zero, List.setIfInBounds_toArray, List.set_cons_zero, List.set_cons_succ]
          refine Script.load (i := 6) (v := ?_) rfl (by kernel_rfl) (by kernel_rfl) (fun _ _ _ h => h) (by kernel_rfl) ?_ ?_
          rotate_left
          · (intro wS hSw; have hcx := HCx.out _ (HB.out.trans (Below.mono (After.trans (After.drew (After.refl _)) hSw) HB.out.size)); have hcy := HCy.out _ (HB.out.trans (Below.mono (After.trans (After.drew (After.refl _)) hSw) HB.out.size)); have hd := HD1.out; go_simp; try with_reducible rfl)
          try simp only [Act.put, List.getElem_toArray, List.getElem_cons_succ, List.getElem_cons_zero, List.setIfInBounds_toArray, List.set_cons_zero, List.set_cons_succ]
          refine Script.load (i := 7) (v := ?_) rfl (by kernel_rfl) (by kernel_rfl) (fun _ _ _ h => h) (by kernel_rfl) ?_ ?_
          rotate_left
          · (intro wS hSw; have hcx := HCx.out _ (HB.out.trans (Below.mono (After.trans (After.drew (After.refl _)) hSw) HB.out.size)); have hcy := HCy.out _ (HB.out.trans (Below.mono (After.trans (After.drew (After.refl _)) hSw) HB.out.size)); have hd := HD1.out; go_simp; try with_reducible rfl)
          try simp only [Act.put, List.getElem_toArray, List.getElem_cons_succ, List.getElem_cons_zero, List.setIfInBounds_toArray, List.set_cons_zero, List.set_cons_succ]
          refine Script.load (i := 8) (v := ?_) rfl (by kernel_rfl) (by kernel_rfl) (fun _ _ _ h => h) (by kernel_rfl) ?_ ?_
          rotate_left
          · (intro wS hSw; have hcx := HCx.out _ (HB.out.trans (Below.mono (After.trans (After.drew (After.refl _)) hSw) HB.out.size)); have hcy := HCy.out _ (HB.out.trans (Below.mono (After.trans (After.drew (After.refl _)) hSw) HB.out.size)); have hd := HD1.out; go_simp; try with_reducible rfl)
          try simp only [Act.put, List.getElem_toArray, List.getElem_cons_succ, List.getElem_cons_zero, List.setIfInBounds_toArray, List.set_cons_zero, List.set_cons_succ]
          refine Script.load (i := 9) (v := ?_) rfl (by kernel_rfl) (by kernel_rfl) (fun _ _ _ h => h) (by kernel_rfl) ?_ ?_
          rotate_left
          · (intro wS hSw; have hcx := HCx.out _ (HB.out.trans (Below.mono (After.trans (After.drew (After.refl _)) hSw) HB.out.size)); have hcy := HCy.out _ (HB.out.trans (Below.mono (After.trans (After.drew (After.refl _)) hSw) HB.out.size)); have hd := HD1.out; go_simp; try with_reducible rfl)
          try simp only [Act.put, List.getElem_toArray, List.getElem_cons_succ, List.getElem_cons_zero, List.setIfInBounds_toArray, List.set_cons_zero, List.set_cons_succ]
          refine Script.done (by kernel_rfl) ?_
          intro wD hD hG
          have HR2 := Lib.hid (own_below HR.out (After.trans (After.drew (After.refl _)) hD))
          have HB2 := Lib.hid (HB.out.trans (Below.mono (After.trans (After.drew (After.refl _)) hD) HB.out.size))
          clear hD hG HR HB
          go_wp2_with fail
          refine wp_region_script (by kernel_rfl) (by kernel_rfl) ?_
          refine Script.load (i := 0) (v := ?_) rfl (by kernel_rfl) (by kernel_rfl) (fun _ _ _ h => h) (by kernel_rfl) ?_ ?_
          rotate_left
          · (intro wS hSw; have hcx := HCx.out _ (HB2.out.trans (Below.mono (After.trans (After.drew (After.refl _)) hSw) HB2.out.size)); have hcy := HCy.out _ (HB2.out.trans (Below.mono (After.trans (After.drew (After.refl _)) hSw) HB2.out.size)); have hd := HD2.out; go_simp; try with_reducible rfl)
          try simp only [Act.put, List.getElem_toArray, List.getElem_cons_succ, List.getElem_cons_zero, List.setIfInBounds_toArray, List.set_cons_zero, List.set_cons_succ]
          refine Script.load (i := 1) (v := ?_) rfl (by kernel_rfl) (by kernel_rfl) (fun _ _ _ h => h) (by kernel_rfl) ?_ ?_
          rotate_left
          · (intro wS hSw; have hcx := HCx.out _ (HB2.out.trans (Below.mono (After.trans (After.drew (After.refl _)) hSw) HB2.out.size)); have hcy := HCy.out _ (HB2.out.trans (Below.mono (After.trans (After.drew (After.refl _)) hSw) HB2.out.size)); have hd := HD2.out; go_simp; try with_reducible rfl)
          try simp only [Act.put, List.getElem_toArray, List.getElem_cons_succ, List.getElem_cons_zero, List.setIfInBounds_toArray, List.set_cons_zero, List.set_cons_succ]
          refine Script.load (i := 2) (v := ?_) rfl (by kernel_rfl) (by kernel_rfl) (fun _ _ _ h => h) (by kernel_rfl) ?_ ?_
          rotate_left
          · (intro wS hSw; have hcx := HCx.out _ (HB2.out.trans (Below.mono (After.trans (After.drew (After.refl _)) hSw) HB2.out.size)); have hcy := HCy.out _ (HB2.out.trans (Below.mono (After.trans (After.drew (After.refl _)) hSw) HB2.out.size)); have hd := HD2.out; go_simp; try with_reducible rfl)
          try simp only [Act.put, List.getElem_toArray, List.getElem_cons_succ, List.getElem_cons_zero, List.setIfInBounds_toArray, List.set_cons_zero, List.set_cons_succ]
          refine Script.load (i := 3) (v := ?_) rfl (by kernel_rfl) (by kernel_rfl) (fun _ _ _ h => h) (by kernel_rfl) ?_ ?_
          rotate_left
          · (intro wS hSw; have hcx := HCx.out _ (HB2.out.trans (Below.mono (After.trans (After.drew (After.refl _)) hSw) HB2.out.size)); have hcy := HCy.out _ (HB2.out.trans (Below.mono (After.trans (After.drew (After.refl _)) hSw) HB2.out.size)); have hd := HD2.out; go_simp; try with_reducible rfl)
          try simp only [Act.put, List.getElem_toArray, List.getElem_cons_succ, List.getElem_cons_zero, List.setIfInBounds_toArray, List.set_cons_zero, List.set_cons_succ]
          refine Script.load (i := 4) (v := ?_) rfl (by kernel_rfl) (by kernel_rfl) (fun _ _ _ h => h) (by kernel_rfl) ?_ ?_
          rotate_left
          · (intro wS hSw; have hcx := HCx.out _ (HB2.out.trans (Below.mono (After.trans (After.drew (After.refl _)) hSw) HB2.out.size)); have hcy := HCy.out _ (HB2.out.trans (Below.mono (After.trans (After.drew (After.refl _)) hSw) HB2.out.size)); have hd := HD2.out; go_simp; try with_reducible rfl)
          try simp only [Act.put, List.getElem_toArray, List.getElem_cons_succ, List.getElem_cons_zero, List.setIfInBounds_toArray, List.set_cons_zero, List.set_cons_succ]
          refine Script.load (i := 5) (v := ?_) rfl (by kernel_rfl) (by kernel_rfl) (fun _ _ _ h => h) (by kernel_rfl) ?_ ?_
          rotate_left
          · (intro wS hSw; have hcx := HCx.out _ (HB2.out.trans (Below.mono (After.trans (After.drew (After.refl _)) hSw) HB2.out.size)); have hcy := HCy.out _ (HB2.out.trans (Below.mono (After.trans (After.drew (After.refl _)) hSw) HB2.out.size)); have hd := HD2.out; go_simp; try with_reducible rfl)
          try simp only [Act.put, List.getElem_toArray, List.getElem_cons_succ, List.getElem_cons_zero, List.setIfInBounds_toArray, List.set_cons_zero, List.set_cons_succ]
          refine Script.load (i := 6) (v := ?_) rfl (by kernel_rfl) (by kernel_rfl) (fun _ _ _ h => h) (by kernel_rfl) ?_ ?_
          rotate_left
          · (intro wS hSw; have hcx := HCx.out _ (HB2.out.trans (Below.mono (After.trans (After.drew (After.refl _)) hSw) HB2.out.size)); have hcy := HCy.out _ (HB2.out.trans (Below.mono (After.trans (After.drew (After.refl _)) hSw) HB2.out.size)); have hd := HD2.out; go_simp; try with_reducible rfl)
          try simp only [Act.put, List.getElem_toArray, List.getElem_cons_succ, List.getElem_cons_zero, List.setIfInBounds_toArray, List.set_cons_zero, List.set_cons_succ]
          refine Script.load (i := 7) (v := ?_) rfl (by kernel_rfl) (by kernel_rfl) (fun _ _ _ h => h) (by kernel_rfl) ?_ ?_
          rotate_left
          · (intro wS hSw; have hcx := HCx.out _ (HB2.out.trans (Below.mono (After.trans (After.drew (After.refl _)) hSw) HB2.out.size)); have hcy := HCy.out _ (HB2.out.trans (Below.mono (After.trans (After.drew (After.refl _)) hSw) HB2.out.size)); have hd := HD2.out; go_simp; try with_reducible rfl)
          try simp only [Act.put, List.getElem_toArray, List.getElem_cons_succ, List.getElem_cons_zero, List.setIfInBounds_toArray, List.set_cons_zero, List.set_cons_succ]
          refine Script.load (i := 8) (v := ?_) rfl (by kernel_rfl) (by kernel_rfl) (fun _ _ _ h => h) (by kernel_rfl) ?_ ?_
          rotate_left
          · (intro wS hSw; have hcx := HCx.out _ (HB2.out.trans (Below.mono (After.trans (After.drew (After.refl _)) hSw) HB2.out.size)); have hcy := HCy.out _ (HB2.out.trans (Below.mono (After.trans (After.drew (After.refl _)) hSw) HB2.out.size)); have hd := HD2.out; go_simp; try with_reducible rfl)
          try simp only [Act.put, List.getElem_toArray, List.getElem_cons_succ, List.getElem_cons_zero, List.setIfInBounds_toArray, List.set_cons_zero, List.set_cons_succ]
          refine Script.load (i := 9) (v := ?_) rfl (by kernel_rfl) (by kernel_rfl) (fun _ _ _ h => h) (by kernel_rfl) ?_ ?_
          rotate_left
          · (intro wS hSw; have hcx := HCx.out _ (HB2.out.trans (Below.mono (After.trans (After.drew (After.refl _)) hSw) HB2.out.size)); have hcy := HCy.out _ (HB2.out.trans (Below.mono (After.trans (After.drew (After.refl _)) hSw) HB2.out.size)); have hd := HD2.out; go_simp; try with_reducible rfl)
          try simp only [Act.put, List.getElem_toArray, List.getElem_cons_succ, List.getElem_cons_zero, List.setIfInBounds_toArray, List.set_cons_zero, List.set_cons_succ]
          refine Script.done (by kernel_rfl) ?_
          intro wD hD hG
          have HR3 := Lib.hid (own_below HR2.out (After.trans (After.drew (After.refl _)) hD))
          have HB3 := Lib.hid (HB2.out.trans (Below.mono (After.trans (After.drew (After.refl _)) hD) HB2.out.size))
          clear hD hG HR2 HB2
          go_wp2_with fail
          go_roundw
          case rel => exact ⟨i, k + 1, f0, m, out, _, by omega, by omega, by omega, by omega, rfl, by go_num, rfl, HM, HC2, HR3, HB3⟩
          case measure => simp [intOf]; omega
      · obtain rfl : k = n1 := by omega
        have i0' : (0 : Int) ≤ (i : Int) := by omega
        have i1' : (i : Int) < (n0 : Int) := by omega
        have HE : Hid (out = R) := by unfold Hid; rw [← HC.out]; exact (HEnd.out f i k out (.inr (Nat.le_refl _))).symm
        have HF : Hid (OwnIv R w (.returned val) wr) := by unfold Hid; rw [← HE.out]; exact ⟨_, rfl, by rw [HM.out]; exact HR.out, HB.out⟩
        clear HR HB HC
        go_wp2_with fail
        go_ret
        exact HF.out
    · obtain rfl : i = n0 := by omega
      have HE : Hid (out = R) := by unfold Hid; rw [← HC.out]; exact (HEnd.out f i k out (.inl (Nat.le_refl _))).symm
      have HF : Hid (OwnIv R w (.returned val) wr) := by unfold Hid; rw [← HE.out]; exact ⟨_, rfl, by rw [HM.out]; exact HR.out, HB.out⟩
      clear HR HB HC
      go_wp2_with fail
      go_ret
      exact HF.out
set_option maxHeartbeats 4000000 in
set_option maxRecDepth 100000 in
theorem implMeet (W H Z P G n : Int) (hP : P ≤ 9223372036854775807) (hG : G ≤ 9223372036854775807) (hn : n ≤ 9223372036854775807) (w : World) : Calls Try.prog 13 #[.agg #[.int .i64 W, .int .i64 H, .int .i64 Z], .int .i64 P, .int .i64 G, .int .i64 n] w (OwnIv (meetL W H Z P G n) w) := by
  have CS := Lib.hid (fun b (h : smallB W H Z = b) w => implSmall_is h w)
  have CA := Lib.hid (fun b (h : posB W H Z P = b) w => implPos_is hP h w)
  have CB := Lib.hid (fun b (h : posB W H Z G = b) w => implPos_is hG h w)
  have CP := Lib.hid (fun w => implPegs W H Z P hP w)
  have CG := Lib.hid (fun w => implPegs W H Z G hG w)
  have hx := count_in W H Z P
  have hy := count_in W H Z G
  have HM : Hid (meetL W H Z P G n = if (smallB W H Z && posB W H Z P && posB W H Z G && decide (0 ≤ n ∧ n ≤ countB W H Z P - countB W H Z G)) = true then commL (il (layL false W H Z P n)) (il (layL true W H Z G (countB W H Z P - countB W H Z G - n))) else []) := rfl
  have C1 := Lib.hid (fun w => implLayerOf W H Z P n hP hn w)
  have C2 := Lib.hid (fun m (hm : m ≤ 9223372036854775807) w => implBackLayer W H Z G m hG hm w)
  have L1 := Lib.hid (layL_len false W H Z P n)
  have L2 := Lib.hid (fun m => layL_len true W H Z G m)
  generalize countB W H Z P = x at *
  generalize countB W H Z G = y at *
  generalize layL false W H Z P n = la at *
  have hw : IntKind.i64.wrap (x - y) = x - y := IntWalk.i64_in _ (by omega)
  obtain ⟨d, hd⟩ : ∃ d, x - y = d := ⟨_, rfl⟩
  rw [hd] at HM
  have hw0 : IntKind.i64.wrap (x - y) = d := hw.trans hd
  have hd0 : -50 ≤ d ∧ d ≤ 50 := by omega
  clear hP hG hx hy hw hd
  obtain ⟨s, hs⟩ : ∃ s, smallB W H Z = s := ⟨_, rfl⟩
  obtain ⟨p1, hp1⟩ : ∃ s, posB W H Z P = s := ⟨_, rfl⟩
  obtain ⟨p2, hp2⟩ : ∃ s, posB W H Z G = s := ⟨_, rfl⟩
  have CS := Lib.hid (CS.out s hs)
  have CA := Lib.hid (CA.out p1 hp1)
  have CB := Lib.hid (CB.out p2 hp2)
  rw [hs, hp1, hp2] at HM
  clear hs hp1 hp2
  go_enter Try.func13, Try.ntmps13
  go_wp2_with fail
  have B0 := Lib.hid (box_new W H Z w)
  generalize w.alloc (.cells #[.int .i64 W, .int .i64 H, .int .i64 Z] 25) = W1 at *
  obtain ⟨c0, c1, c2, hlt, hb1⟩ := B0.out
  go_wp2_with fail
  refine (CS.out _).mono ?_
  rintro e w1 ⟨rfl, hb⟩
  have B1 := Lib.hid (B0.out.later hb)
  clear hb c0 c1 c2 hlt hb1 B0
  cases s
  · have HE : Hid (meetL W H Z P G n = []) := by unfold Hid; rw [HM.out]; rfl
    have HF := Lib.hid (ownIv_nil w w1 B1.out.2.2.2.2)
    rw [← HE.out] at HF
    clear HM
    go_wp2_with fail
    go_ret
    exact HF.out
  obtain ⟨c0, c1, c2, hlt, hb1⟩ := B1.out
  go_wp2_with fail
  refine (CA.out _).mono ?_
  rintro e w2 ⟨rfl, hb⟩
  have B2 := Lib.hid (B1.out.later hb)
  clear hb c0 c1 c2 hlt hb1 B1
  cases p1
  · have HE : Hid (meetL W H Z P G n = []) := by unfold Hid; rw [HM.out]; rfl
    have HF := Lib.hid (ownIv_nil w w2 B2.out.2.2.2.2)
    rw [← HE.out] at HF
    clear HM
    go_wp2_with fail
    go_ret
    exact HF.out
  obtain ⟨c0, c1, c2, hlt, hb1⟩ := B2.out
  go_wp2_with fail
  refine (CB.out _).mono ?_
  rintro e w3 ⟨rfl, hb⟩
  have B3 := Lib.hid (B2.out.later hb)
  clear hb c0 c1 c2 hlt hb1 B2
  cases p2
  · have HE : Hid (meetL W H Z P G n = []) := by unfold Hid; rw [HM.out]; rfl
    have HF := Lib.hid (ownIv_nil w w3 B3.out.2.2.2.2)
    rw [← HE.out] at HF
    clear HM
    go_wp2_with fail
    go_ret
    exact HF.out
  go_wp2_with fail
  refine wp_region_script (by kernel_rfl) (by kernel_rfl) ?_
  refine Script.load (i := 0) (v := ?_) rfl (by kernel_rfl) (by kernel_rfl) (fun _ _ _ h => h) (by kernel_rfl) ?_ ?_
  rotate_left
  · (intro wS hSw; obtain ⟨c0, c1, c2, -, -⟩ := B3.out.later (After.trans (After.drew (After.refl _)) hSw); go_simp; try with_reducible rfl)
  try simp only [Act.put, List.getElem_toArray, List.getElem_cons_succ, List.getElem_cons_zero, List.setIfInBounds_toArray, List.set_cons_zero, List.set_cons_succ]
  refine Script.load (i := 1) (v := ?_) rfl (by kernel_rfl) (by kernel_rfl) (fun _ _ _ h => h) (by kernel_rfl) ?_ ?_
  rotate_left
  · (intro wS hSw; obtain ⟨c0, c1, c2, -, -⟩ := B3.out.later (After.trans (After.drew (After.refl _)) hSw); go_simp; try with_reducible rfl)
  try simp only [Act.put, List.getElem_toArray, List.getElem_cons_succ, List.getElem_cons_zero, List.setIfInBounds_toArray, List.set_cons_zero, List.set_cons_succ]
  refine Script.call (i := 2) (v := ?_) rfl (by kernel_rfl) (by kernel_rfl) (fun _ _ _ h => h) (by kernel_rfl) ?_ ?_
  rotate_left
  · (intro wS hSw K hK; obtain ⟨c0, c1, c2, -, -⟩ := B3.out.later (After.trans (After.drew (After.refl _)) hSw); go_simp; go_at_call 38; refine (CP.out _).mono ?_; rintro e wc ⟨rfl, hbc⟩; exact hK.out _ hbc)
  try simp only [Act.put, List.getElem_toArray, List.getElem_cons_succ, List.getElem_cons_zero, List.setIfInBounds_toArray, List.set_cons_zero, List.set_cons_succ]
  refine Script.load (i := 3) (v := ?_) rfl (by kernel_rfl) (by kernel_rfl) (fun _ _ _ h => h) (by kernel_rfl) ?_ ?_
  rotate_left
  · (intro wS hSw; obtain ⟨c0, c1, c2, -, -⟩ := B3.out.later (After.trans (After.drew (After.refl _)) hSw); go_simp; try with_reducible rfl)
  try simp only [Act.put, List.getElem_toArray, List.getElem_cons_succ, List.getElem_cons_zero, List.setIfInBounds_toArray, List.set_cons_zero, List.set_cons_succ]
  refine Script.load (i := 4) (v := ?_) rfl (by kernel_rfl) (by kernel_rfl) (fun _ _ _ h => h) (by kernel_rfl) ?_ ?_
  rotate_left
  · (intro wS hSw; obtain ⟨c0, c1, c2, -, -⟩ := B3.out.later (After.trans (After.drew (After.refl _)) hSw); go_simp; try with_reducible rfl)
  try simp only [Act.put, List.getElem_toArray, List.getElem_cons_succ, List.getElem_cons_zero, List.setIfInBounds_toArray, List.set_cons_zero, List.set_cons_succ]
  refine Script.call (i := 5) (v := ?_) rfl (by kernel_rfl) (by kernel_rfl) (fun _ _ _ h => h) (by kernel_rfl) ?_ ?_
  rotate_left
  · (intro wS hSw K hK; obtain ⟨c0, c1, c2, -, -⟩ := B3.out.later (After.trans (After.drew (After.refl _)) hSw); go_simp; go_at_call 38; refine (CG.out _).mono ?_; rintro e wc ⟨rfl, hbc⟩; exact hK.out _ hbc)
  try simp only [Act.put, List.getElem_toArray, List.getElem_cons_succ, List.getElem_cons_zero, List.setIfInBounds_toArray, List.set_cons_zero, List.set_cons_succ]
  refine Script.load (i := 6) (v := ?_) rfl (by kernel_rfl) (by kernel_rfl) (fun _ _ _ h => h) (by kernel_rfl) ?_ ?_
  rotate_left
  · (intro wS hSw; obtain ⟨c0, c1, c2, -, -⟩ := B3.out.later (After.trans (After.drew (After.refl _)) hSw); go_simp; try with_reducible rfl)
  try simp only [Act.put, List.getElem_toArray, List.getElem_cons_succ, List.getElem_cons_zero, List.setIfInBounds_toArray, List.set_cons_zero, List.set_cons_succ]
  refine Script.load (i := 7) (v := ?_) rfl (by kernel_rfl) (by kernel_rfl) (fun _ _ _ h => h) (by kernel_rfl) ?_ ?_
  rotate_left
  · (intro wS hSw; obtain ⟨c0, c1, c2, -, -⟩ := B3.out.later (After.trans (After.drew (After.refl _)) hSw); go_simp; try with_reducible rfl)
  try simp only [Act.put, List.getElem_toArray, List.getElem_cons_succ, List.getElem_cons_zero, List.setIfInBounds_toArray, List.set_cons_zero, List.set_cons_succ]
  refine Script.done (by kernel_rfl) ?_
  intro wD hD hG
  have B2 := Lib.hid (B3.out.later (After.trans (After.drew (After.refl _)) hD))
  clear hD hG B3 CP CG CS CA CB
  rcases Int.lt_or_le n 0 with hn0 | hn0
  · have HE : Hid (meetL W H Z P G n = []) := by
      unfold Hid
      rw [HM.out, show decide (0 ≤ n ∧ n ≤ d) = false from decide_eq_false (by omega)]
      rfl
    have HF := Lib.hid (ownIv_nil w _ B2.out.2.2.2.2)
    rw [← HE.out] at HF
    clear HM
    go_wp2_with fail
    go_ret
    exact HF.out
  rcases Int.lt_or_le d n with hnd | hnd
  · have HE : Hid (meetL W H Z P G n = []) := by
      unfold Hid
      rw [HM.out, show decide (0 ≤ n ∧ n ≤ d) = false from decide_eq_false (by omega)]
      rfl
    have HF := Lib.hid (ownIv_nil w _ B2.out.2.2.2.2)
    rw [← HE.out] at HF
    have hn1 : ¬ n < 0 := by omega
    clear HM
    go_wp2_with fail
    go_ret
    exact HF.out
  have hi' : 0 ≤ n ∧ n ≤ d := ⟨hn0, hnd⟩
  have hn1 : ¬ n < 0 := by omega
  have hn2 : ¬ d < n := by omega
  have HE : Hid (meetL W H Z P G n = commL (il la) (il (layL true W H Z G (d - n)))) := by
    unfold Hid
    rw [HM.out, show decide (0 ≤ n ∧ n ≤ d) = true from decide_eq_true hi']
    rfl
  have hw2 : IntKind.i64.wrap (d - n) = d - n := IntWalk.i64_in _ (by omega)
  have C3 := Lib.hid (C2.out (d - n) (by omega))
  have L3 := Lib.hid (L2.out (d - n))
  generalize layL true W H Z G (d - n) = lb at *
  have CC := Lib.hid (fun (a0 a1 : Option Addr) (n0 c0 n1 c1 : Nat) (w : World) (hx : n0 ≤ 1048576) (hy : n1 ≤ 1048576) (h0 : IntsAt w a0 n0 (il la)) (h1 : IntsAt w a1 n1 (il lb)) (hl0 : (il la).length = n0) (hl1 : (il lb).length = n1) => implCommon (c0 := c0) (c1 := c1) w hx hy h0 h1 hl0 hl1)
  obtain ⟨res, hres⟩ : ∃ r, commL (il la) (il lb) = r := ⟨_, rfl⟩
  rw [hres] at CC
  have HE2 : Hid (meetL W H Z P G n = res) := by unfold Hid; rw [HE.out, hres]
  obtain ⟨na, hna⟩ : ∃ m, la.length = m := ⟨_, rfl⟩
  obtain ⟨nb, hnb⟩ : ∃ m, lb.length = m := ⟨_, rfl⟩
  have hna65 : na ≤ 65536 := by rw [← hna]; exact L1.out
  have hnb65 : nb ≤ 65536 := by rw [← hnb]; exact L3.out
  have HNa := Lib.hid hna
  have HNb := Lib.hid hnb
  have HIa : Hid ((il la).length = na) := by unfold Hid; simp [il, hna]
  have HIb : Hid ((il lb).length = nb) := by unfold Hid; simp [il, hnb]
  clear hi' HM HE hna hnb C2 L2 hres
  obtain ⟨dn, hdn⟩ : ∃ e, d - n = e := ⟨_, rfl⟩
  rw [hdn] at C3
  have hw3 : IntKind.i64.wrap (d - n) = dn := hw2.trans hdn
  clear hdn hw2
  go_wp2_with fail
  refine wp_region_script (by kernel_rfl) (by kernel_rfl) ?_
  refine Script.load (i := 0) (v := ?_) rfl (by kernel_rfl) (by kernel_rfl) (fun _ _ _ h => h) (by kernel_rfl) ?_ ?_
  rotate_left
  · (intro wS hSw; obtain ⟨c0, c1, c2, -, -⟩ := B2.out.later (After.trans (After.drew (After.refl _)) hSw); go_simp; try with_reducible rfl)
  try simp only [Act.put, List.getElem_toArray, List.getElem_cons_succ, List.getElem_cons_zero, List.setIfInBounds_toArray, List.set_cons_zero, List.set_cons_succ]
  refine Script.load (i := 1) (v := ?_) rfl (by kernel_rfl) (by kernel_rfl) (fun _ _ _ h => h) (by kernel_rfl) ?_ ?_
  rotate_left
  · (intro wS hSw; obtain ⟨c0, c1, c2, -, -⟩ := B2.out.later (After.trans (After.drew (After.refl _)) hSw); go_simp; try with_reducible rfl)
  try simp only [Act.put, List.getElem_toArray, List.getElem_cons_succ, List.getElem_cons_zero, List.setIfInBounds_toArray, List.set_cons_zero, List.set_cons_succ]
  refine Script.load (i := 2) (v := ?_) rfl (by kernel_rfl) (by kernel_rfl) (fun _ _ _ h => h) (by kernel_rfl) ?_ ?_
  rotate_left
  · (intro wS hSw; obtain ⟨c0, c1, c2, -, -⟩ := B2.out.later (After.trans (After.drew (After.refl _)) hSw); go_simp; try with_reducible rfl)
  try simp only [Act.put, List.getElem_toArray, List.getElem_cons_succ, List.getElem_cons_zero, List.setIfInBounds_toArray, List.set_cons_zero, List.set_cons_succ]
  refine Script.load (i := 4) (v := ?_) rfl (by kernel_rfl) (by kernel_rfl) (fun _ _ _ h => h) (by kernel_rfl) ?_ ?_
  rotate_left
  · (intro wS hSw; obtain ⟨c0, c1, c2, -, -⟩ := B2.out.later (After.trans (After.drew (After.refl _)) hSw); go_simp; try with_reducible rfl)
  try simp only [Act.put, List.getElem_toArray, List.getElem_cons_succ, List.getElem_cons_zero, List.setIfInBounds_toArray, List.set_cons_zero, List.set_cons_succ]
  refine Script.load (i := 5) (v := ?_) rfl (by kernel_rfl) (by kernel_rfl) (fun _ _ _ h => h) (by kernel_rfl) ?_ ?_
  rotate_left
  · (intro wS hSw; obtain ⟨c0, c1, c2, -, -⟩ := B2.out.later (After.trans (After.drew (After.refl _)) hSw); go_simp; try with_reducible rfl)
  try simp only [Act.put, List.getElem_toArray, List.getElem_cons_succ, List.getElem_cons_zero, List.setIfInBounds_toArray, List.set_cons_zero, List.set_cons_succ]
  refine Script.load (i := 6) (v := ?_) rfl (by kernel_rfl) (by kernel_rfl) (fun _ _ _ h => h) (by kernel_rfl) ?_ ?_
  rotate_left
  · (intro wS hSw; obtain ⟨c0, c1, c2, -, -⟩ := B2.out.later (After.trans (After.drew (After.refl _)) hSw); go_simp; try with_reducible rfl)
  try simp only [Act.put, List.getElem_toArray, List.getElem_cons_succ, List.getElem_cons_zero, List.setIfInBounds_toArray, List.set_cons_zero, List.set_cons_succ]
  refine Script.load (i := 7) (v := ?_) rfl (by kernel_rfl) (by kernel_rfl) (fun _ _ _ h => h) (by kernel_rfl) ?_ ?_
  rotate_left
  · (intro wS hSw; obtain ⟨c0, c1, c2, -, -⟩ := B2.out.later (After.trans (After.drew (After.refl _)) hSw); go_simp; try with_reducible rfl)
  try simp only [Act.put, List.getElem_toArray, List.getElem_cons_succ, List.getElem_cons_zero, List.setIfInBounds_toArray, List.set_cons_zero, List.set_cons_succ]
  refine Script.load (i := 8) (v := ?_) rfl (by kernel_rfl) (by kernel_rfl) (fun _ _ _ h => h) (by kernel_rfl) ?_ ?_
  rotate_left
  · (intro wS hSw; obtain ⟨c0, c1, c2, -, -⟩ := B2.out.later (After.trans (After.drew (After.refl _)) hSw); go_simp; try with_reducible rfl)
  try simp only [Act.put, List.getElem_toArray, List.getElem_cons_succ, List.getElem_cons_zero, List.setIfInBounds_toArray, List.set_cons_zero, List.set_cons_succ]
  refine Script.one (i := 3) rfl (by kernel_rfl) (by kernel_rfl) ?_
  intro wO hO K hK; have hSw := hO; obtain ⟨c0, c1, c2, -, -⟩ := B2.out.later (After.trans (After.drew (After.refl _)) hSw); go_simp
  clear hSw
  go_at_call 15; refine (C1.out _).mono ?_; rintro e wc ⟨v1, rfl, ho1, hbc⟩
  refine hK.out _ _ hbc ?_
  clear hK K
  try simp only [Act.put, List.getElem_toArray, List.getElem_cons_succ, List.getElem_cons_zero, List.setIfInBounds_toArray, List.set_cons_zero, List.set_cons_succ]
  have HO3 := Lib.hid (After.trans (After.drew (After.refl _)) (After.trans hO hbc))
  have HR1 := Lib.hid ho1
  have HB3 : Hid (Below w.heap.size w wc) := B2.out.2.2.2.2.trans (Below.mono HO3.out B2.out.2.2.2.2.size)
  clear ho1 c0 c1 c2
  refine Script.one (i := 9) rfl (by kernel_rfl) (by kernel_rfl) ?_
  intro wO hO K hK; have hSw := hO; skip; go_simp
  clear hSw
  go_at_call 17; refine (C3.out _).mono ?_; rintro e wc' ⟨v2, rfl, ho2, hbc⟩
  refine hK.out _ _ hbc ?_
  clear hK K
  try simp only [Act.put, List.getElem_toArray, List.getElem_cons_succ, List.getElem_cons_zero, List.setIfInBounds_toArray, List.set_cons_zero, List.set_cons_succ]
  have HO9 := Lib.hid (After.trans hO hbc)
  have HR2 := Lib.hid ho2
  have HB9 : Hid (Below w.heap.size w wc') := HB3.out.trans (Below.mono HO9.out HB3.out.size)
  clear ho2
  rw [HNa.out] at HR1
  rw [HNb.out] at HR2
  obtain ⟨va1, vc1, rfl⟩ := one_form HR1.out
  obtain ⟨va2, vc2, rfl⟩ := one_form HR2.out
  refine Script.one (i := 10) rfl (by kernel_rfl) (by kernel_rfl) ?_
  intro wO hO K hK; have hSw := hO; skip; go_simp
  clear hSw
  go_at_call 19; refine (CC.out va1 va2 na vc1 nb vc2 _ (by omega) (by omega) (ints_at (own_below HR1.out (After.trans HO9.out hO)) HNa.out) (ints_at (own_below HR2.out hO) HNb.out) HIa.out HIb.out).mono ?_; rintro e wc3 ⟨v3, rfl, ho3, hbc⟩
  refine hK.out _ _ hbc ?_
  clear hK K
  try simp only [Act.put, List.getElem_toArray, List.getElem_cons_succ, List.getElem_cons_zero, List.setIfInBounds_toArray, List.set_cons_zero, List.set_cons_succ]
  have HB10 : Hid (Below w.heap.size w wO) := HB9.out.trans (Below.mono hO HB9.out.size)
  have HR3 := Lib.hid (own_base ho3 HB10.out.size)
  have HB11 : Hid (Below w.heap.size w wc3) := HB10.out.trans (Below.mono hbc HB10.out.size)
  clear ho3
  refine Script.load (i := 11) (v := ?_) rfl (by kernel_rfl) (by kernel_rfl) (fun _ _ _ h => h) (by kernel_rfl) ?_ ?_
  rotate_left
  · (intro wS hSw; skip; go_simp; try with_reducible rfl)
  try simp only [Act.put, List.getElem_toArray, List.getElem_cons_succ, List.getElem_cons_zero, List.setIfInBounds_toArray, List.set_cons_zero, List.set_cons_succ]
  refine Script.done (by kernel_rfl) ?_
  intro wD hD hG
  have HF : Hid (OwnIv res w (.returned v3) wD) := ⟨_, rfl, own_below HR3.out hD, HB11.out.trans (Below.mono hD HB11.out.size)⟩
  clear hD hG
  go_wp2_with fail
  go_ret
  rw [HE2.out]
  exact HF.out
/-- The widest layer ahead of the n-th. -/
def widQ (len : Nat → Nat) : Nat → Nat × Nat
  | 0 => (0, 0)
  | n + 1 => widK len n
theorem widQ_next (len : Nat → Nat) (k : Nat) (h : 0 < len k) : widQ len (k + 1) = if (widQ len k).2 < len k then (k, len k) else widQ len k := by
  cases k with
  | zero => show (0, len 0) = if 0 < len 0 then (0, len 0) else (0, 0); rw [if_pos h]
  | succ k => rfl
theorem widQ_stop {len : Nat → Nat} (h0 : 0 < len 0) (hz : ∀ k m, len k = 0 → k ≤ m → len m = 0) {k : Nat} (hk : k ≤ 50) (h : len k = 0) : widK len 50 = widQ len k := by
  cases k with
  | zero => omega
  | succ k =>
    have h1 := widK_stop (len := len) (n := k + 1) (fun m hm => hz (k + 1) m h (by omega)) (50 - (k + 1))
    rw [show k + 1 + (50 - (k + 1)) = 50 by omega] at h1
    rw [h1]
    show (if (widK len k).2 < len (k + 1) then (k + 1, len (k + 1)) else widK len k) = widK len k
    rw [h, if_neg (Nat.not_lt_zero _)]
set_option maxHeartbeats 8000000 in
set_option maxRecDepth 100000 in
theorem implWid (W H Z P : Int) (hP : P ≤ 9223372036854775807) (w : World) : Calls Try.prog 14 #[.agg #[.int .i64 W, .int .i64 H, .int .i64 Z], .int .i64 P] w (QI (widB W H Z P) w) := by
  have hmm := @run_makeMap Try.prog
  have C1 := Lib.hid (fun b (h : smallB W H Z = b) w => implSmall_is h w)
  have C2 := Lib.hid (fun b (h : posB W H Z P = b) w => implPos_is hP h w)
  cases h1 : smallB W H Z
  · have K1 := Lib.hid (C1.out _ h1)
    have HE : Hid (widB W H Z P = -1) := by unfold Hid widB; rw [h1]; rfl
    clear h1 C1 C2 hP
    go_enter Try.func14, Try.ntmps14
    go_wp2_with fail
    have B0 := Lib.hid (box_new W H Z w)
    generalize w.alloc (.cells #[.int .i64 W, .int .i64 H, .int .i64 Z] 25) = W1 at *
    obtain ⟨c0, c1, c2, hlt, hb1⟩ := B0.out
    go_wp2_with fail
    refine (K1.out _).mono ?_
    rintro e w1 ⟨rfl, hb⟩
    have B1 := Lib.hid (B0.out.later hb)
    clear hb c0 c1 c2 hlt hb1
    go_wp2_with fail
    go_ret
    exact ⟨ret_int HE.out.symm, B1.out.2.2.2.2⟩
  have K1 := Lib.hid (C1.out _ h1)
  cases h2 : posB W H Z P
  · have K2 := Lib.hid (C2.out _ h2)
    have HE : Hid (widB W H Z P = -1) := by unfold Hid widB; rw [h1, h2]; rfl
    clear h1 h2 C1 C2 hP
    go_enter Try.func14, Try.ntmps14
    go_wp2_with fail
    have B0 := Lib.hid (box_new W H Z w)
    generalize w.alloc (.cells #[.int .i64 W, .int .i64 H, .int .i64 Z] 25) = W1 at *
    obtain ⟨c0, c1, c2, hlt, hb1⟩ := B0.out
    go_wp2_with fail
    refine (K1.out _).mono ?_
    rintro e w1 ⟨rfl, hb⟩
    have B1 := Lib.hid (B0.out.later hb)
    clear hb c0 c1 c2 hlt hb1
    obtain ⟨c0, c1, c2, hlt, hb1⟩ := B1.out
    go_wp2_with fail
    refine (K2.out _).mono ?_
    rintro e w2 ⟨rfl, hb⟩
    have B2 := Lib.hid (B1.out.later hb)
    clear hb c0 c1 c2 hlt hb1
    go_wp2_with fail
    go_ret
    exact ⟨ret_int HE.out.symm, B2.out.2.2.2.2⟩
  · have K2 := Lib.hid (C2.out _ h2)
    have hok : (smallB W H Z && posB W H Z P) = true := by rw [h1, h2]; rfl
    obtain ⟨a, b, N, z, p, S⟩ := small5 h1 h2
    obtain ⟨rfl, rfl, rfl, rfl, ho, h16, hp⟩ := S
    have hpM := part_lt hp ho.zlt
    have hM65 : 2 ^ N ≤ 65536 := Nat.pow_le_pow_right (by decide) h16
    have CL := Lib.hid (fun w => implLinesA (a : Int) b z w)
    have HE : Hid (widB (a : Int) b z (p : Int) = ((widK (fun n => (layK (stepL false (lnsOf (a : Int) b z)) (2 ^ N) p n).length) 50).1 : Int)) := by
      unfold Hid widB
      rw [hok, if_pos rfl]
      congr 2
      rw [show (fun n : Nat => (layL false (a : Int) b z (p : Int) (n : Int)).length) = (fun n => (layK (stepL false (lnsOf (a : Int) b z)) (2 ^ N) p n).length) from funext fun n => by rw [layL_yes ho h16 hp n]]
    have HX : Hid (∀ (k : Nat) (T : List Nat), (∀ q, q ∈ T ↔ q ∈ layK (stepL false (lnsOf (a : Int) b z)) (2 ^ N) p k) → ∀ q, q ∈ nextK (stepL false (lnsOf (a : Int) b z)) (2 ^ N) T ↔ q ∈ layK (stepL false (lnsOf (a : Int) b z)) (2 ^ N) p (k + 1)) := fun k T hT q => by
      show _ ↔ q ∈ nextK _ _ _
      rw [mem_nextK, mem_nextK]
      exact and_congr_right fun _ => exists_congr fun r => and_congr_left fun _ => hT r
    have CN2 : Hid (∀ (k nl lc m : Nat) (la : Option Addr) (T : List Nat) (hT : ∀ q, q ∈ T ↔ q ∈ layK (stepL false (lnsOf (a : Int) b z)) (2 ^ N) p k) (hnl : (lnsOf (a : Int) b z).length = nl) (w : World) (hk : KeysAt w m T) (hl : LnsAt la nl (lnsOf (a : Int) b z) w.heap.size w.heap.size w), Calls Try.prog 40 #[.map (some m), .slice la nl lc, .func (.func 41) #[] #[]] w (OwnLayer (layK (stepL false (lnsOf (a : Int) b z)) (2 ^ N) p (k + 1)) w)) := fun k nl lc m la T hT hnl w hk hl => (implNext (la := la) (lc := lc) false ho (fun q hq => lay_parts ho hp k q ((hT q).1 hq)) hnl w hk hl).mono fun e w' h => by
      obtain ⟨fb, T', r1, r2, r3, r4, r5⟩ := h
      exact ⟨fb, T', r1, r2, r3, fun q => (r4 q).trans (HX.out k T hT q), r5⟩
    have HLen : Hid (∀ k, (layK (stepL false (lnsOf (a : Int) b z)) (2 ^ N) p k).length ≤ 65536) := fun k => Nat.le_trans (layK_len hpM k) hM65
    have HUp : Hid (∀ k, (layK (stepL false (lnsOf (a : Int) b z)) (2 ^ N) p k).Pairwise (· < ·)) := fun k => layK_up k
    have H0 : Hid (layK (stepL false (lnsOf (a : Int) b z)) (2 ^ N) p 0 = [p]) := rfl
    have H50 : Hid (∀ k, 50 ≤ k → (layK (stepL false (lnsOf (a : Int) b z)) (2 ^ N) p k).length = 0) := fun k hk => by rw [lay_none ho false k hk]; rfl
    have HStop : Hid (∀ k, k ≤ 50 → (layK (stepL false (lnsOf (a : Int) b z)) (2 ^ N) p k).length = 0 → widK (fun n => (layK (stepL false (lnsOf (a : Int) b z)) (2 ^ N) p n).length) 50 = widQ (fun n => (layK (stepL false (lnsOf (a : Int) b z)) (2 ^ N) p n).length) k) := fun k hk h => widQ_stop (len := fun n => (layK (stepL false (lnsOf (a : Int) b z)) (2 ^ N) p n).length) (by simp [layK]) (fun k m hk hm => by
      have := layK_nil (List.eq_nil_of_length_eq_zero hk) (m - k)
      rw [show k + (m - k) = m by omega] at this
      show (layK (stepL false (lnsOf (a : Int) b z)) (2 ^ N) p m).length = 0
      rw [this]; rfl) hk h
    have HW : Hid (∀ k, 0 < (layK (stepL false (lnsOf (a : Int) b z)) (2 ^ N) p k).length → widQ (fun n => (layK (stepL false (lnsOf (a : Int) b z)) (2 ^ N) p n).length) (k + 1) = if (widQ (fun n => (layK (stepL false (lnsOf (a : Int) b z)) (2 ^ N) p n).length) k).2 < (layK (stepL false (lnsOf (a : Int) b z)) (2 ^ N) p k).length then (k, (layK (stepL false (lnsOf (a : Int) b z)) (2 ^ N) p k).length) else widQ (fun n => (layK (stepL false (lnsOf (a : Int) b z)) (2 ^ N) p n).length) k) := fun k h => widQ_next _ k h
    have HW0 : Hid (widQ (fun n => (layK (stepL false (lnsOf (a : Int) b z)) (2 ^ N) p n).length) 0 = (0, 0)) := rfl
    have hll := lnsOf_le (a : Int) b z
    rw [HE.out]
    generalize widK (fun n => (layK (stepL false (lnsOf (a : Int) b z)) (2 ^ N) p n).length) 50 = wk at *
    generalize widQ (fun n => (layK (stepL false (lnsOf (a : Int) b z)) (2 ^ N) p n).length) = wq at *
    generalize layK (stepL false (lnsOf (a : Int) b z)) (2 ^ N) p = lay at *
    generalize lnsOf (a : Int) b z = ls at *
    obtain ⟨nl, hnl⟩ : ∃ nl, ls.length = nl := ⟨_, rfl⟩
    have HNL := Lib.hid hnl
    rw [hnl] at hll
    clear h1 h2 C1 C2 hP ho h16 hp hpM HX hM65 hnl hok HE
    go_enter Try.func14, Try.ntmps14
    go_wp2_with fail
    have B0 := Lib.hid (box_new a b z w)
    generalize w.alloc (.cells #[.int .i64 (a : Int), .int .i64 (b : Int), .int .i64 (z : Int)] 25) = W1 at *
    obtain ⟨c0, c1, c2, hlt, hb1⟩ := B0.out
    go_wp2_with fail
    refine (K1.out _).mono ?_
    rintro e w1 ⟨rfl, hb⟩
    have B1 := Lib.hid (B0.out.later hb)
    clear hb c0 c1 c2 hlt hb1
    obtain ⟨c0, c1, c2, hlt, hb1⟩ := B1.out
    go_wp2_with fail
    refine (K2.out _).mono ?_
    rintro e w2 ⟨rfl, hb⟩
    have B2 := Lib.hid (B1.out.later hb)
    clear hb c0 c1 c2 hlt hb1
    obtain ⟨c0, c1, c2, hlt, hb1⟩ := B2.out
    go_wp2_with fail
    refine (CL.out _).mono ?_
    rintro e w3 ⟨lv', rfl, hh, hb⟩
    obtain ⟨la, lc, rfl⟩ := lines_form hh
    rw [HNL.out] at hh
    rw [HNL.out]
    have B3 := Lib.hid (B2.out.later hb)
    have HL3 : Hid (LnsAt la nl ls w3.heap.size w3.heap.size w3) := by
      refine ⟨HNL.out, ?_⟩
      rcases Nat.eq_zero_or_pos nl with h0 | h0
      · exact .inl h0
      · right
        rcases Go.Joins.ownsRow_forms hh with ⟨h, h1⟩ | ⟨g, cap', h⟩
        · omega
        · injection h with h1 h2 h3
          subst h1 h3
          have hl := hh.lt g rfl
          exact ⟨g, rfl, by omega, hl.2, fun i l hi => line_cells hh HNL.out hi⟩
    obtain ⟨w4, hput, hk4, hg4⟩ := (KeysAt.made w3).put (P := Try.prog) (K := 3) (E := 4) (T := 54) (key_int Try.underlying3) Try.underlying54 p
    have hb34 : Below w3.heap.size w3 w4 := ((Below.refl _ w3).alloc (Nat.le_refl _) _).grown hg4 (by simp) (fun k e => by cases e; exact Nat.le_refl _)
    have HS4 : Hid (WlSt w w3.heap.size a b z w3.heap.size nl la ls [p] (lay 0) w4) := ⟨B3.out.later hb34, HL3.out.turn (fun g _ hg => hb34.block g hg), hk4, by simp, fun q => by rw [H0.out], hb34.size⟩
    clear hh hb c0 c1 c2 hlt hb1 B0 B1 B2 B3 HL3 hk4 hg4 hb34 K1 K2 CL H0
    go_wp2_with fail
    clear hput hmm
    generalize w3.heap.size = B at *
    have HS4' : Hid (∃ m, m = B ∧ WlSt w B a b z m nl la ls [p] (lay 0) w4) := ⟨_, rfl, HS4.out⟩
    clear HS4
    go_loopw [6, 7, 8, 9] (fun u q s i wr => ∃ (k m best most : Nat) (T : List Nat), k ≤ 50 ∧ i = .int .i64 k ∧ s = .map (some m) ∧ u = .int .i64 best ∧ q = .int .i64 most ∧ best ≤ 50 ∧ most ≤ 65536 ∧ Hid (wq k = (best, most)) ∧ Hid (WlSt w B a b z m nl la ls T (lay k) wr)) (fun _ _ _ i _ => 60 - (intOf i).toNat)
    case atStart =>
      obtain ⟨m, rfl, h⟩ := HS4'.out
      exact ⟨0, m, 0, 0, [p], by omega, rfl, rfl, rfl, rfl, by omega, by omega, HW0, h⟩
    case round =>
      clear HS4'
      obtain ⟨k, m, best, most, T, hk, rfl, rfl, rfl, rfl, hbe, hmo, HK, HS⟩ := hrel
      obtain ⟨es, clock, hes, hsz⟩ := HS.out.keys.len
      have hlen := run_len_map (P := Try.prog) wr 54 3 m es clock (by exact Try.underlying54) hes
      obtain ⟨nn, hnn⟩ : ∃ nn, T.length = nn := ⟨_, rfl⟩
      have hT := same_len HS.out.nodup (HUp.out k) HS.out.mem
      have hl65 := HLen.out k
      rw [← hT] at hl65
      rw [hnn] at hsz hT hl65
      rw [hsz] at hlen
      have hWk := HW.out k
      rw [← hT, HK.out] at hWk
      by_cases hn0 : 0 < nn
      · have n1 : (0 : Int) < (nn : Int) := by omega
        have hk50 : k < 50 := by
          rcases Nat.lt_or_ge k 50 with h | h
          · exact h
          · have := H50.out k h; omega
        have CX := Lib.hid (fun w hk hl => CN2.out k nl lc m la T HS.out.mem HNL.out w hk hl)
        have HWk := Lib.hid (hWk hn0)
        clear hnn hes hsz hT hWk
        by_cases hmm : most < nn
        · have hd : (most : Int) < (nn : Int) := by omega
          have HK2 : Hid (wq (k + 1) = (k, nn)) := by unfold Hid; rw [HWk.out, if_pos hmm]
          clear HWk hmm HK
          go_wp2_with fail
          refine (CX.out _ HS.out.keys HS.out.at).mono ?_
          rintro e w5 ⟨m', T', rfl, hk', hn', hm', -, hb⟩
          have HS2 := Lib.hid (HS.out.next hb hk' hn' hm')
          clear hk' hn' hm' hb HS CX hlen
          go_wp2_with fail
          go_roundw
          case rel => exact ⟨k + 1, m', k, nn, T', by omega, by go_num, rfl, rfl, rfl, by omega, hl65, HK2, HS2⟩
          case measure => simp [intOf]; omega
        · have hd : ¬ (most : Int) < (nn : Int) := by omega
          have HK2 : Hid (wq (k + 1) = (best, most)) := by unfold Hid; rw [HWk.out, if_neg hmm]
          clear HWk hmm HK
          go_wp2_with fail
          refine (CX.out _ HS.out.keys HS.out.at).mono ?_
          rintro e w5 ⟨m', T', rfl, hk', hn', hm', -, hb⟩
          have HS2 := Lib.hid (HS.out.next hb hk' hn' hm')
          clear hk' hn' hm' hb HS CX hlen
          go_wp2_with fail
          go_roundw
          case rel => exact ⟨k + 1, m', best, most, T', by omega, by go_num, rfl, rfl, rfl, hbe, hmo, HK2, HS2⟩
          case measure => simp [intOf]; omega
      · obtain rfl : nn = 0 := by omega
        have HF : Hid (wk.1 = best) := by unfold Hid; rw [HStop.out k hk hT.symm, HK.out]
        have HB := Lib.hid HS.out.box.2.2.2.2
        clear hnn hes hsz hT HS hWk
        go_wp2_with fail
        go_ret
        exact ⟨ret_int (by rw [HF.out]), HB.out⟩
end Go.Proofs.Ytgkmapemnlgldaa
