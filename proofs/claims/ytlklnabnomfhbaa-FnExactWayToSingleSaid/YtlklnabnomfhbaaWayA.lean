/- Ways, of the model: l15Back, l15Ok, GoodJumps, WayTo, JumpsBetween, IsSpoiled, WayToSingle, for every three ints and ints up to 2^63 - 1. -/
import Derived.Test.YtlklnabnomfhbaaWayMath
import Derived.Test.YtlklnabnomfhbaaReachC
import Derived.Test.YtlklnabnomfhbaaJumps
import Derived.Test.YtlklnabnomfhbaaGames
import Derived.Deep.LoopGhost
namespace Go.Proofs.Ytlklnabnomfhbaa
open Go.RowKit
set_option linter.unusedVariables false
set_option linter.unusedSimpArgs false
/-- A list of lines that grows beside marks and a list that are read. -/
structure WaySt (w0 : World) (W H Z : Int) (gs M : Nat) (s : Nat → Bool) (ga : Option Addr) (n gc : Nat) (js : List Ln) (v : Value) (out : List Ln) (w : World) : Prop where
  box : Box w0.heap.size W H Z w0 w
  marks : w.ownsRow w0.heap.size 4 1 (.slice (some ⟨gs, 0, none⟩) M M) M (bv M s)
  ls : w.ownsRow w0.heap.size 39 3 (.slice ga n gc) n (lv js)
  len : js.length = n
  out : w.ownsRow (w0.heap.size + 1) 39 3 v out.length (lv out)
  mo : v.ownBlock ≠ some gs
  lo : ∀ g0, ga = some ⟨g0, 0, none⟩ → v.ownBlock ≠ some g0
  size : w0.heap.size + 1 ≤ w.heap.size
section
variable {w0 w w' : World} {W H Z : Int} {gs M n gc : Nat} {s : Nat → Bool} {ga : Option Addr} {js out : List Ln} {v : Value}
theorem WaySt.later (h : WaySt w0 W H Z gs M s ga n gc js v out w) (hb : Below w.heap.size w w') : WaySt w0 W H Z gs M s ga n gc js v out w' :=
  ⟨h.box.later hb, own_below h.marks hb, own_below h.ls hb, h.len, own_below h.out hb, h.mo, h.lo, Nat.le_trans h.size hb.size⟩
/-- Another list to read, in new memory. -/
theorem WaySt.take (h : WaySt w0 W H Z gs M s ga n gc js v out w) (hb : Below w.heap.size w w') {ga' : Option Addr} {n' gc' : Nat} {js' : List Ln} (hl : w'.ownsRow w.heap.size 39 3 (.slice ga' n' gc') n' (lv js')) (hn : js'.length = n') : WaySt w0 W H Z gs M s ga' n' gc' js' v out w' := by
  refine ⟨h.box.later hb, own_below h.marks hb, own_base hl (Nat.le_trans (Nat.le_succ _) h.size), hn, own_below h.out hb, h.mo, fun g0 hg e => ?_, Nat.le_trans h.size hb.size⟩
  have h1 := (hl.lt g0 (by rw [hg]; rfl)).1
  have h2 := (h.out.lt g0 e).2
  omega
theorem WaySt.push (h : WaySt w0 W H Z gs M s ga n gc js v out w) {g cap : Nat} {f o t : Int}
    (hown : w'.ownsRow (w0.heap.size + 1) 39 3 (.slice (some ⟨g, 0, none⟩) (out.length + 1) cap) (out.length + 1) (lv (out ++ [(f, o, t)]))) (hgrow : (w.alloc (.cells #[.int .i64 f, .int .i64 o, .int .i64 t] 39)).grownBy w' v.ownBlock) (hb : Below (w0.heap.size + 1) w w') (hat : v.ownBlock = some g ∨ g = w.heap.size + 1) :
    WaySt w0 W H Z gs M s ga n gc js (.slice (some ⟨g, 0, none⟩) (out.length + 1) cap) (out ++ [(f, o, t)]) w' := by
  have hba : Below w.heap.size w (w.alloc (.cells #[.int .i64 f, .int .i64 o, .int .i64 t] 39)) := (Below.refl _ _).alloc (Nat.le_refl _) _
  have hms := (h.marks.lt gs rfl).2
  refine ⟨h.box.kept hb (Nat.lt_succ_self _) (Nat.le_succ _), (own_below h.marks hba).kept hgrow (.inr fun e => h.mo e.symm), ?_, h.len, by rw [List.length_append]; exact hown, fun e => ?_, fun g0 hg e => ?_, Nat.le_trans h.size hb.size⟩
  · refine (own_below h.ls hba).kept hgrow ?_
    rcases Go.Joins.ownsRow_forms h.ls with ⟨h1, -⟩ | ⟨g', cap', h1⟩
    · left; injection h1 with h1 _ _; subst h1; rfl
    · right
      injection h1 with h1 _ _
      subst h1
      exact fun e => h.lo g' rfl e.symm
  · have hg' : g = gs := by simpa [Value.ownBlock] using e
    subst hg'
    rcases hat with h3 | h3
    · exact h.mo h3
    · omega
  · have hg' : g = g0 := by simpa [Value.ownBlock] using e
    subst hg'
    rcases hat with h3 | h3
    · exact h.lo g hg h3
    · have := (h.ls.lt g (by rw [hg]; rfl)).2
      omega
theorem WaySt.cells (h : WaySt w0 W H Z gs M s ga n gc js v out w) {i : Nat} {l : Ln} (hi : js[i]? = some l) : ∃ g, ga = some ⟨g, 0, none⟩ ∧ w.cell? ⟨g, i * 3, none⟩ = some (.int .i64 l.1) ∧ w.cell? ⟨g, i * 3 + 1, none⟩ = some (.int .i64 l.2.1) ∧ w.cell? ⟨g, i * 3 + 2, none⟩ = some (.int .i64 l.2.2) := by
  have hlt := (List.getElem?_eq_some_iff.1 hi).1
  rw [h.len] at hlt
  obtain ⟨g, rfl⟩ : ∃ g, ga = some ⟨g, 0, none⟩ := by
    rcases Go.Joins.ownsRow_forms h.ls with ⟨h, h0⟩ | ⟨g, cap, h⟩
    · omega
    · injection h with h1 h2 h3; exact ⟨g, h1⟩
  exact ⟨g, rfl, line_cells h.ls h.len hi⟩
theorem WaySt.mark (h : WaySt w0 W H Z gs M s ga n gc js v out w) (q : Nat) (hq : q < M) : w.cell? ⟨gs, q, none⟩ = some (.bool (s q)) := own_cell h.marks q hq _ (bv_get _ hq)
end
/-- The first state: nothing to read but the marks, an empty list. -/
theorem way_new {w w1 : World} {W H Z : Int} {gs M : Nat} {s : Nat → Bool} (B : Box w.heap.size W H Z w w1) (hm : w1.ownsRow w.heap.size 4 1 (.slice (some ⟨gs, 0, none⟩) M M) M (bv M s)) {v : Value} (ho : w1.ownsRow (w.heap.size + 1) 39 3 v 0 (lv [])) (hv : v.ownBlock ≠ some gs) : WaySt w W H Z gs M s none 0 0 [] v [] w1 :=
  ⟨B, hm, World.ownsRow_nil _ _ _ _, rfl, ho, hv, fun g0 h => (by cases h), B.2.2.2.1⟩
/-- A list of lines and a bool. -/
def OwnLnB (r : List Ln × Bool) (w : World) (e : Ending) (w' : World) : Prop :=
  ∃ v, e = .returned (.tuple #[v, .bool r.2]) ∧ w'.ownsRow w.heap.size 39 3 v r.1.length (lv r.1) ∧ Below w.heap.size w w'
set_option maxRecDepth 100000 in
theorem specL15Back {W H Z G : Int} {M : Nat} {s : Nat → Bool} (C : ∀ w, Calls Try.prog 43 #[.agg #[.int .i64 W, .int .i64 H, .int .i64 Z], .int .i64 G, .bool true] w (SeenPost M s w)) (w : World) :
    Calls Try.prog 24 #[.agg #[.int .i64 W, .int .i64 H, .int .i64 Z], .int .i64 G] w (SeenPost M s w) := by
  have CS := Lib.hid C
  clear C
  go_enter Try.func24, Try.ntmps24
  go_wp2_with fail
  have B0 := Lib.hid (box_new W H Z w)
  generalize w.alloc (.cells #[.int .i64 W, .int .i64 H, .int .i64 Z] 27) = W1 at *
  obtain ⟨c0, c1, c2, hlt, hb1⟩ := B0.out
  go_wp2_with fail
  refine (CS.out _).mono ?_
  rintro e w1 ⟨g, rfl, hh, hb⟩
  have hwz := B0.out.2.2.2.2.size
  have hp : Hid (SeenPost M s w (.returned (.slice (some ⟨g, 0, none⟩) M M)) w1) := ⟨g, rfl, own_base hh hwz, B0.out.2.2.2.2.trans (hb.mono hwz)⟩
  clear hb hh
  go_wp2_with fail
  go_ret
  exact hp.out
set_option maxHeartbeats 1000000 in
set_option maxRecDepth 100000 in
theorem specL15Ok (W H Z P G : Int) (hP : P ≤ 9223372036854775807) (hG : G ≤ 9223372036854775807) (w : World) : Calls Try.prog 37 #[.agg #[.int .i64 W, .int .i64 H, .int .i64 Z], .int .i64 P, .int .i64 G] w (QB (smallB W H Z && posB W H Z P && posB W H Z G) w) := by
  have C1 := Lib.hid (fun w => specSmall W H Z w)
  have C2 := Lib.hid (fun w => specPos W H Z P hP w)
  have C3 := Lib.hid (fun w => specPos W H Z G hG w)
  clear hP hG
  generalize smallB W H Z = s1 at *
  generalize posB W H Z P = s2 at *
  generalize posB W H Z G = s3 at *
  go_enter Try.func37, Try.ntmps37
  go_wp2_with fail
  have B0 := Lib.hid (box_new W H Z w)
  generalize w.alloc (.cells #[.int .i64 W, .int .i64 H, .int .i64 Z] 27) = W1 at *
  obtain ⟨c0, c1, c2, hlt, hb1⟩ := B0.out
  go_wp2_with fail
  refine (C1.out _).mono ?_
  rintro e w1 ⟨rfl, hb⟩
  have B1 := Lib.hid (B0.out.later hb)
  clear hb c0 c1 c2 hlt hb1
  cases s1
  · go_wp2_with fail
    go_ret
    exact ⟨rfl, B1.out.2.2.2.2⟩
  obtain ⟨c0, c1, c2, hlt, hb1⟩ := B1.out
  go_wp2_with fail
  refine (C2.out _).mono ?_
  rintro e w2 ⟨rfl, hb⟩
  have B2 := Lib.hid (B1.out.later hb)
  clear hb c0 c1 c2 hlt hb1
  cases s2
  · go_wp2_with fail
    go_ret
    exact ⟨rfl, B2.out.2.2.2.2⟩
  obtain ⟨c0, c1, c2, hlt, hb1⟩ := B2.out
  go_wp2_with fail
  refine (C3.out _).mono ?_
  rintro e w3 ⟨rfl, hb⟩
  have B3 := Lib.hid (B2.out.later hb)
  clear hb c0 c1 c2 hlt hb1
  go_wp2_with fail
  go_ret
  exact ⟨by cases s3 <;> rfl, B3.out.2.2.2.2⟩
/-- What the marks of the search backwards say at a jump. -/
theorem mark_is {a b N z p g : Nat} (ho : Ok (a : Int) (b : Int) N z) (h16 : N ≤ 16) (hp : Part p z) (hg : Part g z) {l : Ln} (hl : l ∈ lnsOf (a : Int) b z) : ∃ f o t r : Nat, l = ((f : Int), (o : Int), (t : Int)) ∧ f < 49 ∧ o < 49 ∧ t < 49 ∧ flipN p f o t = r ∧ r < 2 ^ N ∧ flipL (p : Int) l = (r : Int) ∧ Part r z ∧ seenB true (a : Int) b z g r = reachB false (a : Int) b z (r : Int) g := by
  obtain ⟨hN, ha, -, -, -, h49⟩ := ho.nat
  have hl' := hl
  rw [lnsOf_ok ho] at hl'
  obtain ⟨f, o, t, S⟩ := mem_at hN ha hl'
  have hr : Part (flipN p f o t) z := part_flip hp S.bf S.bo S.bt
  exact ⟨f, o, t, _, S.eq, Nat.lt_of_lt_of_le S.fN h49, Nat.lt_of_lt_of_le S.oN h49, Nat.lt_of_lt_of_le S.tN h49, rfl, part_lt hr ho.zlt, (hit_at (back := false) (p := p) S).2, hr, back_reach ho h16 hg hr⟩
theorem jumps_lines {W H Z P : Int} {l : Ln} (h : l ∈ jumpsL W H Z P) : l ∈ lnsOf W H Z := by
  have := (jump_parts (jumpsL_mem.1 h)).2.1
  rwa [List.contains_iff_mem] at this
set_option maxHeartbeats 4000000 in
set_option maxRecDepth 100000 in
theorem specGoodJ (W H Z P G : Int) (hP : P ≤ 9223372036854775807) (hG : G ≤ 9223372036854775807) (w : World) : Calls Try.prog 18 #[.agg #[.int .i64 W, .int .i64 H, .int .i64 Z], .int .i64 P, .int .i64 G] w (OwnLines (goodL W H Z P G) w) := by
  obtain ⟨i0, hi, hz0, hz1, hz2⟩ : ∃ i, Try.prog.info? 39 = some i ∧ i.zero = some (.agg #[.int .i64 0, .int .i64 0, .int .i64 0]) ∧ i.size = 3 ∧ i.bytes = 24 := ⟨_, by rfl, by rfl, by rfl, by rfl⟩
  have CO := Lib.hid (fun w => specL15Ok W H Z P G hP hG w)
  have CJ := Lib.hid (fun w => specJumps W H Z P hP w)
  cases hok : (smallB W H Z && posB W H Z P && posB W H Z G)
  · rw [goodL_no hok]
    rw [hok] at CO
    clear hok hP hG
    go_enter Try.func18, Try.ntmps18
    go_wp2_with fail
    have B00 := Lib.hid (box_new W H Z w)
    have hS : (w.alloc (.cells #[.int .i64 W, .int .i64 H, .int .i64 Z] 27)).heap.size = w.heap.size + 1 := by simp
    generalize w.alloc (.cells #[.int .i64 W, .int .i64 H, .int .i64 Z] 27) = W1 at *
    have HL0 : Hid ((W1.alloc (.cells #[] 39)).ownsRow (w.heap.size + 1) 39 3 (.slice (some ⟨w.heap.size + 1, 0, none⟩) 0 0) 0 (lv [])) := by
      unfold Hid
      rw [← hS]
      exact World.ownsRow_made W1 #[] 0 (Nat.le_refl _) (by unfold maxLen; omega) rfl
    have B0 := Lib.hid (B00.out.later ((Below.refl _ _).alloc (Nat.le_refl _) (.cells #[] 39)))
    generalize W1.alloc (.cells #[] 39) = W2 at *
    clear B00 hS
    obtain ⟨c0, c1, c2, hlt, hb1⟩ := B0.out
    go_wp2_with fail
    refine (CO.out _).mono ?_
    rintro e w3 ⟨rfl, hb3⟩
    have hp : Hid (OwnLines [] w (.returned (.slice (some ⟨w.heap.size + 1, 0, none⟩) 0 0)) w3) := ⟨_, rfl, own_base (own_below HL0.out hb3) (Nat.le_succ _), B0.out.2.2.2.2.trans (hb3.mono B0.out.2.2.2.2.size)⟩
    clear hb3 HL0 B0 c0 c1 c2 hlt hb1
    go_wp2_with fail
    go_ret
    exact hp.out
  · have hok' := hok
    simp only [Bool.and_eq_true] at hok'
    obtain ⟨⟨h1, h2⟩, h3⟩ := hok'
    rw [hok] at CO
    obtain ⟨M, hM, hM2, -, hseen⟩ := specSeenL true h1 h3
    have CB := Lib.hid (fun w => specL15Back hseen w)
    obtain ⟨a, b, N, z, p, S⟩ := small5 h1 h2
    obtain ⟨rfl, rfl, rfl, rfl, ho, h16, hp⟩ := S
    obtain ⟨N', z', g, e1, rfl, -, hgp⟩ := pos_yes h3
    obtain rfl : z = z' := by omega
    have hMN : 2 ^ N = M := by rw [← hM2, ← Int.natCast_mul, ho.nat.1, Int.toNat_natCast]
    have HMk : Hid (∀ l ∈ jumpsL (a : Int) b z p, ∃ f o t r : Nat, l = ((f : Int), (o : Int), (t : Int)) ∧ f < 49 ∧ o < 49 ∧ t < 49 ∧ flipN p f o t = r ∧ r < M ∧ flipL (p : Int) l = (r : Int) ∧ Part r z ∧ seenB true (a : Int) b z g r = reachB false (a : Int) b z (r : Int) g) := fun l hl => by
      rw [← hMN]; exact mark_is ho h16 hp hgp (jumps_lines hl)
    have hpM : p < M := by rw [← hMN]; exact part_lt hp ho.zlt
    have hle : (jumpsL (a : Int) b z p).length ≤ 196 := jumpsL_le _ _ _ _
    have HFn : Hid (∀ (k : Nat) (l : Ln), (jumpsL (a : Int) b z p)[k]? = some l → (reachB false (a : Int) b z (flipL p l) g = true → ((jumpsL (a : Int) b z p).take (k + 1)).filter (fun l => reachB false (a : Int) b z (flipL p l) g) = ((jumpsL (a : Int) b z p).take k).filter (fun l => reachB false (a : Int) b z (flipL p l) g) ++ [l]) ∧ (reachB false (a : Int) b z (flipL p l) g = false → ((jumpsL (a : Int) b z p).take (k + 1)).filter (fun l => reachB false (a : Int) b z (flipL p l) g) = ((jumpsL (a : Int) b z p).take k).filter (fun l => reachB false (a : Int) b z (flipL p l) g))) := fun k l hl => ⟨fun h => filter_yes hl h, fun h => filter_no hl h⟩
    have HG : Hid (goodL (a : Int) b z p g = (jumpsL (a : Int) b z p).filter (fun l => reachB false (a : Int) b z (flipL p l) g)) := rfl
    rw [HG.out]
    generalize seenB true (a : Int) b z g = s at *
    generalize jumpsL (a : Int) b z p = js at *
    obtain ⟨n, hn⟩ : ∃ n, js.length = n := ⟨_, rfl⟩
    rw [hn] at hle
    have HN := Lib.hid hn
    clear hn hok h1 h2 h3 hseen hM2 hMN ho hgp hp e1 hP hG h16
    go_enter Try.func18, Try.ntmps18
    go_wp2_with fail
    have B00 := Lib.hid (box_new a b z w)
    have hS : (w.alloc (.cells #[.int .i64 (a : Int), .int .i64 (b : Int), .int .i64 (z : Int)] 27)).heap.size = w.heap.size + 1 := by simp
    generalize w.alloc (.cells #[.int .i64 (a : Int), .int .i64 (b : Int), .int .i64 (z : Int)] 27) = W1 at *
    have HL0 : Hid ((W1.alloc (.cells #[] 39)).ownsRow (w.heap.size + 1) 39 3 (.slice (some ⟨w.heap.size + 1, 0, none⟩) 0 0) 0 (lv [])) := by
      unfold Hid
      rw [← hS]
      exact World.ownsRow_made W1 #[] 0 (Nat.le_refl _) (by unfold maxLen; omega) rfl
    have B0 := Lib.hid (B00.out.later ((Below.refl _ _).alloc (Nat.le_refl _) (.cells #[] 39)))
    have hS2 : w.heap.size + 1 < (W1.alloc (.cells #[] 39)).heap.size := by simp; omega
    generalize W1.alloc (.cells #[] 39) = W2 at *
    clear B00 hS
    obtain ⟨c0, c1, c2, hlt, hb1⟩ := B0.out
    go_wp2_with fail
    refine (CO.out _).mono ?_
    rintro e w3 ⟨rfl, hb⟩
    have HL3 := Lib.hid (own_below HL0.out hb)
    have B3 := Lib.hid (B0.out.later hb)
    have hS3 : w.heap.size + 1 < w3.heap.size := Nat.lt_of_lt_of_le hS2 hb.size
    clear hb HL0 B0 c0 c1 c2 hlt hb1 hS2
    obtain ⟨c0, c1, c2, hlt, hb1⟩ := B3.out
    go_wp2_with fail
    refine (CB.out _).mono ?_
    rintro e w4 ⟨gs, rfl, hh, hb⟩
    have HS4 : Hid (WaySt w a b z gs M s none 0 0 [] (.slice (some ⟨w.heap.size + 1, 0, none⟩) 0 0) [] w4) := way_new (B3.out.later hb) (own_base hh (by omega)) (own_below HL3.out hb) (fun e => by
      have h1 : w.heap.size + 1 = gs := by simpa [Value.ownBlock] using e
      have h2 := (hh.lt gs rfl).1
      omega)
    clear hb hh HL3 B3 c0 c1 c2 hlt hb1 hS3
    obtain ⟨c0, c1, c2, hlt, hb1⟩ := HS4.out.box
    go_wp2_with fail
    refine (CJ.out _).mono ?_
    rintro e w5 ⟨lv', rfl, hh, hb⟩
    rw [HN.out] at hh
    obtain ⟨ga, gc, rfl⟩ := lines_form hh
    have HS5 := Lib.hid (HS4.out.take hb hh HN.out)
    clear hb hh HS4 c0 c1 c2 hlt hb1
    go_wp2_with fail
    go_loopw [7, 10] (fun u i wr => ∃ (k : Nat) (v : Value), k ≤ n ∧ i = .int .i64 k ∧ v = u ∧ Hid (WaySt w a b z gs M s ga n gc js v ((js.take k).filter (fun l => reachB false (a : Int) b z (flipL p l) g)) wr)) (fun _ i _ => n - (intOf i).toNat)
    case atStart => exact ⟨0, _, Nat.zero_le _, rfl, rfl, HS5⟩
    case round =>
      clear HS5
      obtain ⟨k, v, hk, rfl, rfl, HS⟩ := hrel
      by_cases hkn : k < n
      · have k0 : (0 : Int) ≤ (k : Int) := by omega
        have k1 : (k : Int) < (n : Int) := by omega
        obtain ⟨l, hl⟩ : ∃ l, js[k]? = some l := ⟨_, List.getElem?_eq_getElem (by rw [HN.out]; exact hkn)⟩
        obtain ⟨f, o, t, r, rfl, hf49, ho49, ht49, hfl, hrM, hfL, -, hmk⟩ := HMk.out l (List.mem_of_getElem? hl)
        have HF := Lib.hid (HFn.out k _ hl)
        rw [hfL] at HF
        obtain ⟨gl, hga, e0, e1, e2⟩ := HS.out.cells hl
        subst hga
        simp only at e0 e1 e2
        have CBi := Lib.hid (fun w => specBits f o t hf49 ho49 ht49 w)
        have hmlt := lineM_lt hf49 ho49 ht49
        have hxor := xor63 (a := p) (b := lineM f o t) (by omega) (by omega)
        rw [show p ^^^ lineM f o t = flipN p f o t from rfl, hfl] at hxor
        have r0 : (0 : Int) ≤ (r : Int) := by omega
        have r1 : (r : Int) < (M : Int) := by omega
        obtain ⟨c, hc⟩ : ∃ c, reachB false (a : Int) b z (r : Int) g = c := ⟨_, rfl⟩
        rw [hc] at HF hmk
        have HMark : Hid (∀ w' v' o', WaySt w a b z gs M s (some ⟨gl, 0, none⟩) n gc js v' o' w' → w'.cell? ⟨gs, r, none⟩ = some (.bool c) ∧ w'.cell? ⟨gl, k * 3, none⟩ = some (.int .i64 (f : Int)) ∧ w'.cell? ⟨gl, k * 3 + 1, none⟩ = some (.int .i64 (o : Int)) ∧ w'.cell? ⟨gl, k * 3 + 2, none⟩ = some (.int .i64 (t : Int))) := fun w' v' o' h => by
          obtain ⟨g', hg', x0, x1, x2⟩ := h.cells hl
          cases hg'
          exact ⟨by rw [h.mark r hrM, hmk], x0, x1, x2⟩
        obtain ⟨olen, holen⟩ : ∃ m, ((js.take k).filter (fun l => reachB false (a : Int) b z (flipL p l) g)).length = m := ⟨_, rfl⟩
        have hol : olen ≤ 1000000000 := by
          rw [← holen]
          refine Nat.le_trans (List.length_filter_le ..) (Nat.le_trans (List.length_take_le' ..) (by rw [HN.out]; omega))
        generalize lineM f o t = mm at *
        clear hfl hfL hmk hc hl hf49 ho49 ht49
        go_wp2_with fail
        refine (CBi.out _).mono ?_
        rintro e w6 ⟨rfl, hb⟩
        have HS6 := Lib.hid (HS.out.later hb)
        clear hb HS e0 e1 e2 CBi
        obtain ⟨x3, x0, x1, x2⟩ := HMark.out _ _ _ HS6.out
        cases c
        · have HF2 := Lib.hid (HF.out.2 rfl)
          clear HF
          rw [← HF2.out] at HS6
          go_wp2_with fail
          go_roundw
          case rel => exact ⟨k + 1, v, by omega, by go_num, rfl, HS6⟩
          case measure => simp [intOf]; omega
        · have HF2 := Lib.hid (HF.out.1 rfl)
          have hown0 := HS6.out.out
          rw [holen] at hown0
          have hbz := HS6.out.size
          have HPush := Lib.hid (fun w' g' cap ho hg hb hat => HS6.out.push (w' := w') (g := g') (cap := cap) (f := f) (o := o) (t := t) ho hg hb hat)
          rw [holen, ← HF2.out] at HPush
          clear HF holen HS6
          go_wp2_with (at_builtin; refine wpList_append_line rfl (.tmp 40) (.tmp 45) 24 rfl (w.heap.size + 1) 39 i0 (.agg #[.int .i64 0, .int .i64 0, .int .i64 0]) Try.underlying24 hi hz0 hz1 hz2 rfl _ _ _ rfl hown0 _ rfl rfl hol hbz ?_; intro g' cap' w7 hown' hgrow hb2 hat)
          have HS7 := Lib.hid (HPush.out w7 g' cap' (by rw [HF2.out]; exact hown') hgrow hb2 hat)
          clear hown' hgrow hb2 hat HPush hown0 x0 x1 x2 x3
          go_wp2_with fail
          go_roundw
          case rel => exact ⟨k + 1, _, by omega, by go_num, rfl, HS7⟩
          case measure => simp [intOf]; omega
      · obtain rfl : k = n := by omega
        have hfull : Hid (js.take k = js) := List.take_of_length_le (by rw [HN.out]; exact Nat.le_refl _)
        rw [hfull.out] at HS
        have hp : Hid (OwnLines (js.filter (fun l => reachB false (a : Int) b z (flipL p l) g)) w (.returned v) wr) := ⟨v, rfl, own_base HS.out.out (Nat.le_succ _), HS.out.box.2.2.2.2⟩
        clear HS
        go_wp2_with fail
        go_ret
        exact hp.out
theorem first_hit {α : Type} {q : α → Bool} : ∀ {xs : List α} {k : Nat} {l : α}, (∀ x ∈ xs.take k, q x = false) → xs[k]? = some l → q l = true → xs.find? q = some l
  | [], k, l, _, h, _ => by simp at h
  | x :: xs, 0, l, _, h, hq => by
    simp only [List.getElem?_cons_zero, Option.some.injEq] at h
    subst h
    simp [hq]
  | x :: xs, k + 1, l, hn, h, hq => by
    have hx := hn x (by simp)
    rw [List.find?_cons, hx]
    exact first_hit (k := k) (fun y hy => hn y (by rw [List.take_succ_cons]; exact List.mem_cons_of_mem _ hy)) (by simpa using h) hq
theorem no_hit {α : Type} {q : α → Bool} {xs : List α} {n : Nat} (hn : xs.length ≤ n) (h : ∀ x ∈ xs.take n, q x = false) : xs.find? q = none := by
  rw [List.take_of_length_le hn] at h
  rw [List.find?_eq_none]
  intro x hx e
  rw [h x hx] at e
  cases e
/-- What is still to be walked of a way. -/
structure WayAt (a b z g f : Nat) (T : List Ln) (N p : Nat) (out : List Ln) : Prop where
  small : Small5 (a : Int) b z (p : Int) a b N z p
  reach : reachB false (a : Int) b z (p : Int) (g : Int) = true
  fuel : pc 49 p ≤ pc 49 g + f
  eq : out ++ wayF (a : Int) b z (g : Int) f (p : Int) = T
theorem WayAt.done {a b z g f N p : Nat} {T out : List Ln} (h : WayAt a b z g f T N p out) (e : p = g) : out = T := by
  subst e
  have := h.eq
  rw [wayF_at, List.append_nil] at this
  exact this
theorem WayAt.pos {a b z g f N p : Nat} {T out : List Ln} (h : WayAt a b z g f T N p out) (e : p ≠ g) : 0 < f := by
  obtain ⟨l, r, -, -, -, S', h4, h5⟩ := h.small.next h.reach (by omega)
  have h1 := S'.fuel h4
  have := h.fuel
  omega
theorem WayAt.next {a b z g f N p r : Nat} {T out : List Ln} (h : WayAt a b z g (f + 1) T N p out) (e : p ≠ g) {l : Ln} (hl : nextL (a : Int) b z (g : Int) (p : Int) = some l) (hr : flipL (p : Int) l = (r : Int)) : WayAt a b z g f T N r (out ++ [l]) := by
  obtain ⟨l', r', h1, h2, h3, S', h4, h5⟩ := h.small.next h.reach (by omega)
  rw [hl] at h1
  cases h1
  obtain rfl : r = r' := by omega
  refine ⟨S', h4, by have := h.fuel; omega, ?_⟩
  rw [← h.eq, List.append_assoc]
  congr 1
  have e' : ¬ (p : Int) = (g : Int) := by omega
  simp only [wayF, e', if_false, hl, hr, List.singleton_append]
theorem WayAt.some {a b z g f N p : Nat} {T out : List Ln} (h : WayAt a b z g f T N p out) (e : p ≠ g) : nextL (a : Int) b z (g : Int) (p : Int) ≠ none := by
  obtain ⟨l, r, h1, -⟩ := h.small.next h.reach (by omega)
  rw [h1]
  simp
theorem out_le {a b z g f N p : Nat} {T out : List Ln} (h : WayAt a b z g f T N p out) (hT : T.length ≤ 49) : out.length ≤ 49 := by
  have := h.eq
  rw [← this, List.length_append] at hT
  omega
set_option maxHeartbeats 4000000 in
set_option maxRecDepth 100000 in
theorem specWay (W H Z P G : Int) (hP : P ≤ 9223372036854775807) (hG : G ≤ 9223372036854775807) (w : World) : Calls Try.prog 8 #[.agg #[.int .i64 W, .int .i64 H, .int .i64 Z], .int .i64 P, .int .i64 G] w (OwnLnB (wayB W H Z P G) w) := by
  obtain ⟨i0, hi, hz0, hz1, hz2⟩ : ∃ i, Try.prog.info? 39 = some i ∧ i.zero = some (.agg #[.int .i64 0, .int .i64 0, .int .i64 0]) ∧ i.size = 3 ∧ i.bytes = 24 := ⟨_, by rfl, by rfl, by rfl, by rfl⟩
  have CO := Lib.hid (fun w => specCanRch W H Z P G hP hG w)
  cases hok : reachB false W H Z P G
  · rw [wayB_no hok]
    rw [hok] at CO
    clear hok hP hG
    go_enter Try.func8, Try.ntmps8
    go_wp2_with fail
    have B00 := Lib.hid (box_new W H Z w)
    have hS : (w.alloc (.cells #[.int .i64 W, .int .i64 H, .int .i64 Z] 27)).heap.size = w.heap.size + 1 := by simp
    generalize w.alloc (.cells #[.int .i64 W, .int .i64 H, .int .i64 Z] 27) = W1 at *
    have HL0 : Hid ((W1.alloc (.cells #[] 39)).ownsRow (w.heap.size + 1) 39 3 (.slice (some ⟨w.heap.size + 1, 0, none⟩) 0 0) 0 (lv [])) := by
      unfold Hid
      rw [← hS]
      exact World.ownsRow_made W1 #[] 0 (Nat.le_refl _) (by unfold maxLen; omega) rfl
    have B0 := Lib.hid (B00.out.later ((Below.refl _ _).alloc (Nat.le_refl _) (.cells #[] 39)))
    generalize W1.alloc (.cells #[] 39) = W2 at *
    clear B00 hS
    obtain ⟨c0, c1, c2, hlt, hb1⟩ := B0.out
    go_wp2_with fail
    refine (CO.out _).mono ?_
    rintro e w3 ⟨rfl, hb3⟩
    have hp : Hid (OwnLnB ([], false) w (.returned (.tuple #[.slice (some ⟨w.heap.size + 1, 0, none⟩) 0 0, .bool false])) w3) := ⟨_, rfl, own_base (own_below HL0.out hb3) (Nat.le_succ _), B0.out.2.2.2.2.trans (hb3.mono B0.out.2.2.2.2.size)⟩
    clear hb3 HL0 B0 c0 c1 c2 hlt hb1
    go_wp2_with fail
    go_ret2
    exact hp.out
  · have hok' := hok
    simp only [reachB, Bool.and_eq_true] at hok'
    obtain ⟨⟨⟨h1, h2⟩, h3⟩, -⟩ := hok'
    rw [hok] at CO
    obtain ⟨M, hM, hM2, -, hseen⟩ := specSeenL true h1 h3
    have CB := Lib.hid (fun w => specL15Back hseen w)
    obtain ⟨a, b, N, z, p, S⟩ := small5 h1 h2
    have HSm := Lib.hid S
    obtain ⟨rfl, rfl, rfl, rfl, ho, h16, hp⟩ := S
    obtain ⟨N', z', g, e1, rfl, -, hgp⟩ := pos_yes h3
    obtain rfl : z = z' := by omega
    have hMN : 2 ^ N = M := by rw [← hM2, ← Int.natCast_mul, ho.nat.1, Int.toNat_natCast]
    have HMk : Hid (∀ p' : Nat, Part p' z → ∀ l ∈ jumpsL (a : Int) b z p', ∃ f o t r : Nat, l = ((f : Int), (o : Int), (t : Int)) ∧ f < 49 ∧ o < 49 ∧ t < 49 ∧ flipN p' f o t = r ∧ r < M ∧ flipL (p' : Int) l = (r : Int) ∧ Part r z ∧ seenB true (a : Int) b z g r = reachB false (a : Int) b z (r : Int) g) := fun p' hp' l hl => by
      rw [← hMN]; exact mark_is ho h16 hp' hgp (jumps_lines hl)
    have HPart : Hid (∀ p' : Nat, Part p' z → p' < M) := fun p' hp' => by rw [← hMN]; exact part_lt hp' ho.zlt
    have HJ : Hid (∀ p' : Nat, p' < M → ∀ w, Calls Try.prog 25 #[.agg #[.int .i64 (a : Int), .int .i64 (b : Int), .int .i64 (z : Int)], .int .i64 (p' : Int)] w (OwnLines (jumpsL (a : Int) b z p') w)) := fun p' hp' w => specJumps _ _ _ _ (by omega) w
    rw [wayB_yes hok]
    obtain ⟨T, hT⟩ : ∃ T, wayF (a : Int) b z (g : Int) 49 (p : Int) = T := ⟨_, rfl⟩
    have HTl : Hid (T.length ≤ 49) := by
      have := (way_run 49 _ _ HSm.out hok (by have := pc_le 49 p; omega)).2
      rw [hT] at this
      have := pc_le 49 p
      unfold Hid
      omega
    have HW0 : Hid (WayAt a b z g 49 T N p []) := ⟨HSm.out, hok, by have := pc_le 49 p; omega, by rw [hT]; rfl⟩
    rw [hT]
    generalize seenB true (a : Int) b z g = s at *
    have hgM : g < M := by rw [← hMN]; exact part_lt hgp ho.zlt
    clear hok h1 h2 h3 hseen hM2 hMN ho hgp hp e1 hP hG h16 hT HSm
    go_enter Try.func8, Try.ntmps8
    go_wp2_with fail
    have B00 := Lib.hid (box_new a b z w)
    have hS : (w.alloc (.cells #[.int .i64 (a : Int), .int .i64 (b : Int), .int .i64 (z : Int)] 27)).heap.size = w.heap.size + 1 := by simp
    generalize w.alloc (.cells #[.int .i64 (a : Int), .int .i64 (b : Int), .int .i64 (z : Int)] 27) = W1 at *
    have HL0 : Hid ((W1.alloc (.cells #[] 39)).ownsRow (w.heap.size + 1) 39 3 (.slice (some ⟨w.heap.size + 1, 0, none⟩) 0 0) 0 (lv [])) := by
      unfold Hid
      rw [← hS]
      exact World.ownsRow_made W1 #[] 0 (Nat.le_refl _) (by unfold maxLen; omega) rfl
    have B0 := Lib.hid (B00.out.later ((Below.refl _ _).alloc (Nat.le_refl _) (.cells #[] 39)))
    have hS2 : w.heap.size + 1 < (W1.alloc (.cells #[] 39)).heap.size := by simp; omega
    generalize W1.alloc (.cells #[] 39) = W2 at *
    clear B00 hS
    obtain ⟨c0, c1, c2, hlt, hb1⟩ := B0.out
    go_wp2_with fail
    refine (CO.out _).mono ?_
    rintro e w3 ⟨rfl, hb⟩
    have HL3 := Lib.hid (own_below HL0.out hb)
    have B3 := Lib.hid (B0.out.later hb)
    have hS3 : w.heap.size + 1 < w3.heap.size := Nat.lt_of_lt_of_le hS2 hb.size
    clear hb HL0 B0 c0 c1 c2 hlt hb1 hS2
    obtain ⟨c0, c1, c2, hlt, hb1⟩ := B3.out
    go_wp2_with fail
    refine (CB.out _).mono ?_
    rintro e w4 ⟨gs, rfl, hh, hb⟩
    have HS4 : Hid (WaySt w a b z gs M s none 0 0 [] (.slice (some ⟨w.heap.size + 1, 0, none⟩) 0 0) [] w4) := way_new (B3.out.later hb) (own_base hh (by omega)) (own_below HL3.out hb) (fun e => by
      have h1 : w.heap.size + 1 = gs := by simpa [Value.ownBlock] using e
      have h2 := (hh.lt gs rfl).1
      omega)
    clear hb hh HL3 B3 c0 c1 c2 hlt hb1 hS3 CB CO
    go_wp2_with fail
    go_loopg [1, 8] 49 (fun gk pv u wr => ∃ (p' : Nat) (v : Value) (out : List Ln) (ga : Option Addr) (n gc : Nat) (js : List Ln), p' < M ∧ pv = .int .i64 p' ∧ v = u ∧ Hid (WayAt a b z g gk T N p' out) ∧ Hid (WaySt w a b z gs M s ga n gc js v out wr))
    case atStart => exact ⟨p, _, [], none, 0, 0, [], HPart.out p HW0.out.small.part, rfl, rfl, HW0, HS4⟩
    case round =>
      clear HS4 HW0
      obtain ⟨p', v, out0, ga0, n0, gc0, js0, hpM, rfl, rfl, HA, HS⟩ := hrel
      by_cases hpg : p' = g
      · have hd := HA.out.done hpg
        subst hd
        have hpe : (p' : Int) = (g : Int) := by omega
        have hp : Hid (OwnLnB (out0, true) w (.returned (.tuple #[v, .bool true])) wr) := ⟨v, rfl, own_base HS.out.out (Nat.le_succ _), HS.out.box.2.2.2.2⟩
        subst hpg
        clear HS HA hpe
        go_wp2_with fail
        go_ret2
        exact hp.out
      · have hgk := HA.out.pos hpg
        obtain ⟨f0, rfl⟩ : ∃ f, gk = f + 1 := ⟨gk - 1, by omega⟩
        have hne : ((p' : Int) == (g : Int)) = false := by simp; omega
        have hne2 : ¬ (p' : Int) = (g : Int) := by omega
        have CJ := Lib.hid (HJ.out p' hpM)
        have HMp := Lib.hid (HMk.out p' HA.out.small.part)
        have hol := out_le HA.out HTl.out
        have hle : (jumpsL (a : Int) b z p').length ≤ 196 := jumpsL_le _ _ _ _
        have HNx : Hid (∀ (k : Nat) (l : Ln), (∀ x ∈ (jumpsL (a : Int) b z p').take k, reachB false (a : Int) b z (flipL p' x) g = false) → (jumpsL (a : Int) b z p')[k]? = some l → reachB false (a : Int) b z (flipL p' l) g = true → nextL (a : Int) b z (g : Int) (p' : Int) = some l) := fun k l h1 h2 h3 => first_hit h1 h2 h3
        have HNo : Hid (∀ n, (jumpsL (a : Int) b z p').length ≤ n → (∀ x ∈ (jumpsL (a : Int) b z p').take n, reachB false (a : Int) b z (flipL p' x) g = false) → False) := fun n h1 h2 => HA.out.some hpg (no_hit h1 h2)
        generalize jumpsL (a : Int) b z p' = js at *
        obtain ⟨n, hn⟩ : ∃ n, js.length = n := ⟨_, rfl⟩
        rw [hn] at hle
        have HN := Lib.hid hn
        have HPG := Lib.hid hpg
        obtain ⟨olen, holen⟩ : ∃ m, out0.length = m := ⟨_, rfl⟩
        rw [holen] at hol
        have HOL := Lib.hid holen
        obtain ⟨c0, c1, c2, hlt, hb1⟩ := HS.out.box
        clear hn hpg hgk holen
        go_wp2_with fail
        refine (CJ.out _).mono ?_
        rintro e w5 ⟨lv', rfl, hh, hb⟩
        rw [HN.out] at hh
        obtain ⟨ga, gc, rfl⟩ := lines_form hh
        have HS5 := Lib.hid (HS.out.take hb hh HN.out)
        clear hb hh HS c0 c1 c2 hlt hb1 CJ
        go_wp2_with fail
        go_loopw [1, 8, 11] (fun pv u i wr => ∃ k : Nat, k ≤ n ∧ pv = .int .i64 p' ∧ u = v ∧ i = .int .i64 k ∧ Hid (∀ x ∈ js.take k, reachB false (a : Int) b z (flipL p' x) g = false) ∧ Hid (WaySt w a b z gs M s ga n gc js v out0 wr)) (fun _ _ i _ => n - (intOf i).toNat)
        case atStart => exact ⟨0, Nat.zero_le _, rfl, rfl, rfl, fun x hx => absurd hx (by simp), HS5⟩
        case round =>
          clear HS5
          obtain ⟨k, hk, rfl, rfl, rfl, HNone, HS⟩ := hrel
          by_cases hkn : k < n
          · have k0 : (0 : Int) ≤ (k : Int) := by omega
            have k1 : (k : Int) < (n : Int) := by omega
            obtain ⟨l, hl⟩ : ∃ l, js[k]? = some l := ⟨_, List.getElem?_eq_getElem (by rw [HN.out]; exact hkn)⟩
            obtain ⟨f, o, t, r, rfl, hf49, ho49, ht49, hfl, hrM, hfL, -, hmk⟩ := HMp.out l (List.mem_of_getElem? hl)
            obtain ⟨gl, hga, e0, e1, e2⟩ := HS.out.cells hl
            subst hga
            simp only at e0 e1 e2
            have CBi := Lib.hid (fun w => specBits f o t hf49 ho49 ht49 w)
            have hmlt := lineM_lt hf49 ho49 ht49
            have hxor := xor63 (a := p') (b := lineM f o t) (by omega) (by omega)
            rw [show p' ^^^ lineM f o t = flipN p' f o t from rfl, hfl] at hxor
            have r0 : (0 : Int) ≤ (r : Int) := by omega
            have r1 : (r : Int) < (M : Int) := by omega
            obtain ⟨c, hc⟩ : ∃ c, reachB false (a : Int) b z (r : Int) g = c := ⟨_, rfl⟩
            rw [hc] at hmk
            have HMark : Hid (∀ w' v' o', WaySt w a b z gs M s (some ⟨gl, 0, none⟩) n gc js v' o' w' → w'.cell? ⟨gs, r, none⟩ = some (.bool c) ∧ w'.cell? ⟨gl, k * 3, none⟩ = some (.int .i64 (f : Int)) ∧ w'.cell? ⟨gl, k * 3 + 1, none⟩ = some (.int .i64 (o : Int)) ∧ w'.cell? ⟨gl, k * 3 + 2, none⟩ = some (.int .i64 (t : Int))) := fun w' v' o' h => by
              obtain ⟨g', hg', x0, x1, x2⟩ := h.cells hl
              cases hg'
              exact ⟨by rw [h.mark r hrM, hmk], x0, x1, x2⟩
            have HL := Lib.hid hl
            have HFL := Lib.hid hfL
            have HC := Lib.hid hc
            generalize lineM f o t = mm at *
            clear hfl hfL hmk hc hl hf49 ho49 ht49
            go_wp2_with fail
            refine (CBi.out _).mono ?_
            rintro e w6 ⟨rfl, hb⟩
            have HS6 := Lib.hid (HS.out.later hb)
            clear hb HS e0 e1 e2
            obtain ⟨x3, x0, x1, x2⟩ := HMark.out _ _ _ HS6.out
            cases c
            · have HN2 : Hid (∀ x ∈ js.take (k + 1), reachB false (a : Int) b z (flipL p' x) g = false) := fun x hx => by
                rw [take_one HL.out, List.mem_append, List.mem_singleton] at hx
                rcases hx with hx | rfl
                · exact HNone.out x hx
                · rw [HFL.out]; exact HC.out
              go_wp2_with fail
              go_roundw
              case rel => exact ⟨k + 1, by omega, rfl, rfl, by go_num, HN2, HS6⟩
              case measure => simp [intOf]; omega
            · have HW := Lib.hid (HA.out.next HPG.out (HNx.out k _ HNone.out HL.out (by rw [HFL.out]; exact HC.out)) HFL.out)
              have hown0 := HS6.out.out
              rw [HOL.out] at hown0
              have hbz := HS6.out.size
              have HPush := Lib.hid (fun w' g' cap ho hg hb hat => HS6.out.push (w' := w') (g := g') (cap := cap) (f := f) (o := o) (t := t) ho hg hb hat)
              rw [HOL.out] at HPush
              have hol2 : olen ≤ 1000000000 := by omega
              clear HS6
              go_wp2_with (at_builtin; refine wpList_append_line rfl (.tmp 44) (.tmp 49) 24 rfl (w.heap.size + 1) 39 i0 (.agg #[.int .i64 0, .int .i64 0, .int .i64 0]) Try.underlying24 hi hz0 hz1 hz2 rfl _ _ _ rfl hown0 _ rfl rfl hol2 hbz ?_; intro g' cap' w7 hown' hgrow hb2 hat; have HS7 := Lib.hid (HPush.out w7 g' cap' hown' hgrow hb2 hat); clear hown' hgrow hb2 hat HPush hown0 x0 x1 x2 x3; obtain ⟨x3, x0, x1, x2⟩ := HMark.out _ _ _ HS7.out)
              refine (CBi.out _).mono ?_
              rintro e w8 ⟨rfl, hb⟩
              have HS8 := Lib.hid (HS7.out.later hb)
              clear hb HS7 x0 x1 x2 x3
              go_wp2_with fail
              go_roundg f0
              case measure => omega
              case rel => exact ⟨r, _, _, _, _, _, _, hrM, rfl, rfl, HW, HS8⟩
          · obtain rfl : k = n := by omega
            exact (HNo.out k (by rw [HN.out]; exact Nat.le_refl _) HNone.out).elim
theorem count_in (W H Z P : Int) : -1 ≤ countB W H Z P ∧ countB W H Z P ≤ 49 := by
  unfold countB
  split
  · have := pc_le 49 P.toNat; omega
  · omega
set_option maxRecDepth 100000 in
theorem specJBetween (W H Z P G : Int) (hP : P ≤ 9223372036854775807) (hG : G ≤ 9223372036854775807) (w : World) : Calls Try.prog 16 #[.agg #[.int .i64 W, .int .i64 H, .int .i64 Z], .int .i64 P, .int .i64 G] w (QI (betwB W H Z P G) w) := by
  have CO := Lib.hid (fun w => specCanRch W H Z P G hP hG w)
  have CP := Lib.hid (fun w => specPegs W H Z P hP w)
  have CG := Lib.hid (fun w => specPegs W H Z G hG w)
  have hx := count_in W H Z P
  have hy := count_in W H Z G
  obtain ⟨res, hres⟩ : ∃ r, betwB W H Z P G = r := ⟨_, rfl⟩
  rw [hres]
  unfold betwB at hres
  generalize reachB false W H Z P G = can at *
  generalize countB W H Z P = x at *
  generalize countB W H Z G = y at *
  have hw : IntKind.i64.wrap (x - y) = x - y := IntWalk.i64_in _ (by omega)
  have HRes := Lib.hid hres
  clear hP hG hx hy hres
  go_enter Try.func16, Try.ntmps16
  go_wp2_with fail
  have B0 := Lib.hid (box_new W H Z w)
  generalize w.alloc (.cells #[.int .i64 W, .int .i64 H, .int .i64 Z] 27) = W1 at *
  obtain ⟨c0, c1, c2, hlt, hb1⟩ := B0.out
  go_wp2_with fail
  refine (CO.out _).mono ?_
  rintro e w1 ⟨rfl, hb⟩
  have B1 := Lib.hid (B0.out.later hb)
  clear hb c0 c1 c2 hlt hb1 B0
  cases can
  · have hr : Hid (res = -1) := by have := HRes.out; simpa [Hid] using this.symm
    go_wp2_with fail
    go_ret
    exact ⟨ret_int hr.out.symm, B1.out.2.2.2.2⟩
  · have hr : Hid (res = x - y) := by have := HRes.out; simpa [Hid] using this.symm
    go_wp2_with fail
    refine wp_region_script (by kernel_rfl) (by kernel_rfl) ?_
    refine Script.load (i := 0) (v := ?_) rfl (by kernel_rfl) (by kernel_rfl) (fun _ _ _ h => h) (by kernel_rfl) ?_ ?_
    rotate_left
    · (intro wS hSw; obtain ⟨c0, c1, c2, -, -⟩ := B1.out.later (After.trans (After.drew (After.refl _)) hSw); go_simp; try with_reducible rfl)
    try simp only [Act.put, List.getElem_toArray, List.getElem_cons_succ, List.getElem_cons_zero, List.setIfInBounds_toArray, List.set_cons_zero, List.set_cons_succ]
    refine Script.load (i := 1) (v := ?_) rfl (by kernel_rfl) (by kernel_rfl) (fun _ _ _ h => h) (by kernel_rfl) ?_ ?_
    rotate_left
    · (intro wS hSw; obtain ⟨c0, c1, c2, -, -⟩ := B1.out.later (After.trans (After.drew (After.refl _)) hSw); go_simp; try with_reducible rfl)
    try simp only [Act.put, List.getElem_toArray, List.getElem_cons_succ, List.getElem_cons_zero, List.setIfInBounds_toArray, List.set_cons_zero, List.set_cons_succ]
    refine Script.call (i := 2) (v := ?_) rfl (by kernel_rfl) (by kernel_rfl) (fun _ _ _ h => h) (by kernel_rfl) ?_ ?_
    rotate_left
    · (intro wS hSw K hK; obtain ⟨c0, c1, c2, -, -⟩ := B1.out.later (After.trans (After.drew (After.refl _)) hSw); go_simp; go_at_call 35; refine (CP.out _).mono ?_; rintro e wc ⟨rfl, hbc⟩; exact hK.out _ hbc)
    try simp only [Act.put, List.getElem_toArray, List.getElem_cons_succ, List.getElem_cons_zero, List.setIfInBounds_toArray, List.set_cons_zero, List.set_cons_succ]
    refine Script.load (i := 3) (v := ?_) rfl (by kernel_rfl) (by kernel_rfl) (fun _ _ _ h => h) (by kernel_rfl) ?_ ?_
    rotate_left
    · (intro wS hSw; obtain ⟨c0, c1, c2, -, -⟩ := B1.out.later (After.trans (After.drew (After.refl _)) hSw); go_simp; try with_reducible rfl)
    try simp only [Act.put, List.getElem_toArray, List.getElem_cons_succ, List.getElem_cons_zero, List.setIfInBounds_toArray, List.set_cons_zero, List.set_cons_succ]
    refine Script.load (i := 4) (v := ?_) rfl (by kernel_rfl) (by kernel_rfl) (fun _ _ _ h => h) (by kernel_rfl) ?_ ?_
    rotate_left
    · (intro wS hSw; obtain ⟨c0, c1, c2, -, -⟩ := B1.out.later (After.trans (After.drew (After.refl _)) hSw); go_simp; try with_reducible rfl)
    try simp only [Act.put, List.getElem_toArray, List.getElem_cons_succ, List.getElem_cons_zero, List.setIfInBounds_toArray, List.set_cons_zero, List.set_cons_succ]
    refine Script.call (i := 5) (v := ?_) rfl (by kernel_rfl) (by kernel_rfl) (fun _ _ _ h => h) (by kernel_rfl) ?_ ?_
    rotate_left
    · (intro wS hSw K hK; obtain ⟨c0, c1, c2, -, -⟩ := B1.out.later (After.trans (After.drew (After.refl _)) hSw); go_simp; go_at_call 35; refine (CG.out _).mono ?_; rintro e wc ⟨rfl, hbc⟩; exact hK.out _ hbc)
    try simp only [Act.put, List.getElem_toArray, List.getElem_cons_succ, List.getElem_cons_zero, List.setIfInBounds_toArray, List.set_cons_zero, List.set_cons_succ]
    refine Script.load (i := 6) (v := ?_) rfl (by kernel_rfl) (by kernel_rfl) (fun _ _ _ h => h) (by kernel_rfl) ?_ ?_
    rotate_left
    · (intro wS hSw; obtain ⟨c0, c1, c2, -, -⟩ := B1.out.later (After.trans (After.drew (After.refl _)) hSw); go_simp; try with_reducible rfl)
    try simp only [Act.put, List.getElem_toArray, List.getElem_cons_succ, List.getElem_cons_zero, List.setIfInBounds_toArray, List.set_cons_zero, List.set_cons_succ]
    refine Script.load (i := 7) (v := ?_) rfl (by kernel_rfl) (by kernel_rfl) (fun _ _ _ h => h) (by kernel_rfl) ?_ ?_
    rotate_left
    · (intro wS hSw; obtain ⟨c0, c1, c2, -, -⟩ := B1.out.later (After.trans (After.drew (After.refl _)) hSw); go_simp; try with_reducible rfl)
    try simp only [Act.put, List.getElem_toArray, List.getElem_cons_succ, List.getElem_cons_zero, List.setIfInBounds_toArray, List.set_cons_zero, List.set_cons_succ]
    refine Script.done (by kernel_rfl) ?_
    intro wD hD hG
    have B2 := Lib.hid (B1.out.later (After.trans (After.drew (After.refl _)) hD))
    clear hD hG
    go_wp2_with fail
    go_ret
    exact ⟨ret_int hr.out.symm, B2.out.2.2.2.2⟩
theorem spoilB_no {W H Z P G : Int} {l : Ln} (h : reachB false W H Z P G = false) : spoilB W H Z P G l = false := by unfold spoilB; rw [h]; rfl
theorem spoilB_not {W H Z P G : Int} {l : Ln} (h : jumpB W H Z P l = false) : spoilB W H Z P G l = false := by unfold spoilB; rw [h, Bool.and_false]; rfl
theorem spoilB_yes {W H Z P G : Int} {l : Ln} (h1 : reachB false W H Z P G = true) (h2 : jumpB W H Z P l = true) : spoilB W H Z P G l = !reachB false W H Z (flipL P l) G := by unfold spoilB; rw [h1, h2]; rfl
set_option maxHeartbeats 1000000 in
set_option maxRecDepth 100000 in
theorem specSpoil (W H Z P G f o t : Int) (hP : P ≤ 9223372036854775807) (hG : G ≤ 9223372036854775807) (w : World) : Calls Try.prog 20 #[.agg #[.int .i64 W, .int .i64 H, .int .i64 Z], .int .i64 P, .int .i64 G, .agg #[.int .i64 f, .int .i64 o, .int .i64 t]] w (QB (spoilB W H Z P G (f, o, t)) w) := by
  have CO := Lib.hid (fun w => specCanRch W H Z P G hP hG w)
  have CD := Lib.hid (fun w => specDo W H Z P f o t hP w)
  cases hr : reachB false W H Z P G
  · rw [spoilB_no hr]
    rw [hr] at CO
    clear hr hP hG CD
    go_enter Try.func20, Try.ntmps20
    go_wp2_with fail
    have B0 := Lib.hid (bx2_new W H Z f o t 27 39 w)
    generalize (w.alloc (.cells #[.int .i64 W, .int .i64 H, .int .i64 Z] 27)).alloc (.cells #[.int .i64 f, .int .i64 o, .int .i64 t] 39) = W1 at *
    obtain ⟨⟨c0, c1, c2, hlt, hb1⟩, ⟨d0, d1, d2, hlt2, -⟩⟩ := B0.out
    go_wp2_with fail
    refine (CO.out _).mono ?_
    rintro e w1 ⟨rfl, hb⟩
    have B1 := Lib.hid (B0.out.later hb)
    clear c0 c1 c2 hlt hb1 d0 d1 d2 hlt2 hb B0
    go_wp2_with fail
    go_ret
    exact ⟨rfl, B1.out.1.2.2.2.2⟩
  rw [hr] at CO
  cases hj : jumpB W H Z P (f, o, t)
  · rw [spoilB_not hj]
    rw [do_no hj] at CD
    clear hr hj hP hG
    go_enter Try.func20, Try.ntmps20
    go_wp2_with fail
    have B0 := Lib.hid (bx2_new W H Z f o t 27 39 w)
    generalize (w.alloc (.cells #[.int .i64 W, .int .i64 H, .int .i64 Z] 27)).alloc (.cells #[.int .i64 f, .int .i64 o, .int .i64 t] 39) = W1 at *
    obtain ⟨⟨c0, c1, c2, hlt, hb1⟩, ⟨d0, d1, d2, hlt2, -⟩⟩ := B0.out
    go_wp2_with fail
    refine (CO.out _).mono ?_
    rintro e w1 ⟨rfl, hb⟩
    have B1 := Lib.hid (B0.out.later hb)
    clear c0 c1 c2 hlt hb1 d0 d1 d2 hlt2 hb B0
    obtain ⟨⟨c0, c1, c2, hlt, hb1⟩, ⟨d0, d1, d2, hlt2, -⟩⟩ := B1.out
    go_wp2_with fail
    refine (CD.out _).mono ?_
    rintro e w2 ⟨rfl, hb⟩
    have B2 := Lib.hid (B1.out.later hb)
    clear c0 c1 c2 hlt hb1 d0 d1 d2 hlt2 hb B1
    go_wp2_with fail
    go_ret
    exact ⟨rfl, B2.out.1.2.2.2.2⟩
  · rw [spoilB_yes hr hj]
    rw [do_yes hj] at CD
    obtain ⟨r, -, hf, hrp, -⟩ := jump_facts hj
    rw [hf] at CD ⊢
    have hr63 : (r : Int) ≤ 9223372036854775807 := by
      obtain ⟨x, hx, hx2⟩ := do_big (W := W) (H := H) (Z := Z) (P := P) (l := (f, o, t)) (by rw [do_yes hj])
      rw [do_yes hj, hf] at hx
      simp only at hx
      omega
    have CR := Lib.hid (fun w => specCanRch W H Z (r : Int) G hr63 hG w)
    generalize reachB false W H Z (r : Int) G = can at *
    clear hr hj hP hG hf hrp hr63
    go_enter Try.func20, Try.ntmps20
    go_wp2_with fail
    have B0 := Lib.hid (bx2_new W H Z f o t 27 39 w)
    generalize (w.alloc (.cells #[.int .i64 W, .int .i64 H, .int .i64 Z] 27)).alloc (.cells #[.int .i64 f, .int .i64 o, .int .i64 t] 39) = W1 at *
    obtain ⟨⟨c0, c1, c2, hlt, hb1⟩, ⟨d0, d1, d2, hlt2, -⟩⟩ := B0.out
    go_wp2_with fail
    refine (CO.out _).mono ?_
    rintro e w1 ⟨rfl, hb⟩
    have B1 := Lib.hid (B0.out.later hb)
    clear c0 c1 c2 hlt hb1 d0 d1 d2 hlt2 hb B0
    obtain ⟨⟨c0, c1, c2, hlt, hb1⟩, ⟨d0, d1, d2, hlt2, -⟩⟩ := B1.out
    go_wp2_with fail
    refine (CD.out _).mono ?_
    rintro e w2 ⟨rfl, hb⟩
    have B2 := Lib.hid (B1.out.later hb)
    clear c0 c1 c2 hlt hb1 d0 d1 d2 hlt2 hb B1
    obtain ⟨⟨c0, c1, c2, hlt, hb1⟩, -⟩ := B2.out
    go_wp2_with fail
    refine (CR.out _).mono ?_
    rintro e w3 ⟨rfl, hb⟩
    have B3 := Lib.hid (B2.out.later hb)
    clear c0 c1 c2 hlt hb1 hb B2
    go_wp2_with fail
    go_ret
    exact ⟨rfl, B3.out.1.2.2.2.2⟩
theorem oneWay_nil {W H Z P : Int} (h : finL W H Z P = []) : oneWayB W H Z P = ([], false) := by unfold oneWayB; rw [h]
theorem oneWay_cons {W H Z P : Int} {k : Nat} {l : List Nat} (h : finL W H Z P = k :: l) : oneWayB W H Z P = wayB W H Z P (2 ^ k) := by unfold oneWayB; rw [h]
theorem fin_le (W H Z P : Int) : (finL W H Z P).length ≤ 49 := Nat.le_trans (List.length_filter_le ..) (holesR_len W H Z)
theorem fin_mem {W H Z P : Int} {k : Nat} (h : k ∈ finL W H Z P) : k < 49 ∧ 2 ^ k ∈ reachL false W H Z P := by
  unfold finL at h
  obtain ⟨h1, h2⟩ := List.mem_filter.1 h
  exact ⟨holesR_lt h1, of_decide_eq_true h2⟩
set_option maxHeartbeats 1000000 in
set_option maxRecDepth 100000 in
theorem specOneWay (W H Z P : Int) (hP : P ≤ 9223372036854775807) (w : World) : Calls Try.prog 14 #[.agg #[.int .i64 W, .int .i64 H, .int .i64 Z], .int .i64 P] w (OwnLnB (oneWayB W H Z P) w) := by
  have CF := Lib.hid (fun w => specFinals W H Z P hP w)
  have hle := fin_le W H Z P
  cases hfl : finL W H Z P with
  | nil =>
    rw [oneWay_nil hfl]
    rw [hfl] at CF
    clear hfl hP hle
    go_enter Try.func14, Try.ntmps14
    go_wp2_with fail
    have B0 := Lib.hid (box_new W H Z w)
    generalize w.alloc (.cells #[.int .i64 W, .int .i64 H, .int .i64 Z] 27) = W1 at *
    obtain ⟨c0, c1, c2, hlt, hb1⟩ := B0.out
    go_wp2_with fail
    refine (CF.out _).mono ?_
    rintro e w1 ⟨v, rfl, hh, hb⟩
    obtain ⟨va, vc, rfl⟩ := one_form hh
    have B1 := Lib.hid (B0.out.later hb)
    have hwz := B1.out.2.2.2.2.size
    have hp : Hid (OwnLnB ([], false) w (.returned (.tuple #[.slice (some ⟨w1.heap.size, 0, none⟩) 0 0, .bool false])) (w1.alloc (.cells #[] 39))) := ⟨_, rfl, World.ownsRow_made w1 #[] 0 hwz (by unfold maxLen; omega) rfl, B1.out.2.2.2.2.alloc hwz _⟩
    clear hb hh c0 c1 c2 hlt hb1
    go_wp2_with fail
    go_ret2
    exact hp.out
  | cons k l =>
    rw [oneWay_cons hfl]
    have hk := (fin_mem (W := W) (H := H) (Z := Z) (P := P) (k := k) (by rw [hfl]; exact List.mem_cons_self ..)).1
    obtain ⟨q1, e1, n1, l1, u1⟩ := pow_nat k hk
    have hqw : IntKind.i64.wrap (q1 : Int) = (q1 : Int) := IntWalk.i64_in _ (by omega)
    have CW := Lib.hid (fun w => specWay W H Z P (q1 : Int) hP (by omega) w)
    rw [show ((2 : Int) ^ k) = (q1 : Int) from e1]
    generalize wayB W H Z P (q1 : Int) = res at *
    rw [hfl] at CF hle
    obtain ⟨n, hn⟩ : ∃ n, (k :: l).length = n := ⟨_, rfl⟩
    have HC0 : (Ints (k :: l))[0]? = some (Value.int .i64 (k : Int)) := by simp [Ints]
    have hn0 : 0 < n := by rw [← hn]; simp
    rw [hn] at hle
    have HN := Lib.hid hn
    have n0 : (0 : Int) < (n : Int) := by omega
    have hnb : ((n : Int) == 0) = false := by simp; omega
    have HC0 := Lib.hid HC0
    generalize k :: l = ks at *
    clear hfl hP hn n1
    go_enter Try.func14, Try.ntmps14
    go_wp2_with fail
    have B0 := Lib.hid (box_new W H Z w)
    generalize w.alloc (.cells #[.int .i64 W, .int .i64 H, .int .i64 Z] 27) = W1 at *
    obtain ⟨c0, c1, c2, hlt, hb1⟩ := B0.out
    go_wp2_with fail
    refine (CF.out _).mono ?_
    rintro e w1 ⟨v, rfl, hh, hb⟩
    rw [HN.out] at hh
    obtain ⟨va, vc, rfl⟩ := one_form hh
    obtain ⟨g, rfl⟩ := one_block hh hn0
    have B1 := Lib.hid (B0.out.later hb)
    have HR := Lib.hid hh
    have HCl : Hid (∀ w' : World, Below w1.heap.size w1 w' → w'.cell? ⟨g, 0, none⟩ = some (.int .i64 (k : Int))) := fun w' hb => own_cell (own_below HR.out hb) 0 hn0 _ HC0.out
    clear hb hh c0 c1 c2 hlt hb1
    go_wp2_with fail
    refine wp_region_script (by kernel_rfl) (by kernel_rfl) ?_
    refine Script.load (i := 0) (v := ?_) rfl (by kernel_rfl) (by kernel_rfl) (fun _ _ _ h => h) (by kernel_rfl) ?_ ?_
    rotate_left
    · (intro wS hSw; obtain ⟨c0, c1, c2, -, -⟩ := B1.out.later (After.trans (After.drew (After.refl _)) hSw); have hcl := HCl.out _ (After.trans (After.drew (After.refl _)) hSw); go_simp; try with_reducible rfl)
    try simp only [Act.put, List.getElem_toArray, List.getElem_cons_succ, List.getElem_cons_zero, List.setIfInBounds_toArray, List.set_cons_zero, List.set_cons_succ]
    refine Script.load (i := 1) (v := ?_) rfl (by kernel_rfl) (by kernel_rfl) (fun _ _ _ h => h) (by kernel_rfl) ?_ ?_
    rotate_left
    · (intro wS hSw; obtain ⟨c0, c1, c2, -, -⟩ := B1.out.later (After.trans (After.drew (After.refl _)) hSw); have hcl := HCl.out _ (After.trans (After.drew (After.refl _)) hSw); go_simp; try with_reducible rfl)
    try simp only [Act.put, List.getElem_toArray, List.getElem_cons_succ, List.getElem_cons_zero, List.setIfInBounds_toArray, List.set_cons_zero, List.set_cons_succ]
    refine Script.load (i := 2) (v := ?_) rfl (by kernel_rfl) (by kernel_rfl) (fun _ _ _ h => h) (by kernel_rfl) ?_ ?_
    rotate_left
    · (intro wS hSw; obtain ⟨c0, c1, c2, -, -⟩ := B1.out.later (After.trans (After.drew (After.refl _)) hSw); have hcl := HCl.out _ (After.trans (After.drew (After.refl _)) hSw); go_simp; try with_reducible rfl)
    try simp only [Act.put, List.getElem_toArray, List.getElem_cons_succ, List.getElem_cons_zero, List.setIfInBounds_toArray, List.set_cons_zero, List.set_cons_succ]
    refine Script.load (i := 3) (v := ?_) rfl (by kernel_rfl) (by kernel_rfl) (fun _ _ _ h => h) (by kernel_rfl) ?_ ?_
    rotate_left
    · (intro wS hSw; obtain ⟨c0, c1, c2, -, -⟩ := B1.out.later (After.trans (After.drew (After.refl _)) hSw); have hcl := HCl.out _ (After.trans (After.drew (After.refl _)) hSw); go_simp; try with_reducible rfl)
    try simp only [Act.put, List.getElem_toArray, List.getElem_cons_succ, List.getElem_cons_zero, List.setIfInBounds_toArray, List.set_cons_zero, List.set_cons_succ]
    refine Script.load (i := 4) (v := ?_) rfl (by kernel_rfl) (by kernel_rfl) (fun _ _ _ h => h) (by kernel_rfl) ?_ ?_
    rotate_left
    · (intro wS hSw; obtain ⟨c0, c1, c2, -, -⟩ := B1.out.later (After.trans (After.drew (After.refl _)) hSw); have hcl := HCl.out _ (After.trans (After.drew (After.refl _)) hSw); go_simp; try with_reducible rfl)
    try simp only [Act.put, List.getElem_toArray, List.getElem_cons_succ, List.getElem_cons_zero, List.setIfInBounds_toArray, List.set_cons_zero, List.set_cons_succ]
    refine Script.load (i := 5) (v := ?_) rfl (by kernel_rfl) (by kernel_rfl) (fun _ _ _ h => h) (by kernel_rfl) ?_ ?_
    rotate_left
    · (intro wS hSw; obtain ⟨c0, c1, c2, -, -⟩ := B1.out.later (After.trans (After.drew (After.refl _)) hSw); have hcl := HCl.out _ (After.trans (After.drew (After.refl _)) hSw); go_simp; try with_reducible rfl)
    try simp only [Act.put, List.getElem_toArray, List.getElem_cons_succ, List.getElem_cons_zero, List.setIfInBounds_toArray, List.set_cons_zero, List.set_cons_succ]
    refine Script.one (i := 6) rfl (by kernel_rfl) (by kernel_rfl) ?_
    intro wO hO K hK; have hSw := hO; obtain ⟨c0, c1, c2, -, -⟩ := B1.out.later (After.trans (After.drew (After.refl _)) hSw); have hcl := HCl.out _ (After.trans (After.drew (After.refl _)) hSw); go_simp
    clear hSw
    go_at_call 8; refine (CW.out _).mono ?_; rintro e wc ⟨v, rfl, hh, hbc⟩
    refine hK.out _ _ hbc ?_
    clear hK K
    try simp only [Act.put, List.getElem_toArray, List.getElem_cons_succ, List.getElem_cons_zero, List.setIfInBounds_toArray, List.set_cons_zero, List.set_cons_succ]
    have HO := Lib.hid (After.trans (After.drew (After.refl _)) (After.trans hO hbc))
    have hOw := hO.size
    clear c0 c1 c2 hcl
    refine Script.load (i := 7) (v := ?_) rfl (by kernel_rfl) (by kernel_rfl) (fun _ _ _ h => h) (by kernel_rfl) ?_ ?_
    rotate_left
    · (intro wS hSw; skip; go_simp; try with_reducible rfl)
    try simp only [Act.put, List.getElem_toArray, List.getElem_cons_succ, List.getElem_cons_zero, List.setIfInBounds_toArray, List.set_cons_zero, List.set_cons_succ]
    refine Script.load (i := 8) (v := ?_) rfl (by kernel_rfl) (by kernel_rfl) (fun _ _ _ h => h) (by kernel_rfl) ?_ ?_
    rotate_left
    · (intro wS hSw; skip; go_simp; try with_reducible rfl)
    try simp only [Act.put, List.getElem_toArray, List.getElem_cons_succ, List.getElem_cons_zero, List.setIfInBounds_toArray, List.set_cons_zero, List.set_cons_succ]
    refine Script.load (i := 9) (v := ?_) rfl (by kernel_rfl) (by kernel_rfl) (fun _ _ _ h => h) (by kernel_rfl) ?_ ?_
    rotate_left
    · (intro wS hSw; skip; go_simp; try with_reducible rfl)
    try simp only [Act.put, List.getElem_toArray, List.getElem_cons_succ, List.getElem_cons_zero, List.setIfInBounds_toArray, List.set_cons_zero, List.set_cons_succ]
    refine Script.load (i := 10) (v := ?_) rfl (by kernel_rfl) (by kernel_rfl) (fun _ _ _ h => h) (by kernel_rfl) ?_ ?_
    rotate_left
    · (intro wS hSw; skip; go_simp; try with_reducible rfl)
    try simp only [Act.put, List.getElem_toArray, List.getElem_cons_succ, List.getElem_cons_zero, List.setIfInBounds_toArray, List.set_cons_zero, List.set_cons_succ]
    refine Script.done (by kernel_rfl) ?_
    intro wD hD hG
    have hwz := B1.out.2.2.2.2.size
    have hww := HO.out
    have hp : Hid (OwnLnB res w (.returned (.tuple #[v, .bool res.2])) wD) := ⟨v, rfl, own_base (own_below hh hD) (Nat.le_trans hwz hOw), B1.out.2.2.2.2.trans (Below.mono (After.trans hww hD) hwz)⟩
    clear hD hG hh hww
    go_wp2_with fail
    go_ret2
    exact hp.out
end Go.Proofs.Ytlklnabnomfhbaa
