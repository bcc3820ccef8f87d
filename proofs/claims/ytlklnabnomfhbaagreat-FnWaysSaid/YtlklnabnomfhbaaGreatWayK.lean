/- Ways, of the program: WayTo, WayToSingle, for every three ints and ints up to 2^63 - 1. -/
import Derived.Test.YtlklnabnomfhbaaGreatWayJ
namespace Go.Proofs.YtlklnabnomfhbaaGreat
open Go.RowKit
set_option linter.unusedVariables false
set_option linter.unusedSimpArgs false
/-- A list of lines that grows behind a world 'wJ' whose memory may be turned. -/
structure WayG (wJ : World) (a b z : Nat) (G : Int) (bm : Nat) (v : Value) (out : List Ln) (w : World) : Prop where
  gb : wJ.grownBy w (some bm)
  kn : Knows a b z G bm w
  out : w.ownsRow wJ.heap.size 39 3 v out.length (lv out)
  lt : bm < wJ.heap.size
section
variable {wJ w w' : World} {a b z bm : Nat} {G : Int} {out : List Ln} {v : Value}
theorem WayG.turn (h : WayG wJ a b z G bm v out w) (hg : w.grownBy w' (some bm)) (hk : Knows a b z G bm w') : WayG wJ a b z G bm v out w' := by
  have hlt := h.lt
  refine ⟨gb_trans h.gb hg, hk, h.out.kept hg (.inr fun e => ?_), h.lt⟩
  have := (h.out.lt _ e).1; omega
theorem WayG.later (h : WayG wJ a b z G bm v out w) (hb : Below w.heap.size w w') : WayG wJ a b z G bm v out w' := h.turn (grown_below hb _) (h.kn.later hb)
theorem WayG.push (h : WayG wJ a b z G bm v out w) {g cap : Nat} {l : Ln}
    (hown : w'.ownsRow wJ.heap.size 39 3 (.slice (some ⟨g, 0, none⟩) (out.length + 1) cap) (out.length + 1) (lv (out ++ [l]))) (hb : Below wJ.heap.size w w') :
    WayG wJ a b z G bm (.slice (some ⟨g, 0, none⟩) (out.length + 1) cap) (out ++ [l]) w' :=
  ⟨⟨hb.os.trans h.gb.os, hb.tape.trans h.gb.tape, hb.output.trans h.gb.output, Nat.le_trans h.gb.size hb.size, fun j hj hn => (hb.block j hj).trans (h.gb.block j hj hn)⟩, h.kn.kept hb h.lt, by rw [List.length_append]; exact hown, h.lt⟩
end
theorem goodL_head {W H Z P G : Int} {l : Ln} (h : nextL W H Z G P = some l) : (goodL W H Z P G)[0]? = some l := by
  rw [← List.head?_eq_getElem?]
  unfold goodL
  rw [List.head?_filter]
  exact h
set_option maxHeartbeats 4000000 in
set_option maxRecDepth 100000 in
theorem implWay (W H Z P G : Int) (hP : P ≤ 9223372036854775807) (hG : G ≤ 9223372036854775807) (w : World) : Calls Tryz.prog 6 #[.agg #[.int .i64 W, .int .i64 H, .int .i64 Z], .int .i64 P, .int .i64 G] w (OwnLnB (wayB W H Z P G) w) := by
  obtain ⟨i0, hi, hz0, hz1, hz2⟩ : ∃ i, Tryz.prog.info? 39 = some i ∧ i.zero = some (.agg #[.int .i64 0, .int .i64 0, .int .i64 0]) ∧ i.size = 3 ∧ i.bytes = 24 := ⟨_, by rfl, by rfl, by rfl, by rfl⟩
  have CO := Lib.hid (fun w => implCanRch W H Z P G hP hG w)
  cases hok : reachB false W H Z P G
  · rw [wayB_no hok]
    rw [hok] at CO
    clear hok hP hG
    go_enter Tryz.func6, Tryz.ntmps6
    go_wp2_with fail
    have B0 := Lib.hid (box_new W H Z w)
    generalize w.alloc (.cells #[.int .i64 W, .int .i64 H, .int .i64 Z] 25) = W1 at *
    obtain ⟨c0, c1, c2, hlt, hb1⟩ := B0.out
    go_wp2_with fail
    refine (CO.out _).mono ?_
    rintro e w3 ⟨rfl, hb3⟩
    have B1 := Lib.hid (B0.out.later hb3)
    have hp : Hid (OwnLnB ([], false) w (.returned (.tuple #[.slice none 0 0, .bool false])) w3) := ⟨_, rfl, World.ownsRow_nil _ _ _ _, B1.out.2.2.2.2⟩
    clear hb3 B0 c0 c1 c2 hlt hb1
    go_wp2_with fail
    go_ret2
    exact hp.out
  · have hok' := hok
    simp only [reachB, Bool.and_eq_true] at hok'
    obtain ⟨⟨⟨h1, h2⟩, h3⟩, -⟩ := hok'
    rw [hok] at CO
    obtain ⟨a, b, N, z, p, S⟩ := small5 h1 h2
    have HSm := Lib.hid S
    obtain ⟨rfl, rfl, rfl, rfl, ho, h16, hp⟩ := S
    obtain ⟨N', z', g, e1, rfl, -, hgp⟩ := pos_yes h3
    obtain rfl : z = z' := by omega
    have CJ := Lib.hid (fun w => implJumpTo a b z (g : Int) w)
    have CF := Lib.hid (fun (p' : Nat) (hp : p' < 562949953421312) (B bk bg bl bi bm n0 vc bj : Nat) (va : Option Addr) (w : World) (hJ : JSt (lnsOf (a : Int) b z) (g : Int) B bk bg bl bi bm va n0 vc bj w) (hK : Knows a b z (g : Int) bm w) => implFitG ho h16 (p' : Int) (by omega) w hJ hK)
    have HFl := Lib.hid (fun (p' f o t r : Nat) (hp' : p' < 562949953421312) (hf : f < 49) (ho : o < 49) (ht : t < 49) (hfl : flipN p' f o t = r) (w : World) => (by rw [← hfl]; exact implFlip p' f o t hp' hf ho ht w : Calls Tryz.prog 22 #[.int .i64 (p' : Int), .agg #[.int .i64 (f : Int), .int .i64 (o : Int), .int .i64 (t : Int)]] w (QI (r : Int) w)))
    have HBig : Hid (∀ p' : Nat, Part p' z → p' < 562949953421312) := fun p' hp' => hp'.big ho
    have HLine : Hid (∀ (p' : Nat) (l : Ln), nextL (a : Int) b z (g : Int) (p' : Int) = some l → ∃ f o t r : Nat, l = ((f : Int), (o : Int), (t : Int)) ∧ f < 49 ∧ o < 49 ∧ t < 49 ∧ flipN p' f o t = r ∧ flipL (p' : Int) l = (r : Int)) := fun p' l hl => by
      unfold nextL at hl
      obtain ⟨f, o, t, r, x1, x2, x3, x4, x5, x6, -⟩ := line_is5 ho p' (jumps_lines (List.mem_of_find?_eq_some hl))
      exact ⟨f, o, t, r, x1, x2, x3, x4, x5, x6⟩
    have hpb := hp.big ho
    have hgb := hgp.big ho
    rw [wayB_yes hok]
    obtain ⟨T, hT⟩ : ∃ T, wayF (a : Int) b z (g : Int) 49 (p : Int) = T := ⟨_, rfl⟩
    have HTl : Hid (T.length ≤ 49) := by
      have := (way_run 49 _ _ HSm.out hok (by have := pc_le 49 p; omega)).2
      rw [hT] at this
      have := pc_le 49 p
      unfold Hid
      omega
    have HW0 : Hid (WayAt a b z g 49 T N p []) := ⟨HSm.out, hok, by have := pc_le 49 p; omega, by rw [hT]; rfl⟩
    rw [hT]
    clear hok h1 h2 h3 ho hgp hp e1 hP hG h16 hT HSm
    go_enter Tryz.func6, Tryz.ntmps6
    go_wp2_with fail
    have B0 := Lib.hid (box_new a b z w)
    generalize w.alloc (.cells #[.int .i64 (a : Int), .int .i64 (b : Int), .int .i64 (z : Int)] 25) = W1 at *
    obtain ⟨c0, c1, c2, hlt, hb1⟩ := B0.out
    go_wp2_with fail
    refine (CO.out _).mono ?_
    rintro e w3 ⟨rfl, hb⟩
    have B1 := Lib.hid (B0.out.later hb)
    clear hb B0 c0 c1 c2 hlt hb1
    obtain ⟨c0, c1, c2, hlt, hb1⟩ := B1.out
    go_wp2_with fail
    refine (CJ.out _).mono ?_
    rintro e wJ ⟨bk, bg, bl, bi, bm, va, n0, vc, bj, rfl, hj, hk, hb⟩
    have HJ := Lib.hid hj
    have B2 := Lib.hid (B1.out.later hb)
    have HlB : Hid (w.heap.size < bm) := by
      have h1 := hj.fix.lo
      have h2 := B1.out.2.2.2.1
      unfold Hid
      omega
    have HBx : Hid (∀ w', wJ.grownBy w' (some bm) → (w'.cell? ⟨w.heap.size, 0, none⟩ = some (.int .i64 (a : Int)) ∧ w'.cell? ⟨w.heap.size, 1, none⟩ = some (.int .i64 (b : Int)) ∧ w'.cell? ⟨w.heap.size, 2, none⟩ = some (.int .i64 (z : Int))) ∧ Below w.heap.size w w') := fun w' h => by
      have hne : some w.heap.size ≠ some bm := fun e => by have := HlB.out; simp at e; omega
      exact ⟨⟨h.cell B2.out.1 hne, h.cell B2.out.2.1 hne, h.cell B2.out.2.2.1 hne⟩, B2.out.2.2.2.2.grown h B2.out.2.2.2.2.size (fun k hk => by cases hk; exact Nat.le_of_lt HlB.out)⟩
    have hba : Below wJ.heap.size wJ (wJ.alloc (.cells #[] 39)) := (Below.refl _ _).alloc (Nat.le_refl _) _
    have HS0 : Hid (WayG wJ a b z (g : Int) bm (.slice (some ⟨wJ.heap.size, 0, none⟩) 0 0) [] (wJ.alloc (.cells #[] 39))) :=
      ⟨grown_below hba _, hk.later hba, World.ownsRow_made wJ #[] 0 (Nat.le_refl _) (by unfold maxLen; omega) rfl, hj.fix.lt⟩
    have hwJ : Hid (w.heap.size ≤ wJ.heap.size) := B2.out.2.2.2.2.size
    clear hj hk hb B1 c0 c1 c2 hlt hb1 hba CJ CO HlB
    unfold JumpV
    go_wp2_with fail
    go_loopg [9, 10] 49 (fun gk u pv wr => ∃ (p' : Nat) (v : Value) (out : List Ln), p' < 562949953421312 ∧ pv = .int .i64 p' ∧ v = u ∧ Hid (WayAt a b z g gk T N p' out) ∧ Hid (WayG wJ a b z (g : Int) bm v out wr))
    case atStart => exact ⟨p, _, [], hpb, rfl, rfl, HW0, HS0⟩
    case round =>
      clear HS0 HW0
      obtain ⟨p', v, out0, hpM, rfl, rfl, HA, HS⟩ := hrel
      by_cases hpg : p' = g
      · have hd := HA.out.done hpg
        subst hd
        have hp : Hid (OwnLnB (out0, true) w (.returned (.tuple #[v, .bool true])) wr) := ⟨v, rfl, own_base HS.out.out hwJ.out, (HBx.out _ HS.out.gb).2⟩
        subst hpg
        clear HS HA
        go_wp2_with fail
        go_ret2
        exact hp.out
      · have hgk := HA.out.pos hpg
        obtain ⟨f0, rfl⟩ : ∃ f, gk = f + 1 := ⟨gk - 1, by omega⟩
        have hne : ((p' : Int) == (g : Int)) = false := by simp; omega
        have hne2 : ¬ (p' : Int) = (g : Int) := by omega
        have CX := Lib.hid (CF.out p' hpM)
        have hol := out_le HA.out HTl.out
        obtain ⟨l, hnx⟩ := Option.ne_none_iff_exists'.1 (HA.out.some hpg)
        obtain ⟨f, o, t, r, rfl, hf, ho, ht, hfl, hfL⟩ := HLine.out p' l hnx
        have HA2 := Lib.hid (HA.out.next hpg hnx hfL)
        have hrM := HBig.out r HA2.out.small.part
        have CFl := Lib.hid (HFl.out p' f o t r hpM hf ho ht hfl)
        have hhd := goodL_head hnx
        generalize goodL (a : Int) b z p' g = js at *
        obtain ⟨n, hn⟩ : ∃ n, js.length = n := ⟨_, rfl⟩
        have hn0 : 0 < n := by rw [← hn]; exact (List.getElem?_eq_some_iff.1 hhd).1
        have n0' : (0 : Int) < (n : Int) := by omega
        have HN := Lib.hid hn
        have HHd := Lib.hid hhd
        obtain ⟨olen, holen⟩ : ∃ m, out0.length = m := ⟨_, rfl⟩
        rw [holen] at hol
        have HOL := Lib.hid holen
        obtain ⟨c0, c1, c2⟩ := (HBx.out _ HS.out.gb).1
        clear hn hpg hgk holen hhd hnx hfl hfL hf ho ht HA
        go_wp2_with fail
        refine (CX.out _ _ _ _ _ _ _ _ _ _ _ (HJ.out.grown HS.out.gb) HS.out.kn).mono ?_
        rintro e w5 ⟨lv', rfl, hh, hk, hg⟩
        rw [HN.out] at hh
        obtain ⟨ga, gc, rfl⟩ := lines_form hh
        obtain ⟨gl, rfl⟩ : ∃ g, ga = some ⟨g, 0, none⟩ := by
          rcases Go.Joins.ownsRow_forms hh with ⟨h, h0⟩ | ⟨g, cap, h⟩
          · omega
          · injection h with h1 h2 h3; exact ⟨g, h1⟩
        have HS5 := Lib.hid (HS.out.turn hg hk)
        obtain ⟨x0, x1, x2⟩ := line_cells hh HN.out HHd.out
        simp only [Nat.zero_mul, Nat.zero_add] at x0 x1 x2
        have hba : Below w5.heap.size w5 (w5.alloc (.cells #[.int .i64 (f : Int), .int .i64 (o : Int), .int .i64 (t : Int)] 39)) := (Below.refl _ _).alloc (Nat.le_refl _) _
        have HS6 := Lib.hid (HS5.out.later hba)
        have hrow := heap_alloc_new w5 (.cells #[.int .i64 (f : Int), .int .i64 (o : Int), .int .i64 (t : Int)] 39)
        have hwl : w5.heap.size < (w5.alloc (.cells #[.int .i64 (f : Int), .int .i64 (o : Int), .int .i64 (t : Int)] 39)).heap.size := by simp
        have hnb : Hid (some w5.heap.size ≠ v.ownBlock) := fun e => by have := (HS5.out.out.lt _ e.symm).2; omega
        clear hh hk hg HS c0 c1 c2 CX hba HS5
        obtain ⟨r0, r1, r2, -, -, -⟩ := row_facts hrow
        have hown0 := HS6.out.out
        rw [HOL.out] at hown0
        have hbz : wJ.heap.size ≤ (w5.alloc (.cells #[.int .i64 (f : Int), .int .i64 (o : Int), .int .i64 (t : Int)] 39)).heap.size := HS6.out.gb.size
        have HPush := Lib.hid (fun w' g' cap ho hb => HS6.out.push (w' := w') (g := g') (cap := cap) (l := ((f : Int), (o : Int), (t : Int))) ho hb)
        rw [HOL.out] at HPush
        have hol2 : olen ≤ 1000000000 := by omega
        have HRow := Lib.hid (fun (w7 : World) (hgrow : ((w5.alloc (.cells #[.int .i64 (f : Int), .int .i64 (o : Int), .int .i64 (t : Int)] 39)).alloc (.cells #[.int .i64 (f : Int), .int .i64 (o : Int), .int .i64 (t : Int)] 39)).grownBy w7 v.ownBlock) => row_facts ((hgrow.block w5.heap.size (by simp; omega) hnb.out).trans (row_alloc (o' := (.cells #[.int .i64 (f : Int), .int .i64 (o : Int), .int .i64 (t : Int)] 39)) hrow)))
        clear HS6
        go_upto_region 8 with fail
        generalize w5.alloc (.cells #[.int .i64 (f : Int), .int .i64 (o : Int), .int .i64 (t : Int)] 39) = wa at *
        go_wp2_with (at_builtin; refine wpList_append_line rfl (.tmp 31) (.tmp 33) 28 rfl wJ.heap.size 39 i0 (.agg #[.int .i64 0, .int .i64 0, .int .i64 0]) Tryz.underlying28 hi hz0 hz1 hz2 rfl _ _ _ rfl hown0 _ rfl rfl hol2 hbz ?_; intro g' cap' w7 hown' hgrow hb2 hat; have HS7 := Lib.hid (HPush.out w7 g' cap' hown' hb2); have hr7 := HRow.out w7 hgrow; clear hown' hgrow hb2 hat HPush hown0 r0 r1 r2 hrow HRow hwl hbz x0 x1 x2; obtain ⟨r0, r1, r2, -, -, -⟩ := hr7)
        refine (CFl.out _).mono ?_
        rintro e w8 ⟨rfl, hb⟩
        have HS8 := Lib.hid (HS7.out.later hb)
        clear hb HS7 r0 r1 r2
        go_wp2_with fail
        go_roundg f0
        case measure => omega
        case rel => exact ⟨r, _, _, hrM, rfl, rfl, HA2, HS8⟩
set_option maxHeartbeats 1000000 in
set_option maxRecDepth 100000 in
theorem implOneWay (W H Z P : Int) (hP : P ≤ 9223372036854775807) (w : World) : Calls Tryz.prog 14 #[.agg #[.int .i64 W, .int .i64 H, .int .i64 Z], .int .i64 P] w (OwnLnB (oneWayB W H Z P) w) := by
  have CF := Lib.hid (fun w => implFinals W H Z P hP w)
  have hle := fin_le W H Z P
  cases hfl : finL W H Z P with
  | nil =>
    rw [oneWay_nil hfl]
    rw [hfl] at CF
    clear hfl hP hle
    go_enter Tryz.func14, Tryz.ntmps14
    go_wp2_with fail
    have B0 := Lib.hid (box_new W H Z w)
    generalize w.alloc (.cells #[.int .i64 W, .int .i64 H, .int .i64 Z] 25) = W1 at *
    obtain ⟨c0, c1, c2, hlt, hb1⟩ := B0.out
    go_wp2_with fail
    refine (CF.out _).mono ?_
    rintro e w1 ⟨v, rfl, hh, hb⟩
    obtain ⟨va, vc, rfl⟩ := one_form hh
    have B1 := Lib.hid (B0.out.later hb)
    have hp : Hid (OwnLnB ([], false) w (.returned (.tuple #[.slice none 0 0, .bool false])) w1) := ⟨_, rfl, World.ownsRow_nil _ _ _ _, B1.out.2.2.2.2⟩
    clear hb hh c0 c1 c2 hlt hb1
    go_wp2_with fail
    go_ret2
    exact hp.out
  | cons k l =>
    rw [oneWay_cons hfl]
    have hk := (fin_mem (W := W) (H := H) (Z := Z) (P := P) (k := k) (by rw [hfl]; exact List.mem_cons_self ..)).1
    have hkR : k ∈ holesR W H Z := by
      have : k ∈ finL W H Z P := by rw [hfl]; exact List.mem_cons_self ..
      unfold finL at this
      exact (List.mem_filter.1 this).1
    obtain ⟨q1, e1, n1, l1, u1⟩ := pow_nat k hk
    have CS := Lib.hid (fun w => implOneR hkR w)
    rw [e1] at CS
    have CW := Lib.hid (fun w => implWay W H Z P (q1 : Int) hP (by omega) w)
    rw [show ((2 : Int) ^ k) = (q1 : Int) from e1]
    generalize wayB W H Z P (q1 : Int) = res at *
    rw [hfl] at CF hle
    obtain ⟨n, hn⟩ : ∃ n, (k :: l).length = n := ⟨_, rfl⟩
    have HC0 : (Ints (k :: l))[0]? = some (Value.int .i64 (k : Int)) := by simp [Ints]
    have hn0 : 0 < n := by rw [← hn]; simp
    rw [hn] at hle
    have HN := Lib.hid hn
    have n0 : (0 : Int) < (n : Int) := by omega
    have hnb : ((n : Int) == 0) = false := by simp; omega
    have HC0 := Lib.hid HC0
    generalize k :: l = ks at *
    clear hfl hP hn n1 e1 hkR
    go_enter Tryz.func14, Tryz.ntmps14
    go_wp2_with fail
    have B0 := Lib.hid (box_new W H Z w)
    generalize w.alloc (.cells #[.int .i64 W, .int .i64 H, .int .i64 Z] 25) = W1 at *
    obtain ⟨c0, c1, c2, hlt, hb1⟩ := B0.out
    go_wp2_with fail
    refine (CF.out _).mono ?_
    rintro e w1 ⟨v, rfl, hh, hb⟩
    rw [HN.out] at hh
    obtain ⟨va, vc, rfl⟩ := one_form hh
    obtain ⟨g, rfl⟩ := one_block hh hn0
    have B1 := Lib.hid (B0.out.later hb)
    have HR := Lib.hid hh
    have HCl : Hid (∀ w' : World, Below w1.heap.size w1 w' → w'.cell? ⟨g, 0, none⟩ = some (.int .i64 (k : Int))) := fun w' hb => own_cell (own_below HR.out hb) 0 hn0 _ HC0.out
    clear hb hh c0 c1 c2 hlt hb1
    go_wp2_with fail
    refine wp_region_script (by kernel_rfl) (by kernel_rfl) ?_
    refine Script.load (i := 0) (v := ?_) rfl (by kernel_rfl) (by kernel_rfl) (fun _ _ _ h => h) (by kernel_rfl) ?_ ?_
    rotate_left
    · (intro wS hSw; obtain ⟨c0, c1, c2, -, -⟩ := B1.out.later (After.trans (After.drew (After.refl _)) hSw); have hcl := HCl.out _ (After.trans (After.drew (After.refl _)) hSw); go_simp; try with_reducible rfl)
    try simp only [Act.put, List.getElem_toArray, List.getElem_cons_succ, List.getElem_cons_zero, List.setIfInBounds_toArray, List.set_cons_zero, List.set_cons_succ]
    refine Script.load (i := 1) (v := ?_) rfl (by kernel_rfl) (by kernel_rfl) (fun _ _ _ h => h) (by kernel_rfl) ?_ ?_
    rotate_left
    · (intro wS hSw; obtain ⟨c0, c1, c2, -, -⟩ := B1.out.later (After.trans (After.drew (After.refl _)) hSw); have hcl := HCl.out _ (After.trans (After.drew (After.refl _)) hSw); go_simp; try with_reducible rfl)
    try simp only [Act.put, List.getElem_toArray, List.getElem_cons_succ, List.getElem_cons_zero, List.setIfInBounds_toArray, List.set_cons_zero, List.set_cons_succ]
    refine Script.load (i := 2) (v := ?_) rfl (by kernel_rfl) (by kernel_rfl) (fun _ _ _ h => h) (by kernel_rfl) ?_ ?_
    rotate_left
    · (intro wS hSw; obtain ⟨c0, c1, c2, -, -⟩ := B1.out.later (After.trans (After.drew (After.refl _)) hSw); have hcl := HCl.out _ (After.trans (After.drew (After.refl _)) hSw); go_simp; try with_reducible rfl)
    try simp only [Act.put, List.getElem_toArray, List.getElem_cons_succ, List.getElem_cons_zero, List.setIfInBounds_toArray, List.set_cons_zero, List.set_cons_succ]
    refine Script.load (i := 3) (v := ?_) rfl (by kernel_rfl) (by kernel_rfl) (fun _ _ _ h => h) (by kernel_rfl) ?_ ?_
    rotate_left
    · (intro wS hSw; obtain ⟨c0, c1, c2, -, -⟩ := B1.out.later (After.trans (After.drew (After.refl _)) hSw); have hcl := HCl.out _ (After.trans (After.drew (After.refl _)) hSw); go_simp; try with_reducible rfl)
    try simp only [Act.put, List.getElem_toArray, List.getElem_cons_succ, List.getElem_cons_zero, List.setIfInBounds_toArray, List.set_cons_zero, List.set_cons_succ]
    refine Script.load (i := 4) (v := ?_) rfl (by kernel_rfl) (by kernel_rfl) (fun _ _ _ h => h) (by kernel_rfl) ?_ ?_
    rotate_left
    · (intro wS hSw; obtain ⟨c0, c1, c2, -, -⟩ := B1.out.later (After.trans (After.drew (After.refl _)) hSw); have hcl := HCl.out _ (After.trans (After.drew (After.refl _)) hSw); go_simp; try with_reducible rfl)
    try simp only [Act.put, List.getElem_toArray, List.getElem_cons_succ, List.getElem_cons_zero, List.setIfInBounds_toArray, List.set_cons_zero, List.set_cons_succ]
    refine Script.load (i := 5) (v := ?_) rfl (by kernel_rfl) (by kernel_rfl) (fun _ _ _ h => h) (by kernel_rfl) ?_ ?_
    rotate_left
    · (intro wS hSw; obtain ⟨c0, c1, c2, -, -⟩ := B1.out.later (After.trans (After.drew (After.refl _)) hSw); have hcl := HCl.out _ (After.trans (After.drew (After.refl _)) hSw); go_simp; try with_reducible rfl)
    try simp only [Act.put, List.getElem_toArray, List.getElem_cons_succ, List.getElem_cons_zero, List.setIfInBounds_toArray, List.set_cons_zero, List.set_cons_succ]
    refine Script.call (i := 6) (v := ?_) rfl (by kernel_rfl) (by kernel_rfl) (fun _ _ _ h => h) (by kernel_rfl) ?_ ?_
    rotate_left
    · (intro wS hSw K hK; obtain ⟨c0, c1, c2, -, -⟩ := B1.out.later (After.trans (After.drew (After.refl _)) hSw); have hcl := HCl.out _ (After.trans (After.drew (After.refl _)) hSw); go_simp; go_at_call 34; refine (CS.out _).mono ?_; rintro e wc ⟨rfl, hbc⟩; exact hK.out _ hbc)
    try simp only [Act.put, List.getElem_toArray, List.getElem_cons_succ, List.getElem_cons_zero, List.setIfInBounds_toArray, List.set_cons_zero, List.set_cons_succ]
    refine Script.one (i := 7) rfl (by kernel_rfl) (by kernel_rfl) ?_
    intro wO hO K hK; have hSw := hO; obtain ⟨c0, c1, c2, -, -⟩ := B1.out.later (After.trans (After.drew (After.refl _)) hSw); have hcl := HCl.out _ (After.trans (After.drew (After.refl _)) hSw); go_simp
    clear hSw
    go_at_call 6; refine (CW.out _).mono ?_; rintro e wc ⟨v, rfl, hh, hbc⟩
    refine hK.out _ _ hbc ?_
    clear hK K
    try simp only [Act.put, List.getElem_toArray, List.getElem_cons_succ, List.getElem_cons_zero, List.setIfInBounds_toArray, List.set_cons_zero, List.set_cons_succ]
    have HO := Lib.hid (After.trans (After.drew (After.refl _)) (After.trans hO hbc))
    have hOw := hO.size
    clear c0 c1 c2 hcl
    refine Script.load (i := 8) (v := ?_) rfl (by kernel_rfl) (by kernel_rfl) (fun _ _ _ h => h) (by kernel_rfl) ?_ ?_
    rotate_left
    · (intro wS hSw; skip; go_simp; try with_reducible rfl)
    try simp only [Act.put, List.getElem_toArray, List.getElem_cons_succ, List.getElem_cons_zero, List.setIfInBounds_toArray, List.set_cons_zero, List.set_cons_succ]
    refine Script.load (i := 9) (v := ?_) rfl (by kernel_rfl) (by kernel_rfl) (fun _ _ _ h => h) (by kernel_rfl) ?_ ?_
    rotate_left
    · (intro wS hSw; skip; go_simp; try with_reducible rfl)
    try simp only [Act.put, List.getElem_toArray, List.getElem_cons_succ, List.getElem_cons_zero, List.setIfInBounds_toArray, List.set_cons_zero, List.set_cons_succ]
    refine Script.load (i := 10) (v := ?_) rfl (by kernel_rfl) (by kernel_rfl) (fun _ _ _ h => h) (by kernel_rfl) ?_ ?_
    rotate_left
    · (intro wS hSw; skip; go_simp; try with_reducible rfl)
    try simp only [Act.put, List.getElem_toArray, List.getElem_cons_succ, List.getElem_cons_zero, List.setIfInBounds_toArray, List.set_cons_zero, List.set_cons_succ]
    refine Script.load (i := 11) (v := ?_) rfl (by kernel_rfl) (by kernel_rfl) (fun _ _ _ h => h) (by kernel_rfl) ?_ ?_
    rotate_left
    · (intro wS hSw; skip; go_simp; try with_reducible rfl)
    try simp only [Act.put, List.getElem_toArray, List.getElem_cons_succ, List.getElem_cons_zero, List.setIfInBounds_toArray, List.set_cons_zero, List.set_cons_succ]
    refine Script.done (by kernel_rfl) ?_
    intro wD hD hG
    have hwz := B1.out.2.2.2.2.size
    have hww := HO.out
    have hp : Hid (OwnLnB res w (.returned (.tuple #[v, .bool res.2])) wD) := ⟨v, rfl, own_base (own_below hh hD) (Nat.le_trans hwz hOw), B1.out.2.2.2.2.trans (Below.mono (After.trans hww hD) hwz)⟩
    clear hD hG hh hww
    go_wp2_with fail
    go_ret2
    exact hp.out
end Go.Proofs.YtlklnabnomfhbaaGreat
