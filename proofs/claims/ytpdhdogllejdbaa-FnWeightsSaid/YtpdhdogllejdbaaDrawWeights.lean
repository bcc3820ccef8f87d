/- The drawn weights: l09Weights and DrawWeights of the model give a valid board of at most sixteen places and a list of weights of it. Of codes of at most 1048576 bytes. -/
import Derived.Test.YtpdhdogllejdbaaDraws
import Derived.Test.YtpdhdogllejdbaaWeights
import Derived.Test.YtpdhdogllejdbaaLinesAll
import Derived.BigRegion
import Derived.Deep.CutBlock
namespace Go.Proofs.Ytpdhdogllejdbaa
open Go.RowKit
set_option linter.unusedVariables false
set_option linter.unusedSimpArgs false
/-- What stands while weights are drawn: the board's block, the cursor; from w on only the cursor's block has turned. -/
def Cur (w0 : World) (a : Option Addr) (len cap p : Nat) (w : World) (B : Nat) (W H Z : Int) (wr : World) : Prop :=
  wr.heap[B]? = some (.cells #[.int .i64 W, .int .i64 H, .int .i64 Z] 25 (0, 0)) ∧ Dr w0 a len cap p wr ∧ w.grownBy wr (some p) ∧ B + 2 ≤ wr.heap.size
section
variable {w0 w : World} {a : Option Addr} {len cap p B : Nat} {W H Z : Int} {wr wr' : World}
theorem Cur.later (h : Cur w0 a len cap p w B W H Z wr) (hb : Below wr.heap.size wr wr') : Cur w0 a len cap p w B W H Z wr' :=
  ⟨row_later h.1 hb (row_lt h.1), h.2.1.below hb, h.2.2.1.trans (grown_below hb _), Nat.le_trans h.2.2.2 hb.size⟩
theorem Cur.drawn (h : Cur w0 a len cap p w B W H Z wr) (hd : Dr w0 a len cap p wr') (hg : wr.grownBy wr' (some p)) (hp : p < B) : Cur w0 a len cap p w B W H Z wr' :=
  ⟨row_grown h.1 hg (by omega), hd, h.2.2.1.trans hg, Nat.le_trans h.2.2.2 hg.size⟩
theorem Cur.kept (h : Cur w0 a len cap p w B W H Z wr) (hb : Below (B + 1) wr wr') (hp : p < B) (hB : w.heap.size = B) : Cur w0 a len cap p w B W H Z wr' :=
  ⟨(hb.block B (Nat.lt_succ_self _)).trans h.1, h.2.1.kept hb (by omega), grown_then h.2.2.1 hb (by omega), Nat.le_trans h.2.2.2 hb.size⟩
theorem Cur.set (h : Cur w0 a len cap p w B W H Z wr) {g : Nat} (j : Nat) (v : Value) (hg : B + 1 ≤ g) (hp : p < B) (hB : w.heap.size = B) : Cur w0 a len cap p w B W H Z (wr.setCell ⟨g, j, none⟩ v) :=
  ⟨(heap_setCell_other wr ⟨g, j, none⟩ B v (show ¬ B = g by omega)).trans h.1, h.2.1.set ⟨Nat.le_trans h.2.1.1 (by omega), by omega⟩, grown_set_new h.2.2.1 (by omega), by simpa using h.2.2.2⟩
end
theorem apart_flip {a b : Option Nat} (h : a = none ∨ a ≠ b) : b = none ∨ b ≠ a := by
  rcases h with rfl | h
  · cases b
    · exact .inl rfl
    · exact .inr (by simp)
  · exact .inr fun e => h e.symm
theorem iv_set (ys : List Int) (k : Nat) (x : Int) : iv (ys.set k x) = (iv ys).set k (.int .i64 x) := by simp [iv, List.map_set]
def picks7 : List Int := [0, 0, 1, 1, 2, 3, -1]
theorem picks7_wf : ∀ x ∈ picks7, -9223372036854775808 ≤ x ∧ x ≤ 9223372036854775807 := by decide
theorem picks7_cell (w : World) : ∀ k, k < 7 → (w.alloc (.cells #[.int .i64 0, .int .i64 0, .int .i64 1, .int .i64 1, .int .i64 2, .int .i64 3, .int .i64 (-1)] 3)).cell? ⟨w.heap.size, k, none⟩ = some (.int .i64 (picks7.getD k 0)) := by
  intro k hk
  rw [cell_of_row _ _ k _ _ _ (heap_alloc_new w _)]
  match k, hk with
  | 0, _ | 1, _ | 2, _ | 3, _ | 4, _ | 5, _ | 6, _ => rfl
  | k + 7, hk => omega
/-- A line of a valid board in naturals. -/
theorem line_nat {W H : Int} {N z : Nat} (ho : Ok W H N z) {f o t : Int} (hm : (f, o, t) ∈ lnsOf W H z) :
    ∃ f' o' t' : Nat, f = f' ∧ o = o' ∧ t = t' ∧ f' < N ∧ o' < N ∧ t' < N ∧ bit z f' = true ∧ bit z o' = true ∧ bit z t' = true ∧ f' ≠ o' ∧ f' ≠ t' ∧ o' ≠ t' := by
  obtain ⟨a, b, N', z', rfl, rfl, hz, ho'⟩ := okNat ho.ok
  obtain rfl : z = z' := Int.ofNat.inj hz
  rw [lnsOf_ok ho'] at hm
  obtain ⟨hN, ha, -⟩ := ho'.nat
  obtain ⟨f', o', t', L⟩ := mem_at hN ha hm
  have e := L.eq
  simp only [Prod.mk.injEq] at e
  have hN2 : N = a * b := by
    have h2 : ((a * b : Nat) : Int) = (N : Int) := by rw [← ho.wh]; simp
    exact (Int.ofNat.inj h2).symm
  rw [hN2]
  exact ⟨f', o', t', e.1, e.2.1, e.2.2, L.fN, L.oN, L.tN, L.bf, L.bo, L.bt, L.fo, L.ft, L.ot⟩
def WtsPost (w0 : World) (a : Option Addr) (len cap p N : Nat) (w : World) (e : Ending) (w' : World) : Prop :=
  ∃ (xs : List Int) (v : Value), Bnd N 1000 xs ∧ e = .returned v ∧ w'.ownsRow w.heap.size 3 1 v N (iv xs) ∧ Dr w0 a len cap p w' ∧ w.grownBy w' (some p)
set_option maxHeartbeats 8000000 in
set_option maxRecDepth 100000 in
theorem drawWts {w0 : World} {a : Option Addr} {len cap p N z : Nat} {W H : Int} (hcode : CodeAt w0 a len) (ho : Ok W H N z) (w : World) (hd : Dr w0 a len cap p w) :
    Calls Try.prog 110 #[.pointer (some ⟨p, 0, none⟩), .agg #[.int .i64 W, .int .i64 H, .int .i64 z]] w (WtsPost w0 a len cap p N w) := by
  obtain ⟨i0, hi, hz0, hz1, hz2⟩ : ∃ i, Try.prog.info? 3 = some i ∧ i.zero = some (.int .i64 0) ∧ i.size = 1 ∧ i.bytes = 8 := ⟨_, by rfl, by rfl, by rfl, by rfl⟩
  have HCO := Lib.hid hcode
  have HD := Lib.hid hd
  have hpw := Dr.lt hd
  have C1 := Lib.hid (fun w => specOk_yes ho w)
  have C2 := Lib.hid (fun w => specLinesA W H z w)
  have h49 := ho.n49
  have h1N := ho.n1
  have hWH := ho.wh
  have hle := lnsOf_le W H z
  have HLN := Lib.hid (fun (f o t : Int) (hm : (f, o, t) ∈ lnsOf W H z) => line_nat ho hm)
  obtain ⟨ls, hls⟩ : ∃ ls, lnsOf W H z = ls := ⟨_, rfl⟩
  rw [hls] at hle C2 HLN
  obtain ⟨m, hm⟩ : ∃ m, ls.length = m := ⟨_, rfl⟩
  have HM := Lib.hid hm
  rw [hm] at hle
  clear hd hcode ho hls hm
  go_enter Try.func110, Try.ntmps110
  go_wp2_with fail
  have hB : Below w.heap.size w ((w.alloc (.cells #[.int .i64 W, .int .i64 H, .int .i64 (z : Int)] 25)).alloc (.cells #[] 3)) := ((Below.refl _ _).alloc (Nat.le_refl _) _).alloc (by simp) _
  have HC0 : Hid (Cur w0 a len cap p w w.heap.size W H z ((w.alloc (.cells #[.int .i64 W, .int .i64 H, .int .i64 (z : Int)] 25)).alloc (.cells #[] 3))) :=
    ⟨row_later (heap_alloc_new w _) ((Below.refl _ _).alloc (Nat.le_refl _) _) (by simp), HD.out.below hB, grown_below hB (some p), by simp⟩
  have hS : (w.alloc (.cells #[.int .i64 W, .int .i64 H, .int .i64 (z : Int)] 25)).heap.size = w.heap.size + 1 := by simp
  have HL0 : Hid (((w.alloc (.cells #[.int .i64 W, .int .i64 H, .int .i64 (z : Int)] 25)).alloc (.cells #[] 3)).ownsRow (w.heap.size + 1) 3 1 (.slice (some ⟨w.heap.size + 1, 0, none⟩) 0 0) 0 (iv [])) := by
    unfold Hid
    rw [← hS]
    exact World.ownsRow_made _ #[] 0 (Nat.le_refl _) (by unfold maxLen; omega) rfl
  generalize (w.alloc (.cells #[.int .i64 W, .int .i64 H, .int .i64 (z : Int)] 25)).alloc (.cells #[] 3) = W1 at *
  obtain ⟨B, hBB⟩ : ∃ B, w.heap.size = B := ⟨_, rfl⟩
  rw [hBB] at HC0 HL0 hpw ⊢
  have HBB := Lib.hid hBB
  clear hS hB hBB
  go_loopw [5, 6] (fun s i wr => ∃ (k : Nat) (v : Value) (xs : List Int), k ≤ N ∧ i = .int .i64 k ∧ v = s ∧ Hid (xs.length = k) ∧ Hid (wr.ownsRow (B + 1) 3 1 v k (iv xs)) ∧ Hid (Cur w0 a len cap p w B W H z wr)) (fun _ i _ => N - (intOf i).toNat)
  case atStart => exact ⟨0, _, [], Nat.zero_le _, rfl, rfl, rfl, HL0, HC0⟩
  case round =>
    clear HL0 HC0
    obtain ⟨k, v, xs, hk, rfl, rfl, HX, HR, HC⟩ := hrel
    obtain ⟨c0, c1, c2, -, -, -⟩ := row_facts HC.out.1
    by_cases hlk : k < N
    · have k1 : (k : Int) < (N : Int) := by omega
      go_wp2_with fail
      refine (C1.out _).mono ?_
      rintro e w1 ⟨rfl, hb⟩
      have HR1 := Lib.hid (own_below HR.out hb)
      have HC1 := Lib.hid (HC.out.later hb)
      clear HR HC hb c0 c1 c2
      have hbl : Below w1.heap.size w1 (w1.alloc (.cells #[.int .i64 0, .int .i64 0, .int .i64 1, .int .i64 1, .int .i64 2, .int .i64 3, .int .i64 (-1)] 3)) := (Below.refl _ _).alloc (Nat.le_refl _) _
      have HR2 := Lib.hid (own_below HR1.out hbl)
      have HC2 := Lib.hid (HC1.out.later hbl)
      have HP := Lib.hid (picks7_cell w1)
      have hgp : w1.heap.size ≠ p := by have := HC1.out.2.2.2; omega
      clear hbl HR1 HC1
      go_wp2_with fail
      generalize w1.alloc (.cells #[.int .i64 0, .int .i64 0, .int .i64 1, .int .i64 1, .int .i64 2, .int .i64 3, .int .i64 (-1)] 3) = w2 at *
      refine (pickInt (cap := cap) (p := p) (n := 7) HCO.out picks7 _ HC2.out.2.1 (by omega) (by omega) rfl hgp picks7_wf HP.out).mono ?_
      rintro e w3 ⟨x, -, -, rfl, hd, hg⟩
      have HR3 := Lib.hid (own_kept HR2.out hg (by omega))
      have HC3 := Lib.hid (HC2.out.drawn hd hg hpw)
      clear hd hg HR2 HC2 HP hgp
      have hbl : Below w3.heap.size w3 (w3.alloc (.cells #[.int .i64 x] 3)) := (Below.refl _ _).alloc (Nat.le_refl _) _
      have hbz : Hid (B + 1 ≤ w3.heap.size) := by unfold Hid; have := HC3.out.2.2.2; omega
      have hln : Hid (k ≤ 1000000000) := by unfold Hid; omega
      clear hbl
      go_wp2_with (at_builtin; refine wpList_append_one rfl (.tmp 26) (.tmp 30) 42 rfl (B + 1) 3 i0 (.int .i64 0) 8 Try.underlying42 hi hz0 hz1 hz2 rfl (by decide) _ _ _ rfl HR3.out rfl rfl hln.out hbz.out ?_; intro g' cap' w6 hown' hgrow hb2)
      have HR6 : Hid (w6.ownsRow (B + 1) 3 1 (.slice (some ⟨g', 0, none⟩) (k + 1) cap') (k + 1) (iv (xs ++ [x]))) := by unfold Hid; rw [iv_snoc]; exact hown'
      have HC6 := Lib.hid (HC3.out.kept hb2 hpw HBB.out)
      have HX6 : Hid ((xs ++ [x]).length = k + 1) := by unfold Hid; rw [List.length_append, HX.out]; rfl
      clear hown' hgrow hb2 HR3 HC3 hbz hln HX
      go_wp2_with fail
      go_roundw
      case rel => exact ⟨k + 1, _, _, by omega, by go_num, rfl, HX6, HR6, HC6⟩
      case measure => simp [intOf]; omega
    · obtain rfl : k = N := by omega
      have hlt : ¬ (k : Int) < (k : Int) := by omega
      obtain ⟨g, gc, rfl⟩ := Go.Joins.ownsRow_form HR.out h1N
      have hgB : B + 1 ≤ g := (HR.out.lt g rfl).1
      go_wp2_with fail
      refine (C2.out _).mono ?_
      rintro e w1 ⟨lvv, rfl, hh, hb⟩
      rw [HM.out] at hh
      obtain ⟨la, lc, rfl⟩ := lines_form hh
      have HLs := Lib.hid hh
      have AX := Lib.hid (own_apart HR.out hh (Nat.le_refl _))
      have hpl : p < wr.heap.size := by have := HC.out.2.2.2; omega
      have HR1 := Lib.hid (own_below HR.out hb)
      have HC1 := Lib.hid (HC.out.later hb)
      generalize wr.heap.size = L0 at *
      clear HR HC hb c0 c1 c2 hh hlt
      go_upto_block 2 with fail
      go_cut [8, 9, 10] from 34 to 100 (fun s8 s9 s10 wx => ∃ ys : List Int, Hid (ys.length = k) ∧ Hid (wx.ownsRow (B + 1) 3 1 (.slice (some ⟨g, 0, none⟩) k gc) k (iv ys)) ∧ Hid (Cur w0 a len cap p w B W H z wx))
      case first =>
        go_wp2_with fail
        go_loopw [8] (fun i wr => ∃ (n : Nat) (ys : List Int), n ≤ 60 ∧ i = .int .i64 n ∧ Hid (ys.length = k) ∧ Hid (wr.ownsRow (B + 1) 3 1 (.slice (some ⟨g, 0, none⟩) k gc) k (iv ys)) ∧ Hid (wr.ownsRow L0 31 3 (.slice la m lc) m (lv ls)) ∧ Hid (Cur w0 a len cap p w B W H z wr)) (fun i _ => 60 - (intOf i).toNat)
        case atStart => exact ⟨0, xs, by omega, rfl, HX, HR1, HLs, HC1⟩
        case round =>
          clear HX HR1 HLs HC1
          obtain ⟨n, ys, hn, rfl, HY, HR, HL, HC⟩ := hrel
          by_cases hn60 : n < 60
          · have n1 : (n : Int) < 60 := by omega
            go_wp2_with fail
            refine (below (cap := cap) (p := p) HCO.out 256 _ HC.out.2.1 (by omega) (by omega)).mono ?_
            rintro e w2 ⟨x, hx, rfl, hd, hg⟩
            have HR2 := Lib.hid (own_kept HR.out hg (by omega))
            have HL2 := Lib.hid (own_kept HL.out hg (by omega))
            have HC2 := Lib.hid (HC.out.drawn hd hg hpw)
            clear hd hg HR HL HC
            by_cases hx2 : x < 250
            · have x2 : (x : Int) < 250 := by omega
              go_wp2_with fail
              go_loopw [9, 10] (fun b i wr => ∃ (j : Nat) (bad : Bool) (ys : List Int), j ≤ m ∧ i = .int .i64 j ∧ b = .bool bad ∧ Hid (ys.length = k) ∧ Hid (wr.ownsRow (B + 1) 3 1 (.slice (some ⟨g, 0, none⟩) k gc) k (iv ys)) ∧ Hid (wr.ownsRow L0 31 3 (.slice la m lc) m (lv ls)) ∧ Hid (Cur w0 a len cap p w B W H z wr)) (fun _ i _ => m - (intOf i).toNat)
              case atStart => exact ⟨0, false, ys, by omega, rfl, rfl, HY, HR2, HL2, HC2⟩
              case round =>
                clear HY HR2 HL2 HC2
                obtain ⟨j, bad, ys, hj, rfl, rfl, HY, HR, HL, HC⟩ := hrel
                by_cases hjm : j < m
                · have j0 : (0 : Int) ≤ (j : Int) := by omega
                  have j1 : (j : Int) < (m : Int) := by omega
                  obtain ⟨⟨lf, lo, lt⟩, hl⟩ : ∃ l, ls[j]? = some l := ⟨_, List.getElem?_eq_getElem (by rw [HM.out]; exact hjm)⟩
                  obtain ⟨f, o, t, rfl, rfl, rfl, hf, hoo, ht, -⟩ := HLN.out _ _ _ (List.mem_of_getElem? hl)
                  obtain ⟨gl, rfl⟩ := lines_at' HL.out (by omega)
                  have CL : Hid (∀ w : World, w.ownsRow L0 31 3 (.slice (some ⟨gl, 0, none⟩) m lc) m (lv ls) → w.cell? ⟨gl, j * 3, none⟩ = some (.int .i64 (f : Int)) ∧ w.cell? ⟨gl, j * 3 + 1, none⟩ = some (.int .i64 (o : Int)) ∧ w.cell? ⟨gl, j * 3 + 2, none⟩ = some (.int .i64 (t : Int))) := fun w hh => line_cells hh HM.out hl
                  obtain ⟨x, hxf⟩ : ∃ x, ys[f]? = some x := ⟨_, List.getElem?_eq_getElem (by rw [HY.out]; exact hf)⟩
                  obtain ⟨y, hyo⟩ : ∃ x, ys[o]? = some x := ⟨_, List.getElem?_eq_getElem (by rw [HY.out]; exact hoo)⟩
                  obtain ⟨u, hut⟩ : ∃ x, ys[t]? = some x := ⟨_, List.getElem?_eq_getElem (by rw [HY.out]; exact ht)⟩
                  have CX : Hid (∀ w : World, w.ownsRow (B + 1) 3 1 (.slice (some ⟨g, 0, none⟩) k gc) k (iv ys) → w.cell? ⟨g, f, none⟩ = some (.int .i64 x) ∧ w.cell? ⟨g, o, none⟩ = some (.int .i64 y) ∧ w.cell? ⟨g, t, none⟩ = some (.int .i64 u)) := fun w hh => ⟨own_cell hh f hf _ (by simp [iv, hxf]), own_cell hh o hoo _ (by simp [iv, hyo]), own_cell hh t ht _ (by simp [iv, hut])⟩
                  have f0 : (0 : Int) ≤ (f : Int) := by omega
                  have f1 : (f : Int) < (k : Int) := by omega
                  have o0 : (0 : Int) ≤ (o : Int) := by omega
                  have o1 : (o : Int) < (k : Int) := by omega
                  have t0 : (0 : Int) ≤ (t : Int) := by omega
                  have t1 : (t : Int) < (k : Int) := by omega
                  obtain ⟨s, hs⟩ : ∃ s, IntKind.i64.wrap (x + y) = s := ⟨_, rfl⟩
                  obtain ⟨r, hr⟩ : ∃ r, IntKind.i64.wrap (u - x) = r := ⟨_, rfl⟩
                  obtain ⟨l0, l1, l2⟩ := CL.out _ HL.out
                  obtain ⟨e0, e1, e2⟩ := CX.out _ HR.out
                  clear hl hxf hyo hut
                  by_cases hlt : s < u
                  · go_wp2_with fail
                    go_quiet (fail)
                    have HR2 : Hid ((wr.drewN nq).ownsRow (B + 1) 3 1 (.slice (some ⟨g, 0, none⟩) k gc) k (iv ys)) := HR.out
                    have HL2 : Hid ((wr.drewN nq).ownsRow L0 31 3 (.slice (some ⟨gl, 0, none⟩) m lc) m (lv ls)) := HL.out
                    have HC2 := Lib.hid (HC.out.later (below_drewN nq (Below.refl _ _)))
                    clear HR HL HC l0 l1 l2 e0 e1 e2
                    generalize wr.drewN nq = wq at *
                    obtain ⟨l0, l1, l2⟩ := CL.out _ HL2.out
                    obtain ⟨e0, e1, e2⟩ := CX.out _ HR2.out
                    have z0 := HR2.out.frozenAt o
                    go_wp2_with fail
                    go_big_region
                    have hst := HR2.out.stored o (.int .i64 r)
                    have HR3 : Hid (((wq.setCell ⟨g, o, none⟩ (.int .i64 r)).drew).ownsRow (B + 1) 3 1 (.slice (some ⟨g, 0, none⟩) k gc) k (iv (ys.set o r))) := by unfold Hid; rw [iv_set]; exact hst.1.drew
                    have HL3 : Hid (((wq.setCell ⟨g, o, none⟩ (.int .i64 r)).drew).ownsRow L0 31 3 (.slice (some ⟨gl, 0, none⟩) m lc) m (lv ls)) := (HL2.out.kept hst.2 (apart_flip AX.out)).drew
                    have HC3 : Hid (Cur w0 a len cap p w B W H z ((wq.setCell ⟨g, o, none⟩ (.int .i64 r)).drew)) := (HC2.out.set o (.int .i64 r) hgB hpw HBB.out).later (Below.refl _ _).drew
                    have HY3 : Hid ((ys.set o r).length = k) := by unfold Hid; rw [List.length_set]; exact HY.out
                    clear hst HR2 HL2 HC2 l0 l1 l2 e0 e1 e2 z0 HY CL CX hs hr
                    go_wp2_with fail
                    go_roundw
                    case rel => exact ⟨j + 1, true, _, by omega, by go_num, rfl, HY3, HR3, HL3, HC3⟩
                    case measure => simp [intOf]; omega
                  · go_wp2_with fail
                    go_quiet (fail)
                    have HR2 : Hid ((wr.drewN nq).ownsRow (B + 1) 3 1 (.slice (some ⟨g, 0, none⟩) k gc) k (iv ys)) := HR.out
                    have HL2 : Hid ((wr.drewN nq).ownsRow L0 31 3 (.slice (some ⟨gl, 0, none⟩) m lc) m (lv ls)) := HL.out
                    have HC2 := Lib.hid (HC.out.later (below_drewN nq (Below.refl _ _)))
                    clear HR HL HC l0 l1 l2 e0 e1 e2 CL CX hs hr
                    go_wp2_with fail
                    go_roundw
                    case rel => exact ⟨j + 1, bad, _, by omega, by go_num, rfl, HY, HR2, HL2, HC2⟩
                    case measure => simp [intOf]; omega
                · obtain rfl : j = m := by omega
                  cases bad
                  · go_wp2_with fail
                    go_meet
                    exact ⟨ys, HY, HR, HC⟩
                  · go_wp2_with fail
                    go_roundw
                    case rel => exact ⟨n + 1, ys, by omega, by go_num, HY, HR, HL, HC⟩
                    case measure => simp [intOf]; omega
            · have x2 : ¬ (x : Int) < 250 := by omega
              go_wp2_with fail
              go_meet
              exact ⟨ys, HY, HR2, HC2⟩
          · have n1 : ¬ (n : Int) < 60 := by omega
            go_wp2_with fail
            go_meet
            exact ⟨ys, HY, HR, HC⟩
      case rest =>
        clear HX HR1 HLs HC1
        obtain ⟨ys, HY, HR, HC⟩ := hcut
        clear AX C1 C2 HLN HM hle hpl
        go_wp2_with fail
        go_loopw [11] (fun i wr => ∃ (j : Nat) (ys : List Int), j ≤ k ∧ i = .int .i64 j ∧ Hid (ys.length = k) ∧ Hid (∀ (i : Nat) x, i < j → ys[i]? = some x → -1000 ≤ x ∧ x ≤ 1000) ∧ Hid (wr.ownsRow (B + 1) 3 1 (.slice (some ⟨g, 0, none⟩) k gc) k (iv ys)) ∧ Hid (Cur w0 a len cap p w B W H z wr)) (fun i _ => k - (intOf i).toNat)
        case atStart => exact ⟨0, ys, Nat.zero_le _, rfl, HY, fun i x h => absurd h (Nat.not_lt_zero _), HR, HC⟩
        case round =>
          clear HY HR HC
          obtain ⟨j, ys, hj, rfl, HY, HD, HR, HC⟩ := hrel
          by_cases hjk : j < k
          · have j0 : (0 : Int) ≤ (j : Int) := by omega
            have j1 : (j : Int) < (k : Int) := by omega
            obtain ⟨x, hx⟩ : ∃ x, ys[j]? = some x := ⟨_, List.getElem?_eq_getElem (by rw [HY.out]; exact hjk)⟩
            have e0 : wr.cell? ⟨g, j, none⟩ = some (.int .i64 x) := own_cell HR.out j hjk _ (by simp [iv, hx])
            have z0 := HR.out.frozenAt j
            have HS : Hid (∀ r : Int, -1000 ≤ r → r ≤ 1000 → (Hid ((ys.set j r).length = k) ∧ Hid (∀ (i : Nat) x, i < j + 1 → (ys.set j r)[i]? = some x → -1000 ≤ x ∧ x ≤ 1000) ∧ Hid ((wr.setCell ⟨g, j, none⟩ (.int .i64 r)).ownsRow (B + 1) 3 1 (.slice (some ⟨g, 0, none⟩) k gc) k (iv (ys.set j r))) ∧ Hid (Cur w0 a len cap p w B W H z (wr.setCell ⟨g, j, none⟩ (.int .i64 r))))) := fun r r1 r2 => by
              refine ⟨by unfold Hid; rw [List.length_set]; exact HY.out, fun i v hi hv => ?_, ?_, HC.out.set j _ hgB hpw HBB.out⟩
              · by_cases e : i = j
                · subst e
                  rw [List.getElem?_set_self (by rw [HY.out]; exact hjk)] at hv
                  cases hv
                  exact ⟨r1, r2⟩
                · rw [List.getElem?_set_ne (Ne.symm e)] at hv
                  exact HD.out i v (by omega) hv
              · unfold Hid
                rw [iv_set]
                exact (HR.out.stored j (.int .i64 r)).1
            clear hx HR HC HD HY
            by_cases h1 : x < -1000
            · obtain ⟨a1, a2, a3, a4⟩ := HS.out (-1000) (by omega) (by omega)
              have h2 : ¬ -1000 < x := by omega
              clear HS
              go_wp2_with fail
              go_roundw
              case rel => exact ⟨j + 1, _, by omega, by go_num, a1, a2, a3, a4⟩
              case measure => simp [intOf]; omega
            · by_cases h3 : 1000 < x
              · obtain ⟨a1, a2, a3, a4⟩ := HS.out 1000 (by omega) (by omega)
                have h2 : -1000 < x := by omega
                have h4 : ¬ x < 1000 := by omega
                clear HS
                go_wp2_with fail
                go_roundw
                case rel => exact ⟨j + 1, _, by omega, by go_num, a1, a2, a3, a4⟩
                case measure => simp [intOf]; omega
              · obtain ⟨a1, a2, a3, a4⟩ := HS.out x (by omega) (by omega)
                clear HS
                go_wp2_with fail
                go_roundw
                case rel => exact ⟨j + 1, _, by omega, by go_num, a1, a2, a3, a4⟩
                case measure => simp [intOf]; omega
          · obtain rfl : j = k := by omega
            have hp : Hid (WtsPost w0 a len cap p j w (.returned (.slice (some ⟨g, 0, none⟩) j gc)) wr) := ⟨ys, _, ⟨HY.out, fun i x hi => HD.out i x (by have := (List.getElem?_eq_some_iff.1 hi).1; rw [HY.out] at this; exact this) hi⟩, rfl, own_base HR.out (by rw [HBB.out]; exact Nat.le_succ _), HC.out.2.1, HC.out.2.2.1⟩
            clear HY HD HR HC
            go_wp2_with fail
            go_ret
            exact hp.out
end Go.Proofs.Ytpdhdogllejdbaa
