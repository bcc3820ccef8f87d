/- The search of the program: reachedFrom, for every small board and every position of it: a queue that is a channel of the call's own. -/
import Derived.Test.YtkenlighpelhiaaGreatReachB
import Derived.Test.YtkenlighpelhiaaGreatReachC
import Derived.Test.YtkenlighpelhiaaGreatChan
import Derived.Test.YtkenlighpelhiaaGreatPartMath
import Derived.Deep.LoopGhost
namespace Go.Proofs.YtkenlighpelhiaaGreat
open Go.RowKit Go.Conc
set_option linter.unusedVariables false
set_option linter.unusedSimpArgs false
/-- The state of the search: the marks (block gs), the lines (under A), the channel (block c), the list of what has been taken out (in memory from B on). -/
structure BfSt (w0 : World) (gs c A B M cap nl : Nat) (la : Option Addr) (ls : List Ln) (T : List Nat) (k j : Nat) (cl : Bool) (v : Value) (w : World) : Prop where
  marks : w.ownsRow w0.heap.size 4 1 (.slice (some ⟨gs, 0, none⟩) M M) M (bv M (fun q => decide (q ∈ T)))
  lines : LnsAt la nl ls A A w
  chan : ChanAt c cap (waits T k) cl w
  list : w.ownsRow B 3 1 v j (Ints (T.take j))
  ags : A ≤ gs
  gsc : gs < c
  cB : c < B
  size : B ≤ w.heap.size
  base : w0.heap.size ≤ gs
  below : Below w0.heap.size w0 w
theorem slice_block {g g' n c : Nat} (e : (Value.slice (some ⟨g, 0, none⟩) n c).ownBlock = some g') : g' = g := by
  simp only [Value.ownBlock, Option.some.injEq] at e
  exact e.symm
section
variable {w0 w w' : World} {gs c A B M cap nl k j : Nat} {la : Option Addr} {ls : List Ln} {T : List Nat} {v : Value} {cl : Bool}
theorem BfSt.mark (h : BfSt w0 gs c A B M cap nl la ls T k j cl v w) (q : Nat) : q < M → w.cell? ⟨gs, q, none⟩ = some (.bool (decide (q ∈ T))) := fun hq => own_cell h.marks q hq _ (bv_get _ hq)
theorem BfSt.later (h : BfSt w0 gs c A B M cap nl la ls T k j cl v w) (hb : Below w.heap.size w w') : BfSt w0 gs c A B M cap nl la ls T k j cl v w' := by
  have h1 := h.ags
  have h2 := h.gsc
  have h3 := h.cB
  have h4 := h.size
  have h5 := h.base
  exact ⟨own_below h.marks hb, h.lines.turn (fun g _ hg => hb.block g (by omega)), h.chan.turn (hb.block c (by omega)), own_below h.list hb, h1, h2, h3, Nat.le_trans h4 hb.size, h5, h.below.trans (hb.mono (by omega))⟩
theorem BfSt.lb (h : BfSt w0 gs c A B M cap nl la ls T k j cl v w) {g : Nat} (e : v.ownBlock = some g) : B ≤ g := (h.list.lt g e).1
/-- The channel's block laid anew. -/
theorem BfSt.set (h : BfSt w0 gs c A B M cap nl la ls T k j cl v w) {k' : Nat} {cl' : Bool} {s r : Nat} : BfSt w0 gs c A B M cap nl la ls T k' j cl' v (w.setChan c cap (waits T k').toArray cl' s r false) := by
  have h1 := h.ags
  have h2 := h.gsc
  have h3 := h.cB
  have h4 := h.size
  have h5 := h.base
  refine ⟨own_turn h.marks (fun g e => set_other (by have := slice_block e; omega)), h.lines.turn (fun g _ hg => set_other (by omega)), chan_set _ _ _ _ h.chan.lt, own_turn h.list (fun g e => set_other (by have := h.lb e; omega)), h1, h2, h3, by rw [size_setChan]; exact h4, h5, below_setChan h.below (by omega) _ _ _ _ _ _⟩
/-- A new mark, and what waits behind it. -/
theorem BfSt.push (h : BfSt w0 gs c A B M cap nl la ls T k j cl v w) (r : Nat) (hk : k ≤ T.length) (hj : j ≤ T.length) (s r' : Nat) : BfSt w0 gs c A B M cap nl la ls (T ++ [r]) k j cl v ((w.setCell ⟨gs, r, none⟩ (.bool true)).setChan c cap ((waits T k).toArray.push (.int .i64 (r : Int))) cl s r' false) := by
  have h1 := h.ags
  have h2 := h.gsc
  have h3 := h.cB
  have h4 := h.size
  have h5 := h.base
  have hm := h.marks.stored r (.bool true)
  rw [bv_set] at hm
  have e1 : (T ++ [r]).take j = T.take j := List.take_append_of_le_length hj
  have ho : ∀ g, g ≠ gs → (w.setCell ⟨gs, r, none⟩ (.bool true)).heap[g]? = w.heap[g]? := fun g hg => heap_setCell_other _ ⟨gs, r, none⟩ g _ hg
  have hsz : (w.setCell ⟨gs, r, none⟩ (.bool true)).heap.size = w.heap.size := by simp
  rw [waits_push r hk]
  refine ⟨own_turn hm.1 (fun g e => set_other (by have := slice_block e; omega)), h.lines.turn (fun g hg hg' => (set_other (by omega)).trans (ho g (by omega))), chan_set _ _ _ _ (by rw [hsz]; exact h.chan.lt), ?_, h1, h2, h3, by rw [size_setChan, hsz]; exact h4, h5, below_setChan (set_below h.below h5) (by omega) _ _ _ _ _ _⟩
  rw [e1]
  exact own_turn h.list (fun g e => (set_other (by have := h.lb e; omega)).trans (ho g (by have := h.lb e; omega)))
/-- One more in the list of what has been taken out. -/
theorem BfSt.grown (h : BfSt w0 gs c A B M cap nl la ls T k j cl v w) (hb : Below B w w') {j' : Nat} {v' : Value} (ho : w'.ownsRow B 3 1 v' j' (Ints (T.take j'))) : BfSt w0 gs c A B M cap nl la ls T k j' cl v' w' := by
  have h1 := h.ags
  have h2 := h.gsc
  have h3 := h.cB
  have h4 := h.size
  have h5 := h.base
  exact ⟨own_under h.marks hb (by omega), h.lines.turn (fun g _ hg => hb.block g (by omega)), h.chan.turn (hb.block c (by omega)), ho, h1, h2, h3, Nat.le_trans h4 hb.size, h5, h.below.trans (hb.mono (by omega))⟩
end
/-- What the search hands back: all that is reached, each once, in some order. -/
def FoundPost (S : List Nat) (w : World) (e : Ending) (w' : World) : Prop := ∃ T : List Nat, T.Nodup ∧ 0 < T.length ∧ T.length ≤ 65536 ∧ (∀ q, q ∈ T ↔ q ∈ S) ∧ OwnInts T w e w'
set_option maxHeartbeats 8000000 in
set_option maxRecDepth 100000 in
theorem implReached {a b N z p : Nat} (ho : Ok (a : Int) (b : Int) N z) (h16 : N ≤ 16) (hp : Part p z) (w : World) :
    Calls Tryz.prog 79 #[.agg #[.int .i64 a, .int .i64 b, .int .i64 z], .int .i64 p] w (FoundPost (seenL false a b z p) w) := by
  obtain ⟨i0, hi, hz0, hz1, hz2⟩ : ∃ i, Tryz.prog.info? 4 = some i ∧ i.zero = some (.bool false) ∧ i.size = 1 ∧ i.bytes = 1 := ⟨_, by rfl, by rfl, by rfl, by rfl⟩
  obtain ⟨j0, hj, jz0, jz1, jz2⟩ : ∃ i, Tryz.prog.info? 3 = some i ∧ i.zero = some (.int .i64 0) ∧ i.size = 1 ∧ i.bytes = 8 := ⟨_, by rfl, by rfl, by rfl, by rfl⟩
  obtain ⟨hN, ha, ha7, hb', hb7, h49⟩ := ho.nat
  have hz65 : z < 65536 := Nat.lt_of_lt_of_le ho.zlt (Nat.pow_le_pow_right (by decide) h16)
  have CL := Lib.hid (fun w => implLines ho w)
  have CC := Lib.hid (fun w => implCount ho w)
  have HLn := Lib.hid (lnsOf_ok ho)
  have HLen : Hid ((linesOf a b z (bitsOf N z)).length ≤ 196) := by unfold Hid; rw [← HLn.out]; exact lnsOf_le _ _ _
  have HMem : Hid (∀ l ∈ linesOf a b z (bitsOf N z), ∃ f o t, LnAt a b z l f o t) := fun l hl => mem_at hN ha hl
  have HFit : Hid (∀ T : List Nat, T.Nodup → (∀ q ∈ T, Rch (stepL false (lnsOf a b z)) p q) → T.length ≤ 2 ^ (bitsOf N z).length) := fun T h1 h2 => by
    have := parts_fit h1 ho.zlt (by omega) (fun q hq => rch_part ho hp (h2 q hq))
    rw [← ho.list, bitsOf_length]; exact this
  have HAll : Hid (∀ T k, SeenAt (stepL false (lnsOf a b z)) p (z + 1) T k → T.length ≤ k → T.Nodup ∧ 0 < T.length ∧ T.length ≤ 65536 ∧ ∀ q, q ∈ T ↔ q ∈ seenL false a b z p) := fun T k h hk => by
    refine ⟨h.nodup, List.length_pos_of_mem h.start, Nat.le_trans h.len (by omega), fun q => ?_⟩
    have := h.all ho hk q
    rw [mem_seen ho hp, ← rchB_iff (step_rank (back := false) ho) (rank_le false), ← this, decide_eq_true_eq]
  have HPart : Hid (∀ q, Rch (stepL false (lnsOf a b z)) p q → q < z + 1) := fun q h => Nat.lt_succ_of_le (rch_part ho hp h).le
  have hpM : p < z + 1 := Nat.lt_succ_of_le hp.le
  have HB : Hid ((bitsOf N z).length ≤ 16) := Nat.le_trans (bitsOf_le N z) h16
  obtain ⟨M, hM⟩ : ∃ M, z + 1 = M := ⟨_, rfl⟩
  have hMw : IntKind.i64.wrap ((z : Int) + 1) = (M : Int) := by rw [← hM]; exact IntWalk.i64_in _ (by omega)
  have hM65 : M ≤ 65536 := by omega
  rw [hM] at HAll HPart hpM
  rw [HLn.out] at HAll HPart HFit
  generalize linesOf a b z (bitsOf N z) = ls at *
  obtain ⟨nb, hnb⟩ : ∃ nb, (bitsOf N z).length = nb := ⟨_, rfl⟩
  rw [hnb] at HFit HB CC
  have hnb16 := HB.out
  obtain ⟨cap, hcap, hcap2, hcap1, -⟩ := pow_nat nb (by omega)
  have hcap65 : cap ≤ 65536 := by rw [← hcap2]; exact Nat.pow_le_pow_right (by decide) hnb16
  rw [hcap2] at HFit
  have hcw : IntKind.i64.wrap (cap : Int) = (cap : Int) := IntWalk.i64_in _ (by omega)
  obtain ⟨st, hst⟩ : ∃ st, stepL false ls = st := ⟨_, rfl⟩
  have HSt : Hid (∀ q r, r ∈ st q ↔ ∃ l ∈ ls, hitL false q l = true ∧ (flipL q l).toNat = r) := fun q r => by rw [← hst]; exact mem_step
  rw [hst] at HAll HPart HFit
  have hzM := Lib.hid hM
  clear hst HLn hM hnb HB hcap2
  go_enter Tryz.func79, Tryz.ntmps79
  go_wp2_with fail
  have B0 := Lib.hid (box_new a b z w)
  have hS0 : (w.alloc (.cells #[.int .i64 (a : Int), .int .i64 (b : Int), .int .i64 (z : Int)] 25)).heap.size = w.heap.size + 1 := by simp
  generalize w.alloc (.cells #[.int .i64 (a : Int), .int .i64 (b : Int), .int .i64 (z : Int)] 25) = w1 at *
  obtain ⟨c0, c1, c2, hlt, hb1⟩ := B0.out
  go_wp2_with fail
  refine (CL.out _).mono ?_
  rintro e w2 ⟨lv', rfl, hh, hb⟩
  obtain ⟨la, lc, rfl⟩ := lines_form hh
  obtain ⟨nl, hnl⟩ : ∃ nl, ls.length = nl := ⟨_, rfl⟩
  rw [hnl] at hh
  rw [hnl]
  have B2 := Lib.hid (B0.out.later hb)
  have HL2 : Hid (LnsAt la nl ls w2.heap.size w2.heap.size w2) := by
    refine ⟨hnl, ?_⟩
    rcases Nat.eq_zero_or_pos nl with h0 | h0
    · exact .inl h0
    · right
      rcases Go.Joins.ownsRow_forms hh with ⟨h, h1⟩ | ⟨g, cap', h⟩
      · omega
      · injection h with h1 h2 h3
        subst h1 h3
        have hl := hh.lt g rfl
        exact ⟨g, rfl, by omega, hl.2, fun i l hi => line_cells hh hnl hi⟩
  obtain ⟨w3, hmk, hrow, hg3⟩ := run_make_full (P := Tryz.prog) w2 w.heap.size 54 4 i0 (.bool false) 1 Tryz.underlying54 hi hz0 hz1 .i64 .i64 M (by rw [hz2]; omega) (by unfold maxLen; omega) B2.out.2.2.2.2.size
  rw [show (madeCells (Value.bool false).cells (M * 1)).toList = bv M (fun q => decide (q ∈ ([] : List Nat))) by rw [Nat.mul_one, show (Value.bool false).cells = #[.bool false] from rfl, toList_madeCells_one, bv_none]] at hrow
  have hbl3 : Below w2.heap.size w2 w3 := ⟨hg3.os, hg3.tape, hg3.output, hg3.size, fun j hj => hg3.block j hj (by simp)⟩
  have HR3 := Lib.hid hrow
  have B3 := Lib.hid (B2.out.later hbl3)
  have HL3 : Hid (LnsAt la nl ls w2.heap.size w2.heap.size w3) := HL2.out.turn (fun g _ hg => hbl3.block g hg)
  have hgs3 := (hrow.lt _ rfl)
  obtain ⟨gs, hgse⟩ : ∃ gs, w2.heap.size = gs := ⟨_, rfl⟩
  rw [hgse] at HL3 HR3 hgs3 hmk
  obtain ⟨hgs1, hgs2⟩ := hgs3
  clear hrow hg3 hbl3 hh hb B0 c0 c1 c2 hlt hb1 HL2 hS0
  obtain ⟨c0, c1, c2, hlt, hb1⟩ := B2.out
  obtain ⟨d0, d1, d2, hlt', hb1'⟩ := B3.out
  go_wp2_with fail
  clear hmk c0 c1 c2 hlt hb1 d0 d1 d2 hlt' hb1'
  refine (CC.out _).mono ?_
  rintro e w4 ⟨rfl, hb⟩
  have HR4 := Lib.hid (own_below HR3.out hb)
  have HL4 : Hid (LnsAt la nl ls gs gs w4) := HL3.out.turn (fun g _ hg => hb.block g (by omega))
  have B4 := Lib.hid (B3.out.later hb)
  have hgs4 : gs < w4.heap.size := Nat.lt_of_lt_of_le hgs2 hb.size
  have hmc := run_makeChan (P := Tryz.prog) (w := w4) Tryz.underlying106 hj .i64 cap (by omega) (by rw [jz2]; omega)
  have p0 : (0 : Int) ≤ (p : Int) := by omega
  have p1 : (p : Int) < (M : Int) := by omega
  have hba : Below w4.heap.size w4 (w4.alloc (.chan cap #[] false 0 0 false)) := (Below.refl _ _).alloc (Nat.le_refl _) _
  have hcp := own_cell (own_below HR4.out hba) p hpM _ (bv_get _ hpM)
  have f0 := (own_below HR4.out hba).frozenAt p
  have hbw := B4.out.2.2.2.2
  have hwz := hbw.size
  obtain ⟨c, hce⟩ : ∃ c, w4.heap.size = c := ⟨_, rfl⟩
  have HC5 : Hid (((w4.alloc (.chan cap #[] false 0 0 false)).setCell ⟨gs, p, none⟩ (.bool true)).heap[c]? = some (.chan cap #[] false 0 0 false)) := by
    unfold Hid
    rw [heap_setCell_other _ ⟨gs, p, none⟩ c _ (by show c ≠ gs; omega), ← hce]
    exact heap_alloc_new w4 _
  have HS5 : Hid (∀ s r : Nat, ∃ wz, (((w4.alloc (.chan cap #[] false 0 0 false)).setCell ⟨gs, p, none⟩ (.bool true)).setChan c cap (#[].push (.int .i64 (p : Int))) false s r false) = wz ∧ wz.heap.size = c + 1 ∧ BfSt w gs c gs (c + 1) M cap nl la ls [p] 0 0 false (.slice (some ⟨c + 1, 0, none⟩) 0 0) (wz.alloc (.cells #[] 3))) := by
    intro s r
    refine ⟨_, rfl, ?_, ?_⟩
    · rw [size_setChan]; simp; omega
    have hm := (own_below HR4.out hba).stored p (.bool true)
    rw [bv_set] at hm
    have hsz : ((w4.alloc (.chan cap #[] false 0 0 false)).setCell ⟨gs, p, none⟩ (.bool true)).heap.size = c + 1 := by simp; omega
    have hsz2 : (((w4.alloc (.chan cap #[] false 0 0 false)).setCell ⟨gs, p, none⟩ (.bool true)).setChan c cap (#[].push (.int .i64 (p : Int))) false s r false).heap.size = c + 1 := by rw [size_setChan]; exact hsz
    have hbz : Below (c + 1) (((w4.alloc (.chan cap #[] false 0 0 false)).setCell ⟨gs, p, none⟩ (.bool true)).setChan c cap (#[].push (.int .i64 (p : Int))) false s r false) ((((w4.alloc (.chan cap #[] false 0 0 false)).setCell ⟨gs, p, none⟩ (.bool true)).setChan c cap (#[].push (.int .i64 (p : Int))) false s r false).alloc (.cells #[] 3)) := (Below.refl _ _).alloc (by rw [hsz2]; exact Nat.le_refl _) _
    refine ⟨?_, ?_, ?_, ?_, Nat.le_refl _, by omega, by omega, by rw [World.size_alloc, hsz2]; omega, hgs1, ?_⟩
    · refine own_turn hm.1 (fun g e => ?_)
      have := slice_block e
      rw [hbz.block g (by omega)]
      exact set_other (by omega)
    · refine HL4.out.turn (fun g _ hg => ?_)
      rw [hbz.block g (by omega), set_other (show g ≠ c by omega), heap_setCell_other _ ⟨gs, p, none⟩ g _ (by show g ≠ gs; omega)]
      exact hba.block g (by omega)
    · refine ChanAt.turn (w := (((w4.alloc (.chan cap #[] false 0 0 false)).setCell ⟨gs, p, none⟩ (.bool true)).setChan c cap (#[].push (.int .i64 (p : Int))) false s r false)) ?_ (hbz.block c (by omega))
      exact chan_set [.int .i64 (p : Int)] false s r (by rw [hsz]; omega)
    · rw [← hsz2]
      exact World.ownsRow_made _ #[] 0 (Nat.le_refl _) (by unfold maxLen; omega) rfl
    · exact (below_setChan (set_below (hbw.alloc hwz _) hgs1) (by omega) _ _ _ _ _ _).trans (hbz.mono (by omega))
  rw [hce] at hmc
  clear hb HR3 HL3 B3 hgs2 hba HR4 HL4
  go_upto_region 5 with fail
  refine wp_send (v := .int .i64 (p : Int)) rfl rfl rfl rfl rfl rfl rfl rfl rfl rfl HC5.out (by show 0 < cap; omega) ?_
  simp only [Act.put, Act.eval, Array.getD_eq_getD_getElem?, List.getElem?_toArray, List.getElem?_cons_succ, List.getElem?_cons_zero, Option.getD_some, List.setIfInBounds_toArray, List.set_cons_zero, List.set_cons_succ]
  obtain ⟨wz, hwe, hwzs, hz5⟩ := HS5.out (0 + 1) 0
  rw [hwe]
  have HS6 := Lib.hid hz5
  have HT0 := Lib.hid (seen_start (st := st) hpM)
  obtain ⟨B, hB⟩ : ∃ B, c + 1 = B := ⟨_, rfl⟩
  rw [hB] at HS6 hwzs
  have hnl2 : nl ≤ 196 := by rw [← hnl]; exact HLen.out
  have HNL := Lib.hid hnl
  have hcB : c < B := by omega
  have hgc : gs < c := by omega
  clear HC5 HS5 hwe hz5 hcp f0 hmc hB B4 hbw hwz hce hgse hgs4 hnl HLen B2
  go_wp2_with fail
  generalize wz.alloc (.cells #[] 3) = w5 at *
  clear hwzs
  go_loopg [8] (M + 1) (fun g s wr => ∃ (k : Nat) (T : List Nat) (v : Value), k ≤ T.length ∧ k + g = M + 1 ∧ v = s ∧ Hid (SeenAt st p M T k) ∧ Hid (BfSt w gs c gs B M cap nl la ls T k k (decide (T.length ≤ k)) v wr))
  case atStart => exact ⟨0, [p], _, Nat.zero_le _, by omega, rfl, HT0, HS6⟩
  case round =>
    clear HT0 HS6
    obtain ⟨k, T, v, hk, hg, rfl, HT, HS⟩ := hrel
    obtain ⟨m, hm⟩ : ∃ m, T.length = m := ⟨_, rfl⟩
    have hTM := HT.out.len
    rw [hm] at hk hTM
    by_cases hkm : k < m
    · have HS : Hid (BfSt w gs c gs B M cap nl la ls T k k false v wr) := by
        have := HS.out
        rwa [decide_eq_false (show ¬ T.length ≤ k by omega)] at this
      obtain ⟨q0, hq0⟩ : ∃ q, T[k]? = some q := ⟨_, List.getElem?_eq_getElem (by rw [hm]; exact hkm)⟩
      have hq0M : q0 < M := HT.out.lt q0 (List.mem_of_getElem? hq0)
      obtain ⟨sc, rc, hc⟩ := HS.out.chan
      have HC := Lib.hid hc
      have HQ := Lib.hid hq0
      have HKT : Hid (k < T.length) := by unfold Hid; rw [hm]; exact hkm
      have hkM : k < M := by omega
      have HS1 := Lib.hid (HS.out.set (k' := k + 1) (cl' := false) (s := sc) (r := rc + 1))
      clear hq0 hm hc HS
      go_upto_region 8 with fail
      refine wp_recv_buf (z := .int .i64 0) (v := .int .i64 (q0 : Int)) rfl rfl rfl (exec_recv rfl Tryz.underlying106 (Tryz.zeroValue3 _) rfl) HC.out (by rw [List.size_toArray, waits_len]; have := HKT.out; omega) (waits_head HQ.out) rfl rfl ?_
      simp only [Act.put, Act.eval, Array.getD_eq_getD_getElem?, List.getElem?_toArray, List.getElem?_cons_succ, List.getElem?_cons_zero, Option.getD_some, List.setIfInBounds_toArray, List.set_cons_zero, List.set_cons_succ]
      rw [waits_next]
      clear HC
      generalize wr.setChan c cap (waits T (k + 1)).toArray false sc (rc + 1) false = w1 at *
      have HLk := Lib.hid HS1.out.list
      have hBs := HS1.out.size
      have hkn : k ≤ 1000000000 := by omega
      have HTk : Hid (Ints (T.take k) ++ [Value.int .i64 (q0 : Int)] = Ints (T.take (k + 1))) := by
        unfold Hid
        rw [← Ints_snoc, List.take_add_one, HQ.out]; rfl
      go_wp2_with (at_builtin; refine wpList_append_one rfl (.tmp 33) (.tmp 35) 28 rfl B 3 j0 (.int .i64 0) 8 Tryz.underlying28 hj jz0 jz1 jz2 rfl (by decide) _ k (Ints (T.take k)) rfl HLk.out rfl rfl hkn hBs ?_; intro g' cap' w8 hown' hgrow hb2)
      have HS8 : Hid (BfSt w gs c gs B M cap nl la ls T (k + 1) (k + 1) false (.slice (some ⟨g', 0, none⟩) (k + 1) cap') w8) := by
        have h := hown'
        rw [HTk.out] at h
        exact HS1.out.grown hb2 h
      clear HS1 HLk hBs hkn HTk hown' hgrow hb2
      generalize Value.slice (some ⟨g', 0, none⟩) (k + 1) cap' = vl at *
      go_wp2_with fail
      go_loopw [39] (fun i wr => ∃ (i' : Nat) (T : List Nat), i' ≤ nl ∧ i = .int .i64 i' ∧ Hid (SeenAt st p M T k) ∧ Hid (k < T.length) ∧ Hid (T[k]? = some q0) ∧ Hid (∀ l ∈ ls.take i', hitL false q0 l = true → (flipL q0 l).toNat ∈ T) ∧ Hid (BfSt w gs c gs B M cap nl la ls T (k + 1) (k + 1) false vl wr)) (fun i _ => nl - (intOf i).toNat)
      case atStart => exact ⟨0, T, Nat.zero_le _, rfl, HT, HKT, HQ, fun l hl => absurd hl (by simp), HS8⟩
      case round =>
        clear HT HKT HQ HS8 hTM hkm
        obtain ⟨i, T, hi, rfl, HT, HKT, HQ, HD, HS⟩ := hrel
        by_cases hin : i < nl
        · have i0' : (0 : Int) ≤ (i : Int) := by omega
          have i1' : (i : Int) < (nl : Int) := by omega
          obtain ⟨l, hl⟩ : ∃ l, ls[i]? = some l := ⟨_, List.getElem?_eq_getElem (by rw [HNL.out]; exact hin)⟩
          have hlm := List.mem_of_getElem? hl
          obtain ⟨f, o, t, S⟩ := HMem.out l hlm
          obtain ⟨gl, rfl, hgl1, hgl2, e0, e1, e2⟩ := HS.out.lines.get hl
          have hle := S.eq
          have hf49 : f < 49 := Nat.lt_of_lt_of_le S.fN h49
          have ho49 : o < 49 := Nat.lt_of_lt_of_le S.oN h49
          have ht49 : t < 49 := Nat.lt_of_lt_of_le S.tN h49
          have CBf := Lib.hid (fun w => implBef q0 f o t hf49 ho49 ht49 w)
          have CFl := Lib.hid (fun w => implFlip q0 f o t (by omega) hf49 ho49 ht49 w)
          obtain ⟨h1, h2⟩ := hit_at (back := false) (p := q0) S
          simp only [Bool.false_eq_true, if_false] at h1
          obtain ⟨cb, hcb⟩ : ∃ cb, befN q0 f o t = cb := ⟨_, rfl⟩
          obtain ⟨r, hr⟩ : ∃ r, flipN q0 f o t = r := ⟨_, rfl⟩
          rw [hcb] at CBf h1
          rw [hr] at CFl h2
          have HN2 : Hid (∀ l ∈ ls.take (i + 1), hitL false q0 l = true → l ∈ ls.take i ∨ (cb = true ∧ (flipL q0 l).toNat = r)) := fun l' hl' hh' => by
            rw [take_one hl, List.mem_append, List.mem_singleton] at hl'
            rcases hl' with hl' | rfl
            · exact .inl hl'
            · exact .inr ⟨by rw [← h1]; exact hh', by rw [h2, Int.toNat_natCast]⟩
          have HRst : Hid (cb = true → r ∈ st q0) := fun e => (HSt.out q0 r).2 ⟨l, hlm, by rw [h1]; exact e, by rw [h2, Int.toNat_natCast]⟩
          rw [hle] at e0 e1 e2
          have hbl : Below wr.heap.size wr (wr.alloc (.cells #[.int .i64 (f : Int), .int .i64 (o : Int), .int .i64 (t : Int)] 47)) := (Below.refl _ _).alloc (Nat.le_refl _) _
          have HSa := Lib.hid (HS.out.later hbl)
          have hpl : wr.heap.size < (wr.alloc (.cells #[.int .i64 (f : Int), .int .i64 (o : Int), .int .i64 (t : Int)] 47)).heap.size := by simp
          have hrow := heap_alloc_new wr (.cells #[.int .i64 (f : Int), .int .i64 (o : Int), .int .i64 (t : Int)] 47)
          clear hl hlm hle S h1 h2 hcb hr hbl HS hf49 ho49 ht49
          go_wp2_with fail
          clear e0 e1 e2
          generalize wr.alloc (.cells #[.int .i64 (f : Int), .int .i64 (o : Int), .int .i64 (t : Int)] 47) = wa at *
          refine (CBf.out _).mono ?_
          rintro e wb ⟨rfl, hb⟩
          have HSb := Lib.hid (HSa.out.later hb)
          have hrow2 := row_later hrow hb hpl
          have hpl2 : wr.heap.size < wb.heap.size := Nat.lt_of_lt_of_le hpl hb.size
          obtain ⟨r0, r1, r2, -, -, -⟩ := row_facts hrow2
          clear HSa hrow hb hpl CBf
          cases cb
          · go_wp2_with fail
            go_roundw
            case rel => exact ⟨i + 1, T, by omega, by go_num, HT, HKT, HQ, (fun l' hl' hh' => (HN2.out l' hl' hh').elim (fun h => HD.out l' h hh') (fun h => (by cases h.1))), HSb⟩
            case measure => simp [intOf]; omega
          · go_wp2_with fail
            refine (CFl.out _).mono ?_
            rintro e wc ⟨rfl, hb⟩
            have HSc := Lib.hid (HSb.out.later hb)
            have hrst := HRst.out (by simp)
            have hrM : r < M := HPart.out r ((HT.out.got q0 (List.mem_of_getElem? HQ.out)).snoc hrst)
            have z0 : (0 : Int) ≤ (r : Int) := by omega
            have z1 : (r : Int) < (M : Int) := by omega
            have hmk := HSc.out.mark r hrM
            clear HSb r0 r1 r2 hrow2 hb CFl HRst
            by_cases hrT : r ∈ T
            · rw [decide_eq_true hrT] at hmk
              have HRT := Lib.hid hrT
              clear hrT hrst
              go_wp2_with fail
              go_roundw
              case rel => exact ⟨i + 1, T, by omega, by go_num, HT, HKT, HQ, (fun l' hl' hh' => (HN2.out l' hl' hh').elim (fun h => HD.out l' h hh') (fun h => by rw [h.2]; exact HRT.out)), HSc⟩
              case measure => simp [intOf]; omega
            · rw [decide_eq_false hrT] at hmk
              have HT2 := Lib.hid (HT.out.push HKT.out HQ.out hrst hrT hrM)
              have HKT2 : Hid (k < (T ++ [r]).length) := by unfold Hid; rw [List.length_append]; have := HKT.out; omega
              have HQ2 : Hid ((T ++ [r])[k]? = some q0) := by unfold Hid; rw [List.getElem?_append_left HKT.out]; exact HQ.out
              have HD2 : Hid (∀ l ∈ ls.take (i + 1), hitL false q0 l = true → (flipL q0 l).toNat ∈ T ++ [r]) := fun l' hl' hh' => (HN2.out l' hl' hh').elim (fun h => List.mem_append_left _ (HD.out l' h hh')) (fun h => by rw [h.2]; simp)
              have HRoom : Hid ((waits T (k + 1)).toArray.size < cap) := by
                have h := HFit.out (T ++ [r]) HT2.out.nodup HT2.out.got
                rw [List.length_append, List.length_singleton] at h
                unfold Hid
                rw [List.size_toArray, waits_len]
                omega
              obtain ⟨sc, rc, hc⟩ := HSc.out.chan
              have HC : Hid ((wc.setCell ⟨gs, r, none⟩ (.bool true)).heap[c]? = some (.chan cap (waits T (k + 1)).toArray false sc rc false)) := by
                unfold Hid
                rw [heap_setCell_other _ ⟨gs, r, none⟩ c _ (by show c ≠ gs; omega)]; exact hc
              have HS9 := Lib.hid (HSc.out.push r HKT.out HKT.out (sc + 1) rc)
              have f0 := HSc.out.marks.frozenAt r
              clear hrT hrst hc HSc HD HN2 HT HKT HQ
              go_upto_region 18 with fail
              refine wp_send (v := .int .i64 (r : Int)) rfl rfl rfl rfl rfl rfl rfl rfl rfl rfl HC.out HRoom.out ?_
              simp only [Act.put, Act.eval, Array.getD_eq_getD_getElem?, List.getElem?_toArray, List.getElem?_cons_succ, List.getElem?_cons_zero, Option.getD_some, List.setIfInBounds_toArray, List.set_cons_zero, List.set_cons_succ]
              clear HC HRoom hmk f0
              generalize (wc.setCell ⟨gs, r, none⟩ (.bool true)).setChan c cap ((waits T (k + 1)).toArray.push (.int .i64 (r : Int))) false (sc + 1) rc false = wd at *
              go_wp2_with fail
              go_roundw
              case rel => exact ⟨i + 1, T ++ [r], by omega, by go_num, HT2, HKT2, HQ2, HD2, HS9⟩
              case measure => simp [intOf]; omega
        · obtain rfl : i = nl := by omega
          have hfull : Hid (ls.take i = ls) := List.take_of_length_le (by rw [HNL.out]; exact Nat.le_refl _)
          rw [hfull.out] at HD
          have HT2 : Hid (SeenAt st p M T (k + 1)) := HT.out.next HQ.out (fun r hr => by
            obtain ⟨l, hl, h1, h2⟩ := (HSt.out q0 r).1 hr
            rw [← h2]; exact HD.out l hl h1)
          have hkT := HKT.out
          obtain ⟨d, hd⟩ : ∃ d, T.length - (k + 1) = d := ⟨_, rfl⟩
          obtain ⟨sc, rc, hc⟩ := HS.out.chan
          have hlen : ∀ ty, (Builtin.len_ #[106] ty #[.chan (some c)]).run Tryz.prog wr = .ok (.int .i64 (d : Int)) wr := fun ty => by
            have := run_len_chan (P := Tryz.prog) 106 ty Tryz.underlying106 hc
            rw [List.size_toArray, waits_len, hd] at this
            exact this
          by_cases hd0 : d = 0
          · have HS9 := Lib.hid (HS.out.set (k' := k + 1) (cl' := true) (s := sc) (r := rc))
            have hcl : ∀ ats ty, (Builtin.close_ ats ty #[.chan (some c)]).run Tryz.prog wr = .ok (.tuple #[]) (wr.setChan c cap (waits T (k + 1)).toArray true sc rc false) := fun ats ty => run_close_open ats ty hc
            have HE : Hid (decide (T.length ≤ k + 1) = true) := decide_eq_true (by omega)
            have HK : Hid (k + 1 ≤ T.length) := hkT
            subst hd0
            clear hc hd hkT HS HT HKT HD
            go_wp2_with fail
            generalize wr.setChan c cap (waits T (k + 1)).toArray true sc rc false = wd at *
            go_roundg (M - k)
            case measure => omega
            case rel => exact ⟨k + 1, T, _, HK.out, by omega, rfl, HT2, by rw [HE.out]; exact HS9⟩
          · have HE : Hid (decide (T.length ≤ k + 1) = false) := decide_eq_false (by omega)
            have HK : Hid (k + 1 ≤ T.length) := hkT
            have hdz : ¬ ((d : Int) = 0) := by omega
            clear hc hd hkT HT HKT HD
            go_wp2_with fail
            go_roundg (M - k)
            case measure => omega
            case rel => exact ⟨k + 1, T, _, HK.out, by omega, rfl, HT2, by rw [HE.out]; exact HS⟩
    · obtain rfl : k = m := by omega
      have HS : Hid (BfSt w gs c gs B M cap nl la ls T k k true v wr) := by
        have := HS.out
        rwa [decide_eq_true (show T.length ≤ k by omega)] at this
      obtain ⟨sc, rc, hc⟩ := HS.out.chan
      rw [waits_none (by omega)] at hc
      have HC := Lib.hid hc
      obtain ⟨f1, f2, f3, f4⟩ := HAll.out T k HT.out (by omega)
      have hli := HS.out.list
      rw [List.take_of_length_le (by omega), ← hm] at hli
      have HF : Hid (FoundPost (seenL false a b z p) w (.returned v) wr) := ⟨T, f1, f2, f3, f4, v, rfl, own_base hli (by omega), HS.out.below⟩
      clear hc hm HT f1 f2 f3 f4 hli HS hTM
      go_upto_region 8 with fail
      refine wp_recv_shut (z := .int .i64 0) rfl rfl rfl (exec_recv rfl Tryz.underlying106 (Tryz.zeroValue3 _) rfl) HC.out rfl rfl ?_
      simp only [Act.put, Act.eval, Array.getD_eq_getD_getElem?, List.getElem?_toArray, List.getElem?_cons_succ, List.getElem?_cons_zero, Option.getD_some, List.setIfInBounds_toArray, List.set_cons_zero, List.set_cons_succ]
      clear HC
      go_wp2_with fail
      go_ret
      exact HF.out
end Go.Proofs.YtkenlighpelhiaaGreat
