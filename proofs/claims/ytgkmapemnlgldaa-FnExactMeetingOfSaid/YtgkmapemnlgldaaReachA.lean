/- The search of the model: l14Seen, for every small board and every position of it, forwards and backwards. -/
import Derived.Test.YtgkmapemnlgldaaReachMath
import Derived.Test.YtgkmapemnlgldaaJumps
import Derived.Test.YtgkmapemnlgldaaLinesAll
import Derived.Deep.DeepCutAuto
namespace Go.Proofs.Ytgkmapemnlgldaa
open Go.RowKit
set_option linter.unusedVariables false
set_option linter.unusedSimpArgs false
/-- Marks as cells. -/
def bv (M : Nat) (s : Nat → Bool) : List Value := (List.range M).map fun q => Value.bool (s q)
theorem bv_len (M : Nat) (s : Nat → Bool) : (bv M s).length = M := by simp [bv]
theorem bv_get {M q : Nat} (s : Nat → Bool) (h : q < M) : (bv M s)[q]? = some (.bool (s q)) := by simp [bv, h]
theorem bv_set {M r : Nat} {T : List Nat} : (bv M (fun q => decide (q ∈ T))).set r (.bool true) = bv M (fun q => decide (q ∈ T ++ [r])) := by
  refine List.ext_getElem? fun q => ?_
  rw [List.getElem?_set, bv_len]
  by_cases hq : q < M
  · rw [bv_get _ hq, bv_get _ hq]
    by_cases e : r = q
    · subst e; simp [hq]
    · rw [if_neg e]
      have e' : ¬ q = r := fun h => e h.symm
      simp [e']
  · rw [List.getElem?_eq_none (by rw [bv_len]; omega), List.getElem?_eq_none (by rw [bv_len]; omega)]
    split
    · next e => rw [if_neg (by omega)]
    · rfl
theorem bv_congr {M : Nat} {s t : Nat → Bool} (h : ∀ q, s q = t q) : bv M s = bv M t := by rw [show s = t from funext h]
theorem bv_none (M : Nat) : List.replicate M (Value.bool false) = bv M (fun q => decide (q ∈ ([] : List Nat))) := by
  refine List.ext_getElem? fun q => ?_
  by_cases hq : q < M
  · rw [bv_get _ hq]; simp [hq]
  · rw [List.getElem?_eq_none (by simp; omega), List.getElem?_eq_none (by rw [bv_len]; omega)]
/-- A list of lines that is read apart from the block q, under B. -/
def LnsAt (la : Option Addr) (n : Nat) (ls : List Ln) (q B : Nat) (w : World) : Prop :=
  ls.length = n ∧ (n = 0 ∨ ∃ g, la = some ⟨g, 0, none⟩ ∧ g ≠ q ∧ g < B ∧ ∀ (i : Nat) (l : Ln), ls[i]? = some l → w.cell? ⟨g, i * 3, none⟩ = some (.int .i64 l.1) ∧ w.cell? ⟨g, i * 3 + 1, none⟩ = some (.int .i64 l.2.1) ∧ w.cell? ⟨g, i * 3 + 2, none⟩ = some (.int .i64 l.2.2))
theorem cell_blk {w w' : World} {b : Nat} (j : Nat) (h : w'.heap[b]? = w.heap[b]?) : w'.cell? ⟨b, j, none⟩ = w.cell? ⟨b, j, none⟩ := by
  simp only [World.cell?, h]
theorem LnsAt.turn {la : Option Addr} {n q B : Nat} {ls : List Ln} {w w' : World} (h : LnsAt la n ls q B w) (hb : ∀ g, g ≠ q → g < B → w'.heap[g]? = w.heap[g]?) : LnsAt la n ls q B w' := by
  refine ⟨h.1, h.2.imp id ?_⟩
  rintro ⟨g, h1, h2, h3, h4⟩
  refine ⟨g, h1, h2, h3, fun i l hl => ?_⟩
  obtain ⟨e0, e1, e2⟩ := h4 i l hl
  have e := hb g h2 h3
  exact ⟨(cell_blk _ e).trans e0, (cell_blk _ e).trans e1, (cell_blk _ e).trans e2⟩
theorem LnsAt.get {la : Option Addr} {n q B i : Nat} {ls : List Ln} {w : World} {l : Ln} (h : LnsAt la n ls q B w) (hi : ls[i]? = some l) : ∃ g, la = some ⟨g, 0, none⟩ ∧ g ≠ q ∧ g < B ∧ w.cell? ⟨g, i * 3, none⟩ = some (.int .i64 l.1) ∧ w.cell? ⟨g, i * 3 + 1, none⟩ = some (.int .i64 l.2.1) ∧ w.cell? ⟨g, i * 3 + 2, none⟩ = some (.int .i64 l.2.2) := by
  rcases h.2 with h0 | ⟨g, h1, h2, h3, h4⟩
  · have := (List.getElem?_eq_some_iff.1 hi).1
    rw [h.1] at this; omega
  · obtain ⟨e0, e1, e2⟩ := h4 i l hi
    exact ⟨g, h1, h2, h3, e0, e1, e2⟩
/-- The state of a search: the marks, the lines, the list of what waits (in memory from B on). -/
structure SeSt (w0 : World) (gs B M : Nat) (la : Option Addr) (nl : Nat) (ls : List Ln) (T : List Nat) (v : Value) (w : World) : Prop where
  marks : w.ownsRow w0.heap.size 4 1 (.slice (some ⟨gs, 0, none⟩) M M) M (bv M (fun q => decide (q ∈ T)))
  lines : LnsAt la nl ls gs B w
  list : w.ownsRow B 3 1 v T.length (Ints T)
  low : gs < B
  size : B ≤ w.heap.size
  base : w0.heap.size ≤ B
  below : Below w0.heap.size w0 w
section
variable {w0 w w' : World} {gs B M nl : Nat} {la : Option Addr} {ls : List Ln} {T : List Nat} {v : Value}
theorem SeSt.mark (h : SeSt w0 gs B M la nl ls T v w) (q : Nat) : q < M → w.cell? ⟨gs, q, none⟩ = some (.bool (decide (q ∈ T))) := fun hq => own_cell h.marks q hq _ (bv_get _ hq)
theorem SeSt.later (h : SeSt w0 gs B M la nl ls T v w) (hb : Below w.heap.size w w') : SeSt w0 gs B M la nl ls T v w' :=
  ⟨own_below h.marks hb, h.lines.turn (fun g _ hg => hb.block g (Nat.lt_of_lt_of_le hg h.size)), own_below h.list hb, h.low, Nat.le_trans h.size hb.size, h.base, h.below.trans (hb.mono (Nat.le_trans h.base h.size))⟩
theorem own_under {B b : Nat} {T : TypeId} {g n c s : Nat} {xs : List Value} (h : w.ownsRow b T s (.slice (some ⟨g, 0, none⟩) n c) n xs) (hb : Below B w w') (hg : g < B) : w'.ownsRow b T s (.slice (some ⟨g, 0, none⟩) n c) n xs := by
  refine ⟨h.1, ?_⟩
  rcases h.2 with ⟨h1, h2⟩ | ⟨g', cap, cur, h1, h2, h3, rest⟩
  · exact .inl ⟨h1, h2⟩
  · refine .inr ⟨g', cap, cur, h1, h2, ?_, rest⟩
    cases h1
    rw [hb.block g hg]; exact h3
/-- A new mark, and what waits behind it. -/
theorem SeSt.push (h : SeSt w0 gs B M la nl ls T v w) {r : Nat} {v' : Value} (hb : Below B (w.setCell ⟨gs, r, none⟩ (.bool true)) w') (ho : w'.ownsRow B 3 1 v' (T ++ [r]).length (Ints (T ++ [r]))) : SeSt w0 gs B M la nl ls (T ++ [r]) v' w' := by
  have h1 := h.marks.stored r (.bool true)
  rw [bv_set] at h1
  have hw := h.marks.lt gs rfl
  have hs : Below w0.heap.size w0 (w.setCell ⟨gs, r, none⟩ (.bool true)) := set_below h.below hw.1
  refine ⟨own_under h1.1 hb h.low, ?_, ho, h.low, Nat.le_trans h.size (by have := hb.size; simpa using this), h.base, hs.trans (hb.mono h.base)⟩
  refine LnsAt.turn (h.lines.turn (w' := w.setCell ⟨gs, r, none⟩ (.bool true)) (fun g hg _ => heap_setCell_other _ ⟨gs, r, none⟩ g _ hg)) (fun g _ hg => hb.block g hg)
theorem SeSt.kept (h : SeSt w0 gs B M la nl ls T v w) (r : Nat) : (w.setCell ⟨gs, r, none⟩ (.bool true)).ownsRow B 3 1 v T.length (Ints T) := by
  have h1 := h.marks.stored r (.bool true)
  refine h.list.kept h1.2 ?_
  cases hv : v.ownBlock with
  | none => exact .inl rfl
  | some g =>
    right
    intro e
    have := (h.list.lt g hv).1
    have hl := h.low
    simp only [Value.ownBlock, Option.some.injEq] at e
    omega
end
theorem lns_own {w : World} {B0 B q : Nat} {T : TypeId} {la : Option Addr} {n c : Nat} {ls : List Ln} (h : w.ownsRow B0 T 3 (.slice la n c) n (lv ls)) (hn : ls.length = n) (hq : q < B0) (hB : w.heap.size ≤ B) : LnsAt la n ls q B w := by
  refine ⟨hn, ?_⟩
  rcases h.2 with ⟨h1, h2⟩ | ⟨g, cap, cur, h1, hb, hg, -⟩
  · exact .inl h2
  · right
    injection h1 with h1 h2 h3
    subst h1 h3
    have hl := h.lt g rfl
    exact ⟨g, rfl, by omega, by omega, fun i l hi => line_cells h hn hi⟩
theorem own_single (w : World) (x : Int) : (w.alloc (.cells #[.int .i64 x] 3)).ownsRow w.heap.size 3 1 (.slice (some ⟨w.heap.size, 0, none⟩) 1 1) 1 [.int .i64 x] :=
  ⟨by simp, .inr ⟨w.heap.size, 1, #[.int .i64 x], rfl, Nat.le_refl _, heap_alloc_new w _, Nat.le_refl _, by unfold maxLen; omega, by simp, by simp⟩⟩
def SeenPost (M : Nat) (s : Nat → Bool) (w : World) (e : Ending) (w' : World) : Prop :=
  ∃ g, e = .returned (.slice (some ⟨g, 0, none⟩) M M) ∧ w'.ownsRow w.heap.size 4 1 (.slice (some ⟨g, 0, none⟩) M M) M (bv M s) ∧ Below w.heap.size w w'
set_option maxHeartbeats 8000000 in
set_option maxRecDepth 100000 in
theorem specSeen {a b N z p : Nat} (back : Bool) (ho : Ok (a : Int) (b : Int) N z) (h16 : N ≤ 16) (hp : Part p z) (w : World) :
    Calls Try.prog 35 #[.agg #[.int .i64 a, .int .i64 b, .int .i64 z], .int .i64 p, .bool back] w (SeenPost (2 ^ N) (seenB back a b z p) w) := by
  obtain ⟨i0, hi, hz0, hz1, hz2⟩ : ∃ i, Try.prog.info? 4 = some i ∧ i.zero = some (.bool false) ∧ i.size = 1 ∧ i.bytes = 1 := ⟨_, by rfl, by rfl, by rfl, by rfl⟩
  obtain ⟨j0, hj, jz0, jz1, jz2⟩ : ∃ i, Try.prog.info? 3 = some i ∧ i.zero = some (.int .i64 0) ∧ i.size = 1 ∧ i.bytes = 8 := ⟨_, by rfl, by rfl, by rfl, by rfl⟩
  obtain ⟨hN, ha, ha7, hb', hb7, h49⟩ := ho.nat
  have hpM : p < 2 ^ N := part_lt hp ho.zlt
  have CL := Lib.hid (fun w => specLines ho w)
  have HLn := Lib.hid (lnsOf_ok ho)
  have HLen : Hid ((linesOf a b z (bitsOf N z)).length ≤ 196) := by unfold Hid; rw [← HLn.out]; exact lnsOf_le _ _ _
  have HMem : Hid (∀ l ∈ linesOf a b z (bitsOf N z), ∃ f o t, LnAt a b z l f o t) := fun l hl => mem_at hN ha hl
  have HAll : Hid (∀ T k, SeenAt (stepL back (lnsOf a b z)) p (2 ^ N) T k → T.length ≤ k → ∀ q, decide (q ∈ T) = seenB back a b z p q) := fun T k h hk q => by
    have := h.all ho hk q
    rw [this]; unfold seenB; rw [Int.toNat_natCast]
  have HPart : Hid (∀ q, Rch (stepL back (lnsOf a b z)) p q → q < 2 ^ N) := fun q h => part_lt (rch_part ho hp h) ho.zlt
  obtain ⟨M, hM, hM2, hM1, hMb⟩ := pow_nat N (by omega)
  have hM65 : M ≤ 65536 := by rw [← hM2]; exact Nat.pow_le_pow_right (by decide) h16
  rw [hM2] at hpM HAll HPart ⊢
  rw [HLn.out] at HAll HPart
  generalize linesOf a b z (bitsOf N z) = ls at *
  obtain ⟨st, hst⟩ : ∃ st, stepL back ls = st := ⟨_, rfl⟩
  have HSt : Hid (∀ q r, r ∈ st q ↔ ∃ l ∈ ls, hitL back q l = true ∧ (flipL q l).toNat = r) := fun q r => by rw [← hst]; exact mem_step
  rw [hst] at HAll HPart
  have hmul : (a : Int) * (b : Int) = (N : Int) := by rw [← Int.natCast_mul, hN]
  have hMw : IntKind.i64.wrap (M : Int) = (M : Int) := IntWalk.i64_in _ (by omega)
  obtain ⟨w3, hmk, hrow, hg3⟩ := run_make_full (P := Try.prog) (w.alloc (.cells #[.int .i64 (a : Int), .int .i64 (b : Int), .int .i64 (z : Int)] 25)) (w.alloc (.cells #[.int .i64 (a : Int), .int .i64 (b : Int), .int .i64 (z : Int)] 25)).heap.size 49 4 i0 (.bool false) 1 Try.underlying49 hi hz0 hz1 .i64 .i64 M (by rw [hz2]; omega) (by unfold maxLen; omega) (Nat.le_refl _)
  rw [show (madeCells (Value.bool false).cells (M * 1)).toList = bv M (fun q => decide (q ∈ ([] : List Nat))) by rw [Nat.mul_one, show (Value.bool false).cells = #[.bool false] from rfl, toList_madeCells_one, bv_none]] at hrow
  have hsz1 : (w.alloc (.cells #[.int .i64 (a : Int), .int .i64 (b : Int), .int .i64 (z : Int)] 25)).heap.size = w.heap.size + 1 := by simp
  have B0 := box_new a b z w
  have B3 := Lib.hid (B0.later (w' := w3) ⟨hg3.os, hg3.tape, hg3.output, hg3.size, fun j hj => hg3.block j hj (by simp)⟩)
  have HR3 := Lib.hid hrow
  have hsz3 := (hrow.lt _ rfl).2
  rw [hsz1] at hmk hsz3
  rw [hsz1] at HR3
  clear hst hM2 HLn hrow hg3 B0
  have p0 : (0 : Int) ≤ (p : Int) := by omega
  have p1 : (p : Int) < (M : Int) := by omega
  have hzz : Hid (z < 562949953421312) := ho.zbig
  clear hsz1
  obtain ⟨c0, c1, c2, hlt, hb1⟩ := B3.out
  go_enter Try.func35, Try.ntmps35
  go_wp2_with fail
  clear hmk
  refine (CL.out _).mono ?_
  rintro e w4 ⟨lv', rfl, hh, hb⟩
  obtain ⟨la, lc, rfl⟩ := lines_form hh
  obtain ⟨nl, hnl⟩ : ∃ nl, ls.length = nl := ⟨_, rfl⟩
  rw [hnl] at hh
  rw [hnl]
  have HLA := Lib.hid (lns_own (B := w4.heap.size) hh hnl hsz3 (Nat.le_refl _))
  have HR4 := Lib.hid (own_below HR3.out hb)
  have B4 := Lib.hid (B3.out.later hb)
  have hgs : w.heap.size + 1 < w4.heap.size := Nat.lt_of_lt_of_le hsz3 hb.size
  obtain ⟨gs, hgse⟩ : ∃ gs, w.heap.size + 1 = gs := ⟨_, rfl⟩
  rw [hgse] at hgs HLA HR4
  rw [hgse]
  have HGS := Lib.hid hgse
  clear hb hh hgse B3 HR3 c0 c1 c2 hlt hb1 hsz3
  have f0 := HR4.out.frozenAt p
  have HS5 : Hid (SeSt w gs w4.heap.size M la nl ls [p] (.slice (some ⟨w4.heap.size, 0, none⟩) 1 1) ((w4.setCell ⟨gs, p, none⟩ (.bool true)).alloc (.cells #[.int .i64 (p : Int)] 3))) := by
    have h1 := HR4.out.stored p (.bool true)
    rw [bv_set] at h1
    have hba : Below w4.heap.size (w4.setCell ⟨gs, p, none⟩ (.bool true)) ((w4.setCell ⟨gs, p, none⟩ (.bool true)).alloc (.cells #[.int .i64 (p : Int)] 3)) := (Below.refl _ _).alloc (by simp) _
    have hg1 := HGS.out
    have hbz := B4.out.2.2.2.2
    have hsz := hbz.size
    have hst := own_single (w4.setCell ⟨gs, p, none⟩ (.bool true)) p
    have hss : (w4.setCell ⟨gs, p, none⟩ (.bool true)).heap.size = w4.heap.size := by simp
    rw [hss] at hst
    exact ⟨own_base (own_under h1.1 hba hgs) (by omega), LnsAt.turn (HLA.out.turn (w' := w4.setCell ⟨gs, p, none⟩ (.bool true)) (fun g hg _ => heap_setCell_other _ ⟨gs, p, none⟩ g _ hg)) (fun g _ hg => hba.block g hg), hst, hgs, by simp, hsz, (set_below hbz (by omega)).trans (hba.mono hsz)⟩
  have hcp := own_cell HR4.out p hpM _ (bv_get _ hpM)
  have HT0 := Lib.hid (seen_start (st := st) hpM)
  have HNL := Lib.hid hnl
  have hnl2 : nl ≤ 196 := by rw [← hnl]; exact HLen.out
  clear hnl HLen
  go_wp2_with fail
  generalize (w4.setCell ⟨gs, p, none⟩ (.bool true)).alloc (.cells #[.int .i64 (p : Int)] 3) = w5 at *
  generalize w4.heap.size = B at *
  clear HLA HR4 B4 hcp f0
  go_loopw [9, 10] (fun s i wr => ∃ (k : Nat) (T : List Nat) (v : Value), k ≤ T.length ∧ i = .int .i64 k ∧ v = s ∧ Hid (SeenAt st p M T k) ∧ Hid (SeSt w gs B M la nl ls T v wr)) (fun _ i _ => M - (intOf i).toNat)
  case atStart => exact ⟨0, [p], _, Nat.zero_le _, rfl, rfl, HT0, HS5⟩
  case round =>
    clear HT0 HS5
    obtain ⟨k, T, v, hk, rfl, rfl, HT, HS⟩ := hrel
    obtain ⟨m, hm⟩ : ∃ m, T.length = m := ⟨_, rfl⟩
    have hTM := HT.out.len
    have HLi := Lib.hid HS.out.list
    rw [hm] at hk hTM HLi
    have hm1 : 1 ≤ m := by rw [← hm]; exact List.length_pos_of_mem HT.out.start
    obtain ⟨gt, tc, rfl⟩ : ∃ gt tc, v = .slice (some ⟨gt, 0, none⟩) m tc := by
      rcases Go.Joins.ownsRow_forms HLi.out with ⟨rfl, h2⟩ | ⟨g, cap, rfl⟩
      · omega
      · exact ⟨_, _, rfl⟩
    by_cases hkm : k < m
    · have k0 : (0 : Int) ≤ (k : Int) := by omega
      have k1 : (k : Int) < (m : Int) := by omega
      obtain ⟨q0, hq0⟩ : ∃ q, T[k]? = some q := ⟨_, List.getElem?_eq_getElem (by rw [hm]; exact hkm)⟩
      have hq0M : q0 < M := HT.out.lt q0 (List.mem_of_getElem? hq0)
      have HQ := Lib.hid hq0
      have HKT : Hid (k < T.length) := by unfold Hid; rw [hm]; exact hkm
      have hkM : k < M := by omega
      clear hq0 hm hm1 HLi
      go_wp2_with fail
      go_loopw [9, 11] (fun s i wr => ∃ (i' : Nat) (T : List Nat) (v : Value), i' ≤ nl ∧ i = .int .i64 i' ∧ v = s ∧ Hid (SeenAt st p M T k) ∧ Hid (k < T.length) ∧ Hid (T[k]? = some q0) ∧ Hid (∀ l ∈ ls.take i', hitL back q0 l = true → (flipL q0 l).toNat ∈ T) ∧ Hid (SeSt w gs B M la nl ls T v wr)) (fun _ i _ => nl - (intOf i).toNat)
      case atStart => exact ⟨0, T, _, Nat.zero_le _, rfl, rfl, HT, HKT, HQ, fun l hl => absurd hl (by simp), HS⟩
      case round =>
        clear HT HKT HQ HS hTM
        obtain ⟨i, T, v, hi, rfl, rfl, HT, HKT, HQ, HD, HS⟩ := hrel
        by_cases hin : i < nl
        · have i0' : (0 : Int) ≤ (i : Int) := by omega
          have i1' : (i : Int) < (nl : Int) := by omega
          obtain ⟨l, hl⟩ : ∃ l, ls[i]? = some l := ⟨_, List.getElem?_eq_getElem (by rw [HNL.out]; exact hin)⟩
          have hlm := List.mem_of_getElem? hl
          obtain ⟨f, o, t, S⟩ := HMem.out l hlm
          obtain ⟨gl, rfl, hgl1, hgl2, -⟩ := HS.out.lines.get hl
          have hle := S.eq
          obtain ⟨m, hm⟩ : ∃ m, T.length = m := ⟨_, rfl⟩
          have hTM := HT.out.len
          have hkm' := HKT.out
          have HLi := Lib.hid HS.out.list
          rw [hm] at hkm' hTM HLi
          obtain ⟨gt, tc, rfl⟩ : ∃ gt tc, v = .slice (some ⟨gt, 0, none⟩) m tc := by
            rcases Go.Joins.ownsRow_forms HLi.out with ⟨rfl, h2⟩ | ⟨g, cap, rfl⟩
            · omega
            · exact ⟨_, _, rfl⟩
          have HCl : Hid (∀ w', SeSt w gs B M (some ⟨gl, 0, none⟩) nl ls T (.slice (some ⟨gt, 0, none⟩) m tc) w' → (w'.cell? ⟨gl, i * 3, none⟩ = some (.int .i64 (f : Int)) ∧ w'.cell? ⟨gl, i * 3 + 1, none⟩ = some (.int .i64 (o : Int)) ∧ w'.cell? ⟨gl, i * 3 + 2, none⟩ = some (.int .i64 (t : Int))) ∧ w'.cell? ⟨gt, k, none⟩ = some (.int .i64 (q0 : Int))) := fun w' h => by
            obtain ⟨g', e, -, -, e0, e1, e2⟩ := h.lines.get hl
            cases e
            rw [hle] at e0 e1 e2
            refine ⟨⟨e0, e1, e2⟩, ?_⟩
            have hli := h.list
            rw [hm] at hli
            exact own_cell hli k hkm' _ (by simp [Ints, HQ.out])
          obtain ⟨h1, h2⟩ := hit_at (back := back) (p := q0) S
          have hf49 : f < 49 := Nat.lt_of_lt_of_le S.fN h49
          have ho49 : o < 49 := Nat.lt_of_lt_of_le S.oN h49
          have ht49 : t < 49 := Nat.lt_of_lt_of_le S.tN h49
          have CB := Lib.hid (fun w => specBits f o t hf49 ho49 ht49 w)
          have hmlt := lineM_lt hf49 ho49 ht49
          have hq63 : q0 < 9223372036854775808 := by omega
          have hxor := xor63 (a := q0) (b := lineM f o t) hq63 (by omega)
          have hand := and63 (a := q0) (b := lineM f o t) hq63 (by omega)
          rw [show q0 ^^^ lineM f o t = flipN q0 f o t from rfl] at hxor
          obtain ⟨q1, e1, n1, l1, u1⟩ := pow_nat f hf49
          obtain ⟨q2, e2, n2, l2, u2⟩ := pow_nat o ho49
          obtain ⟨q3, e3, n3, l3, u3⟩ := pow_nat t ht49
          have hor1 := or63 (a := q1) (b := q2) (by omega) (by omega)
          have hw1 : IntKind.i64.wrap (q1 : Int) = (q1 : Int) := IntWalk.i64_in _ (by omega)
          have hw2 : IntKind.i64.wrap (q2 : Int) = (q2 : Int) := IntWalk.i64_in _ (by omega)
          have hw3 : IntKind.i64.wrap (q3 : Int) = (q3 : Int) := IntWalk.i64_in _ (by omega)
          have hbef := and_bef (p := q0) S.fo S.ft S.ot
          have haft := and_aft (p := q0) S.fo S.ft S.ot
          rw [n1, n2] at hbef
          rw [n3] at haft
          have hh : ∀ (x : Nat) (c : Bool), (q0 &&& lineM f o t == x) = c → (((q0 &&& lineM f o t : Nat) : Int) == (x : Int)) = c := fun x c e => by
            rw [← e, Bool.eq_iff_iff, beq_iff_eq, beq_iff_eq]; omega
          obtain ⟨want, hwant⟩ : ∃ x : Nat, (if back = true then q3 else q1 ||| q2) = x := ⟨_, rfl⟩
          obtain ⟨c, hc⟩ : ∃ c, hitL back q0 l = c := ⟨_, rfl⟩
          have heq : (((q0 &&& lineM f o t : Nat) : Int) == (want : Int)) = c := hh _ _ (by
            rw [← hwant, ← hc, h1]
            cases back
            · simpa using hbef
            · simpa using haft)
          obtain ⟨r, hr⟩ : ∃ r, flipN q0 f o t = r := ⟨_, rfl⟩
          rw [hr] at hxor h2
          have HN2 : Hid (∀ l ∈ ls.take (i + 1), hitL back q0 l = true → l ∈ ls.take i ∨ (c = true ∧ (flipL q0 l).toNat = r)) := fun l' hl' hh' => by
            rw [take_one hl, List.mem_append, List.mem_singleton] at hl'
            rcases hl' with hl' | rfl
            · exact .inl hl'
            · exact .inr ⟨by rw [← hc]; exact hh', by rw [h2, Int.toNat_natCast]⟩
          have HRst : Hid (c = true → r ∈ st q0) := fun e => (HSt.out q0 r).2 ⟨l, hlm, by rw [hc]; exact e, by rw [h2, Int.toNat_natCast]⟩
          generalize lineM f o t = mm at *
          obtain ⟨an, han⟩ : ∃ an, q0 &&& mm = an := ⟨_, rfl⟩
          rw [han] at hand heq
          clear h1 h2 hbef haft hh hc hr han n1 n2 n3 hl hlm hle S
          generalize q1 ||| q2 = orr at *
          have k0' : (0 : Int) ≤ (k : Int) := by omega
          have k1' : (k : Int) < (m : Int) := by omega
          obtain ⟨⟨x0, x1, x2⟩, x3⟩ := HCl.out _ HS.out
          go_wp2_with fail
          refine (CB.out _).mono ?_
          rintro e w6 ⟨rfl, hb⟩
          have HS6 := Lib.hid (HS.out.later hb)
          clear hb HS x0 x1 x2 x3
          go_wp2_with fail
          refine wp_region_script (by kernel_rfl) (by kernel_rfl) ?_
          refine Script.load (i := 0) (v := ?_) rfl (by kernel_rfl) (by kernel_rfl) (fun _ _ _ h => h) (by kernel_rfl) ?_ ?_
          rotate_left
          · (intro wS hSw; obtain ⟨⟨x0, x1, x2⟩, x3⟩ := HCl.out _ (HS6.out.later (After.trans (After.drew (After.refl _)) hSw)); go_simp; try with_reducible rfl)
          try simp only [Act.put, List.getElem_toArray, List.getElem_cons_succ, List.getElem_cons_zero, List.setIfInBounds_toArray, List.set_cons_zero, List.set_cons_succ]
          refine Script.load (i := 1) (v := ?_) rfl (by kernel_rfl) (by kernel_rfl) (fun _ _ _ h => h) (by kernel_rfl) ?_ ?_
          rotate_left
          · (intro wS hSw; obtain ⟨⟨x0, x1, x2⟩, x3⟩ := HCl.out _ (HS6.out.later (After.trans (After.drew (After.refl _)) hSw)); go_simp; try with_reducible rfl)
          try simp only [Act.put, List.getElem_toArray, List.getElem_cons_succ, List.getElem_cons_zero, List.setIfInBounds_toArray, List.set_cons_zero, List.set_cons_succ]
          refine Script.load (i := 2) (v := ?_) rfl (by kernel_rfl) (by kernel_rfl) (fun _ _ _ h => h) (by kernel_rfl) ?_ ?_
          rotate_left
          · (intro wS hSw; obtain ⟨⟨x0, x1, x2⟩, x3⟩ := HCl.out _ (HS6.out.later (After.trans (After.drew (After.refl _)) hSw)); go_simp; try with_reducible rfl)
          try simp only [Act.put, List.getElem_toArray, List.getElem_cons_succ, List.getElem_cons_zero, List.setIfInBounds_toArray, List.set_cons_zero, List.set_cons_succ]
          refine Script.load (i := 3) (v := ?_) rfl (by kernel_rfl) (by kernel_rfl) (fun _ _ _ h => h) (by kernel_rfl) ?_ ?_
          rotate_left
          · (intro wS hSw; obtain ⟨⟨x0, x1, x2⟩, x3⟩ := HCl.out _ (HS6.out.later (After.trans (After.drew (After.refl _)) hSw)); go_simp; try with_reducible rfl)
          try simp only [Act.put, List.getElem_toArray, List.getElem_cons_succ, List.getElem_cons_zero, List.setIfInBounds_toArray, List.set_cons_zero, List.set_cons_succ]
          refine Script.load (i := 4) (v := ?_) rfl (by kernel_rfl) (by kernel_rfl) (fun _ _ _ h => h) (by kernel_rfl) ?_ ?_
          rotate_left
          · (intro wS hSw; obtain ⟨⟨x0, x1, x2⟩, x3⟩ := HCl.out _ (HS6.out.later (After.trans (After.drew (After.refl _)) hSw)); go_simp; try with_reducible rfl)
          try simp only [Act.put, List.getElem_toArray, List.getElem_cons_succ, List.getElem_cons_zero, List.setIfInBounds_toArray, List.set_cons_zero, List.set_cons_succ]
          refine Script.load (i := 5) (v := ?_) rfl (by kernel_rfl) (by kernel_rfl) (fun _ _ _ h => h) (by kernel_rfl) ?_ ?_
          rotate_left
          · (intro wS hSw; obtain ⟨⟨x0, x1, x2⟩, x3⟩ := HCl.out _ (HS6.out.later (After.trans (After.drew (After.refl _)) hSw)); go_simp; try with_reducible rfl)
          try simp only [Act.put, List.getElem_toArray, List.getElem_cons_succ, List.getElem_cons_zero, List.setIfInBounds_toArray, List.set_cons_zero, List.set_cons_succ]
          refine Script.load (i := 6) (v := ?_) rfl (by kernel_rfl) (by kernel_rfl) (fun _ _ _ h => h) (by kernel_rfl) ?_ ?_
          rotate_left
          · (intro wS hSw; obtain ⟨⟨x0, x1, x2⟩, x3⟩ := HCl.out _ (HS6.out.later (After.trans (After.drew (After.refl _)) hSw)); go_simp; try with_reducible rfl)
          try simp only [Act.put, List.getElem_toArray, List.getElem_cons_succ, List.getElem_cons_zero, List.setIfInBounds_toArray, List.set_cons_zero, List.set_cons_succ]
          refine Script.load (i := 7) (v := ?_) rfl (by kernel_rfl) (by kernel_rfl) (fun _ _ _ h => h) (by kernel_rfl) ?_ ?_
          rotate_left
          · (intro wS hSw; obtain ⟨⟨x0, x1, x2⟩, x3⟩ := HCl.out _ (HS6.out.later (After.trans (After.drew (After.refl _)) hSw)); go_simp; try with_reducible rfl)
          try simp only [Act.put, List.getElem_toArray, List.getElem_cons_succ, List.getElem_cons_zero, List.setIfInBounds_toArray, List.set_cons_zero, List.set_cons_succ]
          refine Script.load (i := 8) (v := ?_) rfl (by kernel_rfl) (by kernel_rfl) (fun _ _ _ h => h) (by kernel_rfl) ?_ ?_
          rotate_left
          · (intro wS hSw; obtain ⟨⟨x0, x1, x2⟩, x3⟩ := HCl.out _ (HS6.out.later (After.trans (After.drew (After.refl _)) hSw)); go_simp; try with_reducible rfl)
          try simp only [Act.put, List.getElem_toArray, List.getElem_cons_succ, List.getElem_cons_zero, List.setIfInBounds_toArray, List.set_cons_zero, List.set_cons_succ]
          refine Script.load (i := 9) (v := ?_) rfl (by kernel_rfl) (by kernel_rfl) (fun _ _ _ h => h) (by kernel_rfl) ?_ ?_
          rotate_left
          · (intro wS hSw; obtain ⟨⟨x0, x1, x2⟩, x3⟩ := HCl.out _ (HS6.out.later (After.trans (After.drew (After.refl _)) hSw)); go_simp; try with_reducible rfl)
          try simp only [Act.put, List.getElem_toArray, List.getElem_cons_succ, List.getElem_cons_zero, List.setIfInBounds_toArray, List.set_cons_zero, List.set_cons_succ]
          refine Script.load (i := 10) (v := ?_) rfl (by kernel_rfl) (by kernel_rfl) (fun _ _ _ h => h) (by kernel_rfl) ?_ ?_
          rotate_left
          · (intro wS hSw; obtain ⟨⟨x0, x1, x2⟩, x3⟩ := HCl.out _ (HS6.out.later (After.trans (After.drew (After.refl _)) hSw)); go_simp; try with_reducible rfl)
          try simp only [Act.put, List.getElem_toArray, List.getElem_cons_succ, List.getElem_cons_zero, List.setIfInBounds_toArray, List.set_cons_zero, List.set_cons_succ]
          refine Script.load (i := 11) (v := ?_) rfl (by kernel_rfl) (by kernel_rfl) (fun _ _ _ h => h) (by kernel_rfl) ?_ ?_
          rotate_left
          · (intro wS hSw; obtain ⟨⟨x0, x1, x2⟩, x3⟩ := HCl.out _ (HS6.out.later (After.trans (After.drew (After.refl _)) hSw)); go_simp; try with_reducible rfl)
          try simp only [Act.put, List.getElem_toArray, List.getElem_cons_succ, List.getElem_cons_zero, List.setIfInBounds_toArray, List.set_cons_zero, List.set_cons_succ]
          refine Script.load (i := 12) (v := ?_) rfl (by kernel_rfl) (by kernel_rfl) (fun _ _ _ h => h) (by kernel_rfl) ?_ ?_
          rotate_left
          · (intro wS hSw; obtain ⟨⟨x0, x1, x2⟩, x3⟩ := HCl.out _ (HS6.out.later (After.trans (After.drew (After.refl _)) hSw)); go_simp; try with_reducible rfl)
          try simp only [Act.put, List.getElem_toArray, List.getElem_cons_succ, List.getElem_cons_zero, List.setIfInBounds_toArray, List.set_cons_zero, List.set_cons_succ]
          refine Script.load (i := 13) (v := ?_) rfl (by kernel_rfl) (by kernel_rfl) (fun _ _ _ h => h) (by kernel_rfl) ?_ ?_
          rotate_left
          · (intro wS hSw; obtain ⟨⟨x0, x1, x2⟩, x3⟩ := HCl.out _ (HS6.out.later (After.trans (After.drew (After.refl _)) hSw)); go_simp; try with_reducible rfl)
          try simp only [Act.put, List.getElem_toArray, List.getElem_cons_succ, List.getElem_cons_zero, List.setIfInBounds_toArray, List.set_cons_zero, List.set_cons_succ]
          refine Script.done (by kernel_rfl) ?_
          intro wD hD hG
          have HS7 := Lib.hid (HS6.out.later (After.trans (After.drew (After.refl _)) hD))
          clear hD hG HS6
          obtain ⟨⟨x0, x1, x2⟩, x3⟩ := HCl.out _ HS7.out
          clear HCl HLi CB
          cases back
          all_goals
            simp only [Bool.false_eq_true, if_false, if_true] at hwant
            subst hwant
            cases c
            · go_wp2_with fail
              go_roundw
              case rel => exact ⟨i + 1, T, _, by omega, by go_num, rfl, HT, HKT, HQ, (fun l' hl' hh' => (HN2.out l' hl' hh').elim (fun h => HD.out l' h hh') (fun h => (by cases h.1))), HS7⟩
              case measure => simp [intOf]; omega
            · have hrst := HRst.out rfl
              have hrM : r < M := HPart.out r ((HT.out.got q0 (List.mem_of_getElem? HQ.out)).snoc hrst)
              have r0 : (0 : Int) ≤ (r : Int) := by omega
              have r1 : (r : Int) < (M : Int) := by omega
              have hmk := HS7.out.mark r hrM
              by_cases hrT : r ∈ T
              · rw [decide_eq_true hrT] at hmk
                have HRT := Lib.hid hrT
                clear hrT
                go_wp2_with fail
                go_roundw
                case rel => exact ⟨i + 1, T, _, by omega, by go_num, rfl, HT, HKT, HQ, (fun l' hl' hh' => (HN2.out l' hl' hh').elim (fun h => HD.out l' h hh') (fun h => by rw [h.2]; exact HRT.out)), HS7⟩
                case measure => simp [intOf]; omega
              · rw [decide_eq_false hrT] at hmk
                have HRT := Lib.hid hrT
                have HT2 := Lib.hid (HT.out.push (by rw [hm]; exact hkm') HQ.out hrst hrT hrM)
                have HKT2 : Hid (k < (T ++ [r]).length) := by unfold Hid; rw [List.length_append]; have := HKT.out; omega
                have HQ2 : Hid ((T ++ [r])[k]? = some q0) := by unfold Hid; rw [List.getElem?_append_left (by rw [hm]; exact hkm')]; exact HQ.out
                have HD2 : Hid (∀ l ∈ ls.take (i + 1), hitL _ q0 l = true → (flipL q0 l).toNat ∈ T ++ [r]) := fun l' hl' hh' => (HN2.out l' hl' hh').elim (fun h => List.mem_append_left _ (HD.out l' h hh')) (fun h => by rw [h.2]; simp)
                have f0 := HS7.out.marks.frozenAt r
                have HLk := Lib.hid (HS7.out.kept r)
                rw [hm] at HLk
                have HB8 := Lib.hid (fun w' v' (h : Below B (wD.setCell ⟨gs, r, none⟩ (.bool true)) w') ho => HS7.out.push (r := r) (v' := v') h ho)
                have hBs : B ≤ (wD.setCell ⟨gs, r, none⟩ (.bool true)).heap.size := by have := HS7.out.size; simpa using this
                have hmn : m ≤ 1000000000 := by omega
                have HM2 : Hid ((T ++ [r]).length = m + 1) := by unfold Hid; rw [List.length_append, hm]; rfl
                clear hrT HS7 hm
                go_upto_region 18 with fail
                generalize wD.setCell ⟨gs, r, none⟩ (.bool true) = w7 at *
                go_wp2_with (at_builtin; refine wpList_append_one rfl (.tmp 90) (.tmp 92) 30 rfl B 3 j0 (.int .i64 0) 8 Try.underlying30 hj jz0 jz1 jz2 rfl (by decide) _ m (Ints T) rfl HLk.out rfl rfl hmn hBs ?_; intro g' cap' w8 hown' hgrow hb2)
                have HS8 := Lib.hid (HB8.out w8 _ hb2 (by rw [HM2.out]; simpa [Ints] using hown'))
                clear hown' hgrow hb2 HB8 HLk hBs
                go_wp2_with fail
                go_roundw
                case rel => exact ⟨i + 1, T ++ [r], _, by omega, by go_num, rfl, HT2, HKT2, HQ2, HD2, HS8⟩
                case measure => simp [intOf]; omega
        · obtain rfl : i = nl := by omega
          have hfull : Hid (ls.take i = ls) := List.take_of_length_le (by rw [HNL.out]; exact Nat.le_refl _)
          rw [hfull.out] at HD
          have HT2 : Hid (SeenAt st p M T (k + 1)) := HT.out.next HQ.out (fun r hr => by
            obtain ⟨l, hl, h1, h2⟩ := (HSt.out q0 r).1 hr
            rw [← h2]; exact HD.out l hl h1)
          have HKT2 : Hid (k + 1 ≤ T.length) := HKT.out
          go_wp2_with fail
          go_roundw
          case rel => exact ⟨k + 1, T, _, HKT2.out, by go_num, rfl, HT2, HS⟩
          case measure => simp [intOf]; omega
    · obtain rfl : k = m := by omega
      have HF : Hid (SeenPost M (seenB back a b z p) w (.returned (.slice (some ⟨gs, 0, none⟩) M M)) wr) := ⟨gs, rfl, by rw [bv_congr (fun q => (HAll.out T k HT.out (by omega) q).symm)]; exact HS.out.marks, HS.out.below⟩
      go_wp2_with fail
      go_ret
      exact HF.out
end Go.Proofs.Ytgkmapemnlgldaa
