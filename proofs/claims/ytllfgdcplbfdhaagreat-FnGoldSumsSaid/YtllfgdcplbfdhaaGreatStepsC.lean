/- GoldSum of both, for every board and every two ints. -/
import Derived.Test.YtllfgdcplbfdhaaGreatStepsB
import Derived.Test.YtllfgdcplbfdhaaGreatPegsAll
import Derived.Test.YtllfgdcplbfdhaaGreatBoards
import Derived.Test.YtllfgdcplbfdhaaGreatWeights
namespace Go.Proofs.YtllfgdcplbfdhaaGreat
open Go.RowKit
set_option linter.unusedVariables false
set_option linter.unusedSimpArgs false
theorem cell_block {w w' : World} {b : Nat} (j : Nat) (h : w'.heap[b]? = w.heap[b]?) : w'.cell? ⟨b, j, none⟩ = w.cell? ⟨b, j, none⟩ := by
  simp only [World.cell?, h]
/-- A golden number stored into its block. -/
def setG (w : World) (q : Nat) (x y : Int) : World := (w.setCell ⟨q, 0, none⟩ (.int .i64 x)).setCell ⟨q, 1, none⟩ (.int .i64 y)
theorem setG_other {w : World} {q b : Nat} {x y : Int} (h : b ≠ q) : (setG w q x y).heap[b]? = w.heap[b]? :=
  (heap_setCell_other _ ⟨q, 1, none⟩ b _ h).trans (heap_setCell_other _ ⟨q, 0, none⟩ b _ h)
theorem setG_size (w : World) (q : Nat) (x y : Int) : (setG w q x y).heap.size = w.heap.size := by simp [setG]
/-- A list of indices that is read, apart from a block that is stored into. -/
def NatsAt (la : Option Addr) (n : Nat) (ks : List Nat) (q : Nat) (w : World) : Prop :=
  ks.length = n ∧ (n = 0 ∨ ∃ b, la = some ⟨b, 0, none⟩ ∧ b ≠ q ∧ b < w.heap.size ∧ ∀ j k : Nat, ks[j]? = some k → w.cell? ⟨b, j, none⟩ = some (.int .i64 (k : Int)))
theorem NatsAt.later {la : Option Addr} {n q : Nat} {ks : List Nat} {w w' : World} (h : NatsAt la n ks q w) (hb : Below w.heap.size w w') : NatsAt la n ks q w' := by
  refine ⟨h.1, h.2.imp id ?_⟩
  rintro ⟨b, h1, h2, h3, h4⟩
  exact ⟨b, h1, h2, Nat.lt_of_lt_of_le h3 hb.size, fun j k hj => (hb.cell h3).trans (h4 j k hj)⟩
theorem NatsAt.set {la : Option Addr} {n q : Nat} {ks : List Nat} {w : World} (x y : Int) (h : NatsAt la n ks q w) : NatsAt la n ks q (setG w q x y) := by
  refine ⟨h.1, h.2.imp id ?_⟩
  rintro ⟨b, h1, h2, h3, h4⟩
  exact ⟨b, h1, h2, by rw [setG_size]; exact h3, fun j k hj => (cell_block j (setG_other h2)).trans (h4 j k hj)⟩
theorem NatsAt.cell {la : Option Addr} {n q j k : Nat} {ks : List Nat} {w : World} (h : NatsAt la n ks q w) (hj : j < n) (hk : ks[j]? = some k) : ∃ b, la = some ⟨b, 0, none⟩ ∧ w.cell? ⟨b, j, none⟩ = some (.int .i64 (k : Int)) := by
  rcases h.2 with h0 | ⟨b, h1, -, -, h4⟩
  · omega
  · exact ⟨b, h1, h4 j k hk⟩
theorem nats_own {la : Option Addr} {n c q B : Nat} {ks : List Nat} {w : World} (h : w.ownsRow B 3 1 (.slice la n c) n (Ints ks)) (hn : ks.length = n) (hq : q < B) : NatsAt la n ks q w := by
  refine ⟨hn, ?_⟩
  rcases h.2 with ⟨h1, h2⟩ | ⟨g, cap, cur, h1, hb, hg, -⟩
  · exact .inl h2
  · right
    injection h1 with h1 h2 h3
    subst h1 h3
    have hl := h.lt g rfl
    refine ⟨g, rfl, by omega, hl.2, fun j k hj => ?_⟩
    have hjn : j < n := by rw [← hn]; exact (List.getElem?_eq_some_iff.1 hj).1
    exact own_cell h j hjn _ (by simp [Ints, hj])
theorem DistAt.set {W H Z T : Int} {g t q : Nat} {w : World} (x y : Int) (h : DistAt W H Z T g t w) (hg : g ≠ q) (ht : t ≠ q) : DistAt W H Z T g t (setG w q x y) :=
  ⟨⟨(cell_block 0 (setG_other hg)).trans h.1.1, (cell_block 1 (setG_other hg)).trans h.1.2.1, (cell_block 2 (setG_other hg)).trans h.1.2.2⟩, (cell_block 0 (setG_other ht)).trans h.2.1, by rw [setG_size]; exact h.2.2.1, by rw [setG_size]; exact h.2.2.2⟩
theorem BxG.set {W H Z u v : Int} {q : Nat} {w0 w : World} (x y : Int) (h : BxG W H Z u v w0 w) (hq : w0.heap.size + 1 < q) : BxG W H Z u v w0 (setG w q x y) :=
  ⟨⟨(cell_block 0 (setG_other (by omega))).trans h.1.1, (cell_block 1 (setG_other (by omega))).trans h.1.2.1, (cell_block 2 (setG_other (by omega))).trans h.1.2.2.1, by rw [setG_size]; exact h.1.2.2.2.1, set_below (set_below h.1.2.2.2.2 (by omega)) (by omega)⟩, (setG_other (by omega)).trans h.2⟩
/-- The state of a sum: the board's block, the result's, the sum's, the list. -/
def SumS (W H Z : Int) (q : Nat) (la : Option Addr) (n : Nat) (ks : List Nat) (x y : Int) (w0 w : World) : Prop :=
  BxG W H Z 0 0 w0 w ∧ Bg 43 q x y w ∧ NatsAt la n ks q w ∧ w0.heap.size + 1 < q
theorem SumS.later {W H Z : Int} {q : Nat} {la : Option Addr} {n : Nat} {ks : List Nat} {x y : Int} {w0 w w' : World} (h : SumS W H Z q la n ks x y w0 w) (hb : Below w.heap.size w w') : SumS W H Z q la n ks x y w0 w' := ⟨h.1.later hb, h.2.1.later hb, h.2.2.1.later hb, h.2.2.2⟩
theorem SumS.set {W H Z : Int} {q : Nat} {la : Option Addr} {n : Nat} {ks : List Nat} {x y : Int} {w0 w : World} (x' y' : Int) (h : SumS W H Z q la n ks x y w0 w) : SumS W H Z q la n ks x' y' w0 (setG w q x' y') := ⟨h.1.set x' y' h.2.2.2, bg_set h.2.1, h.2.2.1.set x' y', h.2.2.2⟩
/-- Beside it a distance. -/
def SumD (W H Z T : Int) (q g t : Nat) (la : Option Addr) (n : Nat) (ks : List Nat) (x y : Int) (w0 w : World) : Prop :=
  SumS W H Z q la n ks x y w0 w ∧ DistAt W H Z T g t w ∧ g < q ∧ t < q
theorem SumD.later {W H Z T : Int} {q g t : Nat} {la : Option Addr} {n : Nat} {ks : List Nat} {x y : Int} {w0 w w' : World} (h : SumD W H Z T q g t la n ks x y w0 w) (hb : Below w.heap.size w w') : SumD W H Z T q g t la n ks x y w0 w' := ⟨h.1.later hb, h.2.1.later hb, h.2.2⟩
theorem SumD.set {W H Z T : Int} {q g t : Nat} {la : Option Addr} {n : Nat} {ks : List Nat} {x y : Int} {w0 w : World} (x' y' : Int) (h : SumD W H Z T q g t la n ks x y w0 w) : SumD W H Z T q g t la n ks x' y' w0 (setG w q x' y') :=
  ⟨h.1.set x' y', h.2.1.set x' y' (by have := h.2.2.1; omega) (by have := h.2.2.2; omega), h.2.2⟩
set_option maxHeartbeats 2000000 in
set_option maxRecDepth 100000 in
theorem implGoldSum (W H Z T P : Int) (hP : P ≤ 9223372036854775807) (w : World) : Calls Tryz.prog 25 #[.agg #[.int .i64 W, .int .i64 H, .int .i64 Z], .int .i64 T, .int .i64 P] w (GQ (gsumB W H Z T P).1 (gsumB W H Z T P).2 w) := by
  have C1 := Lib.hid (fun (b : Bool) (h : posB W H Z P = b) => implPos_is hP h)
  cases hp : posB W H Z P
  · have HG := Lib.hid (gsum_no (T := T) (by rw [hp]; rfl))
    have C1 := Lib.hid (C1.out _ hp)
    clear hp hP
    go_enter Tryz.func25, Tryz.ntmps25
    go_wp2_with fail
    have B0 := Lib.hid (bxg_new W H Z 0 0 w)
    generalize (w.alloc (.cells #[.int .i64 W, .int .i64 H, .int .i64 Z] 25)).alloc (.cells #[.int .i64 0, .int .i64 0] 43) = W1 at *
    obtain ⟨c0, c1, c2, hlt, hb1⟩ := B0.out.1
    go_wp2_with fail
    refine (C1.out _).mono ?_
    rintro e w1 ⟨rfl, hb⟩
    have B1 := Lib.hid (B0.out.later hb)
    clear hb B0 c0 c1 c2 hlt hb1
    obtain ⟨z0, z1, f0, f1⟩ := two_facts B1.out.2
    go_wp2_with fail
    exact bodyPost_ret (v := .agg #[.int .i64 0, .int .i64 0]) (by simp [results, Tryz.results25, go_sem, z0, z1]) rfl ⟨by rw [HG.out], set_below (set_below B1.out.1.2.2.2.2 (by omega)) (by omega)⟩
  have C1 := Lib.hid (C1.out _ hp)
  have C2 := Lib.hid (fun (b : Bool) (h : holeB W H Z T = b) => implHole_is h)
  cases hh : holeB W H Z T
  · have HG := Lib.hid (gsum_no (W := W) (H := H) (Z := Z) (T := T) (P := P) (by rw [hp, hh]; rfl))
    have C2 := Lib.hid (C2.out _ hh)
    clear hp hP hh
    go_enter Tryz.func25, Tryz.ntmps25
    go_wp2_with fail
    have B0 := Lib.hid (bxg_new W H Z 0 0 w)
    generalize (w.alloc (.cells #[.int .i64 W, .int .i64 H, .int .i64 Z] 25)).alloc (.cells #[.int .i64 0, .int .i64 0] 43) = W1 at *
    obtain ⟨c0, c1, c2, hlt, hb1⟩ := B0.out.1
    go_wp2_with fail
    refine (C1.out _).mono ?_
    rintro e w1 ⟨rfl, hb⟩
    have B1 := Lib.hid (B0.out.later hb)
    clear hb B0 c0 c1 c2 hlt hb1
    obtain ⟨c0, c1, c2, hlt, hb1⟩ := B1.out.1
    go_wp2_with fail
    refine (C2.out _).mono ?_
    rintro e w2 ⟨rfl, hb⟩
    have B2 := Lib.hid (B1.out.later hb)
    clear hb B1 c0 c1 c2 hlt hb1
    obtain ⟨z0, z1, f0, f1⟩ := two_facts B2.out.2
    go_wp2_with fail
    exact bodyPost_ret (v := .agg #[.int .i64 0, .int .i64 0]) (by simp [results, Tryz.results25, go_sem, z0, z1]) rfl ⟨by rw [HG.out], set_below (set_below B2.out.1.2.2.2.2 (by omega)) (by omega)⟩
  have C2 := Lib.hid (C2.out _ hh)
  have HG := Lib.hid (gsum_yes hp hh)
  obtain ⟨N, z, p, rfl, rfl, ho, hpz⟩ := pos_yes hp
  have CF := Lib.hid (fun w => implFrom W H z T w)
  have CG := Lib.hid (fun (k : Nat) g t w (h : DistAt W H z T g t w) => implGAt (k : Int) w h)
  have CH := Lib.hid (implHoles ho)
  have CP := Lib.hid (fun k w (hk : k < 49) => isPeg p k hk w)
  have HF := Lib.hid (fun k : Nat => gw_in W H z T k)
  have HL := Lib.hid (bits_filter (N := N) hpz)
  have HK : Hid (∀ j k : Nat, (bitsOf N z)[j]? = some k → k < 49) := fun j k hj => by
    have := (mem_bitsOf.1 (List.mem_of_getElem? hj)).1
    have := ho.n49
    omega
  have HB : Hid (bitsOf 49 p = bitsOf N p) := bitsOf_more (Nat.lt_of_le_of_lt hpz.le ho.zlt) 49 ho.n49
  have hlen : (bitsOf N z).length ≤ 49 := Nat.le_trans (bitsOf_le N z) ho.n49
  have HG := Lib.hid (HG.out.trans (show gsL (fun k => gwB W H z T k) (bitsOf 49 (p : Int).toNat) = gsL (fun k => gwB W H z T k) ((bitsOf N z).filter (bit p)) by rw [HL.out, ← HB.out]; rfl))
  obtain ⟨f, hf⟩ : ∃ f : Nat → Int × Int, (fun k : Nat => gwB W H z T k) = f := ⟨_, rfl⟩
  have HFF : Hid (∀ k : Nat, gwB W H z T k = f k) := fun k => by rw [← hf]
  rw [hf] at HG
  have HF : Hid (∀ k, Gin 144 (f k)) := fun k => by rw [← HFF.out]; exact HF.out k
  have CG : Hid (∀ (k : Nat) g t w, DistAt W H z T g t w → Calls Tryz.prog 64 #[DistV g t, .int .i64 (k : Int)] w (GQ (f k).1 (f k).2 w)) := fun k g t w h => by rw [← HFF.out]; exact CG.out k g t w h
  obtain ⟨ks, hks⟩ : ∃ ks, bitsOf N z = ks := ⟨_, rfl⟩
  rw [hks] at CH HK HG hlen
  obtain ⟨n, hn⟩ : ∃ n, ks.length = n := ⟨_, rfl⟩
  rw [hn] at hlen
  have HN := Lib.hid hn
  have HGB : Hid (∀ j, goldB (gsL f ((ks.take j).filter (bit p))).1 (gsL f ((ks.take j).filter (bit p))).2 = true) := fun j => gsL_gold HF.out (by
    refine Nat.le_trans (List.length_filter_le _ _) (Nat.le_trans (List.length_take_le' _ _) ?_)
    omega)
  have HGK : Hid (∀ k, goldB (f k).1 (f k).2 = true) := fun k => (HF.out k).gold (by decide)
  have CL := Lib.hid (fun a b c d ha hc w => implPlus a b c d ha hc w)
  clear hp hP hh ho hpz HL HB hf HFF HF hks hn
  go_enter Tryz.func25, Tryz.ntmps25
  go_wp2_with fail
  have B0 := Lib.hid (bxg_new W H z 0 0 w)
  generalize (w.alloc (.cells #[.int .i64 W, .int .i64 H, .int .i64 (z : Int)] 25)).alloc (.cells #[.int .i64 0, .int .i64 0] 43) = W1 at *
  obtain ⟨c0, c1, c2, hlt, hb1⟩ := B0.out.1
  go_wp2_with fail
  refine (C1.out _).mono ?_
  rintro e w1 ⟨rfl, hb⟩
  have B1 := Lib.hid (B0.out.later hb)
  clear hb B0 c0 c1 c2 hlt hb1
  obtain ⟨c0, c1, c2, hlt, hb1⟩ := B1.out.1
  go_wp2_with fail
  refine (C2.out _).mono ?_
  rintro e w2 ⟨rfl, hb⟩
  have B2 := Lib.hid (B1.out.later hb)
  clear hb B1 c0 c1 c2 hlt hb1
  obtain ⟨c0, c1, c2, hlt, hb1⟩ := B2.out.1
  go_wp2_with fail
  refine (CF.out _).mono ?_
  rintro e w3 ⟨g, t, rfl, hd, hg, ht, hb⟩
  have B3 := Lib.hid (B2.out.later hb)
  have hsz2 := row_lt2 B2.out.2
  have hsz3 := hb.size
  have hgt : g < w3.heap.size ∧ t < w3.heap.size := ⟨hd.2.2.1, hd.2.2.2⟩
  have D3 := Lib.hid hd
  clear hb B2 c0 c1 c2 hlt hb1 hd hg ht
  have hba : Below w3.heap.size w3 (w3.alloc (.cells #[.int .i64 0, .int .i64 0] 43)) := (Below.refl _ _).alloc (Nat.le_refl _) _
  have B4 := Lib.hid (B3.out.later hba)
  have D4 := Lib.hid (D3.out.later hba)
  have S4 : Hid (Bg 43 w3.heap.size 0 0 (w3.alloc (.cells #[.int .i64 0, .int .i64 0] 43))) := heap_alloc_new w3 _
  have hq4 : w3.heap.size < (w3.alloc (.cells #[.int .i64 0, .int .i64 0] 43)).heap.size := by simp
  obtain ⟨c0, c1, c2, hlt, hb1⟩ := B4.out.1
  go_wp2_with fail
  generalize w3.alloc (.cells #[.int .i64 0, .int .i64 0] 43) = w4 at *
  have hq : w.heap.size + 1 < w3.heap.size := by omega
  generalize w3.heap.size = q at *
  clear B3 D3 hba hsz2 hsz3
  refine (CH.out _).mono ?_
  rintro e w5 ⟨v, rfl, hh, hb⟩
  rw [HN.out] at hh
  obtain ⟨la, lc, rfl⟩ := int_form hh
  have S5 : Hid (SumD W H z T q g t la n ks 0 0 w w5) := ⟨⟨B4.out.later hb, S4.out.later hb, nats_own hh HN.out hq4, hq⟩, D4.out.later hb, hgt⟩
  clear hb hh c0 c1 c2 hlt hb1 B4 D4 S4 hq4 hq hgt C1 C2 CF CH
  go_wp2_with fail
  go_loopw [29] (fun i wr => ∃ (j : Nat) (x y : Int), j ≤ n ∧ i = .int .i64 j ∧ Hid (gsL f ((ks.take j).filter (bit p)) = (x, y)) ∧ Hid (SumD W H z T q g t la n ks x y w wr)) (fun i _ => n - (intOf i).toNat)
  case atStart => exact ⟨0, 0, 0, Nat.zero_le _, rfl, rfl, S5⟩
  case round =>
    clear S5
    obtain ⟨j, x, y, hj, rfl, HX, HS⟩ := hrel
    by_cases hjn : j < n
    · have j0 : (0 : Int) ≤ (j : Int) := by omega
      have j1 : (j : Int) < (n : Int) := by omega
      obtain ⟨k, hk⟩ : ∃ k, ks[j]? = some k := ⟨_, List.getElem?_eq_getElem (by rw [HN.out]; exact hjn)⟩
      have hk49 := HK.out j k hk
      have HT := Lib.hid (take_one hk)
      obtain ⟨b, rfl, d0⟩ := HS.out.1.2.2.1.cell hjn hk
      have CK := Lib.hid (fun w => CP.out k w hk49)
      have G1 := Lib.hid (HGB.out j)
      rw [HX.out] at G1
      have G2 := Lib.hid (HGK.out k)
      clear hk
      cases hbit : bit p k
      · rw [hbit] at CK
        have HX' : Hid (gsL f ((ks.take (j + 1)).filter (bit p)) = (x, y)) := by unfold Hid; rw [HT.out, List.filter_append]; simp [hbit, HX.out]
        clear hbit HT HX G1 G2
        go_wp2_with fail
        refine (CK.out _).mono ?_
        rintro e w6 ⟨rfl, rfl⟩
        go_wp2_with fail
        go_roundw
        case rel => exact ⟨j + 1, x, y, by omega, by go_num, HX', HS⟩
        case measure => simp [intOf]; omega
      · rw [hbit] at CK
        have HX' : Hid (gsL f ((ks.take (j + 1)).filter (bit p)) = (x + (f k).1, y + (f k).2)) := by
          unfold Hid; rw [HT.out, List.filter_append, show [k].filter (bit p) = [k] by simp [hbit], gsL_snoc, HX.out]
        have CG2 := Lib.hid (fun w (h : DistAt W H z T g t w) => CG.out k g t w h)
        obtain ⟨u, hu⟩ : ∃ u, (f k).1 = u := ⟨_, rfl⟩
        obtain ⟨v, hv⟩ : ∃ v, (f k).2 = v := ⟨_, rfl⟩
        rw [hu, hv] at HX' CG2 G2
        have CL2 := Lib.hid (fun w => CL.out x y u v G1.out G2.out w)
        clear hbit HT HX G1 G2 hu hv
        go_wp2_with fail
        refine (CK.out _).mono ?_
        rintro e w6 ⟨rfl, rfl⟩
        go_wp2_with fail
        refine wp_region_script (by kernel_rfl) (by kernel_rfl) ?_
        refine Script.load (i := 0) (v := ?_) rfl (by kernel_rfl) (by kernel_rfl) (fun _ _ _ h => h) (by kernel_rfl) ?_ ?_
        rotate_left
        · (intro wS hSw; obtain ⟨k0, k1, f0, f1⟩ := two_facts (HS.out.later (After.trans (After.drew (After.refl _)) hSw)).1.2.1; go_simp; try with_reducible rfl)
        try simp only [Act.put, List.getElem_toArray, List.getElem_cons_succ, List.getElem_cons_zero, List.setIfInBounds_toArray, List.set_cons_zero, List.set_cons_succ]
        refine Script.load (i := 1) (v := ?_) rfl (by kernel_rfl) (by kernel_rfl) (fun _ _ _ h => h) (by kernel_rfl) ?_ ?_
        rotate_left
        · (intro wS hSw; obtain ⟨k0, k1, f0, f1⟩ := two_facts (HS.out.later (After.trans (After.drew (After.refl _)) hSw)).1.2.1; go_simp; try with_reducible rfl)
        try simp only [Act.put, List.getElem_toArray, List.getElem_cons_succ, List.getElem_cons_zero, List.setIfInBounds_toArray, List.set_cons_zero, List.set_cons_succ]
        refine Script.load (i := 2) (v := ?_) rfl (by kernel_rfl) (by kernel_rfl) (fun _ _ _ h => h) (by kernel_rfl) ?_ ?_
        rotate_left
        · (intro wS hSw; obtain ⟨k0, k1, f0, f1⟩ := two_facts (HS.out.later (After.trans (After.drew (After.refl _)) hSw)).1.2.1; go_simp; try with_reducible rfl)
        try simp only [Act.put, List.getElem_toArray, List.getElem_cons_succ, List.getElem_cons_zero, List.setIfInBounds_toArray, List.set_cons_zero, List.set_cons_succ]
        refine Script.call (i := 3) (v := ?_) rfl (by kernel_rfl) (by kernel_rfl) (fun _ _ _ h => h) (by kernel_rfl) ?_ ?_
        rotate_left
        · (intro wS hSw K hK; obtain ⟨k0, k1, f0, f1⟩ := two_facts (HS.out.later (After.trans (After.drew (After.refl _)) hSw)).1.2.1; go_simp; go_at_call 64; refine (CG2.out _ (HS.out.later (After.trans (After.drew (After.refl _)) hSw)).2.1).mono ?_; rintro e wc ⟨rfl, hbc⟩; exact hK.out _ hbc)
        try simp only [Act.put, List.getElem_toArray, List.getElem_cons_succ, List.getElem_cons_zero, List.setIfInBounds_toArray, List.set_cons_zero, List.set_cons_succ]
        refine Script.call (i := 4) (v := ?_) rfl (by kernel_rfl) (by kernel_rfl) (fun _ _ _ h => h) (by kernel_rfl) ?_ ?_
        rotate_left
        · (intro wS hSw K hK; obtain ⟨k0, k1, f0, f1⟩ := two_facts (HS.out.later (After.trans (After.drew (After.refl _)) hSw)).1.2.1; go_simp; go_at_call 65; refine (CL2.out _).mono ?_; rintro e wc ⟨rfl, hbc⟩; exact hK.out _ hbc)
        try simp only [Act.put, List.getElem_toArray, List.getElem_cons_succ, List.getElem_cons_zero, List.setIfInBounds_toArray, List.set_cons_zero, List.set_cons_succ]
        refine Script.last (i := 5) rfl (by kernel_rfl) (by kernel_rfl) (by kernel_rfl) ?_
        intro wO hO hGO K hK; have hSw := hO; obtain ⟨k0, k1, f0, f1⟩ := two_facts (HS.out.later (After.trans (After.drew (After.refl _)) hSw)).1.2.1; go_simp
        clear hSw
        refine hK.out undef _ ?_
        clear hK K
        try simp only [Act.put, List.getElem_toArray, List.getElem_cons_succ, List.getElem_cons_zero, List.setIfInBounds_toArray, List.set_cons_zero, List.set_cons_succ]
        refine Script.done (by kernel_rfl) ?_
        intro wD hD hG
        have HS3 := Lib.hid (((HS.out.later (After.trans (After.drew (After.refl _)) hO)).set (x + u) (y + v)).later hD)
        clear HS hO hD hG CG2 CL2 CK d0
        go_wp2_with fail
        go_roundw
        case rel => exact ⟨j + 1, x + u, y + v, by omega, by go_num, HX', HS3⟩
        case measure => simp [intOf]; omega
    · obtain rfl : j = n := by omega
      have hfull : Hid (ks.take j = ks) := List.take_of_length_le (by rw [HN.out]; exact Nat.le_refl _)
      rw [hfull.out] at HX
      obtain ⟨k0, k1, -, -⟩ := two_facts HS.out.1.2.1
      obtain ⟨z0, z1, f0, f1⟩ := two_facts HS.out.1.1.2
      go_wp2_with fail
      exact bodyPost_ret (v := .agg #[.int .i64 x, .int .i64 y]) (by simp [results, Tryz.results25, go_sem, z0, z1]) rfl ⟨by rw [HG.out, HX.out], set_below (set_below HS.out.1.1.1.2.2.2.2 (by omega)) (by omega)⟩
theorem adds_yes {a b c d : Int} (h1 : goldB a b = true) (h2 : goldB c d = true) (h3 : goldB (a + c) (b + d) = true) : addG a b c d = ((a + c, b + d), true) := by
  unfold addG okG; rw [h1, h2, h3]; rfl
/-- The three blocks of the model's sum. -/
theorem sums_new (W H Z : Int) (w : World) : BxG W H Z 0 0 w (((w.alloc (.cells #[.int .i64 W, .int .i64 H, .int .i64 Z] 25)).alloc (.cells #[.int .i64 0, .int .i64 0] 43)).alloc (.cells #[.int .i64 0, .int .i64 0] 43)) ∧
    Bg 43 (w.heap.size + 2) 0 0 (((w.alloc (.cells #[.int .i64 W, .int .i64 H, .int .i64 Z] 25)).alloc (.cells #[.int .i64 0, .int .i64 0] 43)).alloc (.cells #[.int .i64 0, .int .i64 0] 43)) := by
  refine ⟨(bxg_new W H Z 0 0 w).later ((Below.refl _ _).alloc (Nat.le_refl _) _), ?_⟩
  have := heap_alloc_new ((w.alloc (.cells #[.int .i64 W, .int .i64 H, .int .i64 Z] 25)).alloc (.cells #[.int .i64 0, .int .i64 0] 43)) (.cells #[.int .i64 0, .int .i64 0] 43)
  simpa [Bg] using this
end Go.Proofs.YtllfgdcplbfdhaaGreat
