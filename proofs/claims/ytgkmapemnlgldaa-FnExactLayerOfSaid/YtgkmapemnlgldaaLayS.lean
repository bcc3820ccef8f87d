/- The layer one step behind another, of the program: a map that is ranged over while another one grows; a layer's numbers in order. -/
import Derived.Test.YtgkmapemnlgldaaLayK
import Derived.Maps.RangeWalk
namespace Go.Proofs.Ytgkmapemnlgldaa
open Go.RowKit Go.Conc Go.Sort Go.Maps
set_option linter.unusedVariables false
set_option linter.unusedSimpArgs false
/-- maps.Keys of a layer. -/
theorem keysLayer (mb : Option Nat) (W : World) : Calls Try.prog 69 #[.map mb] W fun e w' => e = .returned (.func (.func 83) #[] #[.pointer (some ⟨W.heap.size, 0, none⟩)]) ∧ w' = W.alloc (.cells #[.map mb] 54) :=
  (callsIn_wide (n := 5)).1 (AnyZI.keys_in Try.laysZI7 Fence.wide 5 trivial rfl mb W)
/-- slices.Sorted of maps.Keys of a layer. -/
theorem sortedLayer {w : World} {b : Nat} {T L : List Nat} (hk : KeysAt w b T) (hT : T.Nodup) (h65 : T.length ≤ 65536) (hlt : ∀ q ∈ T, q ≤ 65536) (hL : L.Pairwise (· < ·)) (hm : ∀ q, q ∈ T ↔ q ∈ L) :
    Calls Try.prog 68 #[.func (.func 83) #[] #[.pointer (some ⟨w.heap.size, 0, none⟩)]] (w.alloc (.cells #[.map (some b)] 54)) (OwnInts L (w.alloc (.cells #[.map (some b)] 54))) := by
  obtain ⟨l, hst, hkeys, -⟩ := hk
  have hlen : l.length = T.length := by rw [← zl_len, ← hkeys, List.length_map]
  obtain ⟨D0, hown, hperm, hsize⟩ := stm_owns (P := Try.prog) Try.underlying3 hst (by rw [hkeys]; exact zl_nodup hT) (by unfold maxLen; omega) (fun p hp => by
    have : p.1 ∈ zl T := by rw [← hkeys]; exact List.mem_map.2 ⟨p, hp, rfl⟩
    obtain ⟨q, hq, e⟩ := List.mem_map.1 this
    have := hlt q hq
    rw [← e]
    show (decide (IntKind.i64.min ≤ (q : Int)) && decide ((q : Int) ≤ IntKind.i64.max)) = true
    rw [Bool.and_eq_true, decide_eq_true_eq, decide_eq_true_eq]
    exact ⟨show (-9223372036854775808 : Int) ≤ (q : Int) by omega, show (q : Int) ≤ (9223372036854775807 : Int) by omega⟩)
  rw [hkeys] at hperm
  have hseq : SeqGives Fence.wide 2 Try.prog 83 #[.pointer (some ⟨w.heap.size, 0, none⟩)] encZ (fun ss => ss.Perm (intKeys D0)) (Maps.size D0) (w.alloc (.cells #[.map (some b)] 54)) :=
    AnyZI.keys_gives (ρ := Try.laysZI7_ren) { Try.laysZI7 with } Fence.wide _ trivial rfl (by omega) w.heap.size b l.length D0 _ (by simp) (by simp) (hown.alloc _)
  have cS := AnyZI.sorted_in Try.laysZI6 Fence.wide 5 trivial trivial trivial trivial rfl (by omega) (sortsHere _) (enters_of Try.func82 (by kernel_rfl) rfl) 83 #[.pointer (some ⟨w.heap.size, 0, none⟩)] trivial (enters_of Try.func83 (by kernel_rfl) rfl) _ _ (by rw [hsize, hlen]; unfold maxLen; omega) (by rw [hsize, hlen]; omega) _ hseq
  refine ((callsIn_wide (n := 5)).1 cS).mono ?_
  rintro e w' ⟨v, ss, rfl, hS, hrow, -, hb⟩
  have hms : (ss.mergeSort fun x y => decide (x ≤ y)) = zl L := (mergeSort_of_perm_i (hS.trans hperm)).trans (sort_nats hT hL hm)
  have hsl : ss.length = L.length := by
    rw [(hS.trans hperm).length_eq, zl_len]
    exact ((List.perm_ext_iff_of_nodup hT (hL.imp (fun h => Nat.ne_of_lt h))).2 hm).length_eq
  rw [hms, show (zl L).map encZ = Ints L from zl_ints L, hsl] at hrow
  exact ⟨v, rfl, hrow, hb⟩
/-- Which jumps fit: a function as a value. -/
def fitF (back : Bool) : Nat := if back = true then 44 else 41
/-- The state of the step: the old layer (block mb) with what is still to come of it, the new one (block fb), the lines. -/
structure LySt (w0 : World) (mb fb rb nl : Nat) (la : Option Addr) (ls : List Ln) (xs T todo : List Nat) (w : World) : Prop where
  now : KeysLeft w mb rb xs todo
  keys : KeysAt w fb T
  lines : LnsAt la nl ls w0.heap.size w0.heap.size w
  mbl : mb < w0.heap.size
  fbl : w0.heap.size ≤ fb
  rbl : w0.heap.size ≤ rb
  ne : rb ≠ fb
  below : Below w0.heap.size w0 w
section
variable {w0 w w' : World} {mb fb rb nl : Nat} {la : Option Addr} {ls : List Ln} {xs T todo : List Nat}
theorem LySt.later (h : LySt w0 mb fb rb nl la ls xs T todo w) (hb : Below w.heap.size w w') : LySt w0 mb fb rb nl la ls xs T todo w' := by
  have hs := h.below.size
  exact ⟨h.now.later hb, h.keys.later hb, h.lines.turn (fun g _ hg => hb.block g (by omega)), h.mbl, h.fbl, h.rbl, h.ne, h.below.trans (hb.mono hs)⟩
theorem LySt.put (h : LySt w0 mb fb rb nl la ls xs T todo w) {r : Nat} (hk : KeysAt w' fb (putN T r)) (hg : w.grownBy w' (some fb)) : LySt w0 mb fb rb nl la ls xs (putN T r) todo w' := by
  have hs := h.below.size
  have h1 := h.mbl
  have h2 := h.fbl
  have h3 := h.ne
  exact ⟨h.now.kept hg (by intro e; cases e; omega) (by intro e; cases e; exact h3 rfl), hk, h.lines.turn (fun g _ hg' => hg.block g (by omega) (by intro e; cases e; omega)), h1, h2, h.rbl, h3, h.below.grown hg hs (fun k e => by cases e; exact h2)⟩
theorem LySt.next (h : LySt w0 mb fb rb nl la ls xs T todo w) {todo' : List Nat} (hk : KeysLeft w' mb rb xs todo') (hg : w.grownBy w' (some rb)) : LySt w0 mb fb rb nl la ls xs T todo' w' := by
  have hs := h.below.size
  have h1 := h.mbl
  have h2 := h.rbl
  have h3 := h.ne
  exact ⟨hk, h.keys.kept hg (by intro e; cases e; exact h3 rfl), h.lines.turn (fun g _ hg' => hg.block g (by omega) (by intro e; cases e; omega)), h1, h.fbl, h2, h3, h.below.grown hg hs (fun k e => by cases e; exact h2)⟩
end
/-- A layer as a map of the call's own. -/
def OwnLayer (L : List Nat) (w : World) (e : Ending) (w' : World) : Prop := ∃ fb T, e = .returned (.map (some fb)) ∧ KeysAt w' fb T ∧ T.Nodup ∧ (∀ q, q ∈ T ↔ q ∈ L) ∧ w.heap.size ≤ fb ∧ Below w.heap.size w w'
set_option maxHeartbeats 8000000 in
set_option maxRecDepth 100000 in
theorem implNext {a b N z : Nat} (back : Bool) (ho : Ok (a : Int) (b : Int) N z) {nl lc mb : Nat} {la : Option Addr} {xs : List Nat} (hxs : ∀ q ∈ xs, Part q z) (hnl : (lnsOf (a : Int) b z).length = nl) (w : World) (hk : KeysAt w mb xs) (hl : LnsAt la nl (lnsOf (a : Int) b z) w.heap.size w.heap.size w) :
    Calls Try.prog 40 #[.map (some mb), .slice la nl lc, .func (.func (fitF back)) #[] #[]] w (OwnLayer (nextK (stepL back (lnsOf (a : Int) b z)) (2 ^ N) xs) w) := by
  have hmm := @run_makeMap Try.prog
  obtain ⟨hN, ha, -, -, -, h49⟩ := ho.nat
  have HLen : nl ≤ 196 := by rw [← hnl]; exact lnsOf_le _ _ _
  have HMem : Hid (∀ l ∈ lnsOf (a : Int) b z, ∃ f o t, LnAt a b z l f o t) := fun l hl => mem_at hN ha (by rw [← lnsOf_ok ho]; exact hl)
  have HBig : Hid (∀ q ∈ xs, q < 562949953421312) := fun q hq => (hxs q hq).big ho
  have HEnd : Hid (∀ T : List Nat, (∀ r ∈ T, ∃ p ∈ xs, r ∈ stepL back (lnsOf (a : Int) b z) p) → (∀ p ∈ xs, ∀ r ∈ stepL back (lnsOf (a : Int) b z) p, r ∈ T) → ∀ q, q ∈ T ↔ q ∈ nextK (stepL back (lnsOf (a : Int) b z)) (2 ^ N) xs) := fun T h1 h2 q => by
    rw [mem_nextK]
    constructor
    · intro h
      obtain ⟨p, hp, hq⟩ := h1 q h
      exact ⟨part_lt (step_part ho (hxs p hp) hq) ho.zlt, p, hp, hq⟩
    · rintro ⟨-, p, hp, hq⟩
      exact h2 p hp q hq
  have CF : Hid (∀ (p f o t : Nat), f < 49 → o < 49 → t < 49 → ∀ w, Calls Try.prog (fitF back) #[.int .i64 p, .agg #[.int .i64 f, .int .i64 o, .int .i64 t]] w (QB (if back = true then aftN p f o t else befN p f o t) w)) := fun p f o t hf ho ht w => by
    cases back
    · exact implBef p f o t hf ho ht w
    · exact implAft p f o t hf ho ht w
  have HNL : Hid ((lnsOf (a : Int) b z).length = nl) := hnl
  have HFit : ∃ k, fitF back = k ∧ (k = 44 ∨ k = 41) := ⟨_, rfl, by cases back; exact .inr rfl; exact .inl rfl⟩
  obtain ⟨L, hL⟩ : ∃ L, nextK (stepL back (lnsOf (a : Int) b z)) (2 ^ N) xs = L := ⟨_, rfl⟩
  rw [hL] at HEnd ⊢
  generalize lnsOf (a : Int) b z = ls at *
  obtain ⟨st, hst⟩ : ∃ st, stepL back ls = st := ⟨_, rfl⟩
  have HSt : Hid (∀ q r, r ∈ st q ↔ ∃ l ∈ ls, hitL back q l = true ∧ (flipL q l).toNat = r) := fun q r => by rw [← hst]; exact mem_step
  rw [hst] at HEnd
  have HK := Lib.hid hk
  have HL := Lib.hid hl
  have hmbl := hk.lt
  clear hst hL hxs hnl hk hl ho
  obtain ⟨k, hk, hor⟩ := HFit
  rw [hk] at CF ⊢
  rcases hor with rfl | rfl
  all_goals
    clear hk
    have HE0 : Hid (KeysAt (w.alloc (.map #[] 0)) w.heap.size []) := KeysAt.made w
    have hb0 : Below w.heap.size w (w.alloc (.map #[] 0)) := (Below.refl _ w).alloc (Nat.le_refl _) _
    have hs0 : (w.alloc (.map #[] 0)).heap.size = w.heap.size + 1 := by simp
    have HK0 := Lib.hid (HK.out.later hb0)
    have HL0 : Hid (LnsAt la nl ls w.heap.size w.heap.size (w.alloc (.map #[] 0))) := HL.out.turn fun g _ hg => hb0.block g hg
    have HB0 := Lib.hid hb0
    clear hb0
    have hmm1 := hmm 54 w
    obtain ⟨W1, hW1⟩ : ∃ W1, w.alloc (.map #[] 0) = W1 := ⟨_, rfl⟩
    rw [hW1] at HE0 hs0 HK0 HL0 HB0 hmm1
    obtain ⟨w2, hrun2, hr2, hb2, hs2⟩ := HK0.out.range (P := Try.prog) Try.underlying54
    rw [hs0] at hrun2 hr2
    have HS2 : Hid (LySt w mb w.heap.size (w.heap.size + 1) nl la ls xs [] xs w2) := ⟨hr2, HE0.out.later hb2, HL0.out.turn (fun g _ hg => hb2.block g (by omega)), hmbl, Nat.le_refl _, by omega, by omega, HB0.out.trans (hb2.mono (by omega))⟩
    clear hr2 hb2 hs2 hs0 HE0 HK0 HL0 HB0 hmm hW1
    go_enter Try.func40, Try.ntmps40
    go_wp2_with fail
    clear hrun2 hmm1
    generalize w.heap.size + 1 = rb at *
    clear hmbl
    go_loopw [8] (fun _ wr => ∃ (D todo T : List Nat), Hid ((D ++ todo).Perm xs) ∧ Hid T.Nodup ∧ Hid (∀ r ∈ T, ∃ p ∈ xs, r ∈ st p) ∧ Hid (∀ p ∈ D, ∀ r ∈ st p, r ∈ T) ∧ Hid (LySt w mb w.heap.size rb nl la ls xs T todo wr)) (fun _ wr => wr.rangeLeft mb rb)
    case atStart => exact ⟨[], xs, [], List.Perm.refl _, List.nodup_nil, fun r h => absurd h (by simp), fun p h => absurd h (by simp), HS2⟩
    case round =>
      clear HS2
      obtain ⟨D, todo, T, HP, HN, HT, HD, HS⟩ := hrel
      have hnow := HS.out.now
      have HLe : Hid (wr.rangeLeft mb rb = todo.length) := hnow.left_eq
      rcases hnow.next (P := Try.prog) 0 with ⟨h0, hrun⟩ | ⟨A, q0, v, B, w1, hA, hrun, hr1, hg1, hs1, hen⟩
      · subst h0
        have HF : Hid (OwnLayer L w (.returned (.map (some w.heap.size))) wr) := ⟨_, T, rfl, HS.out.keys, HN.out, HEnd.out T HT.out (fun p hp => HD.out p (by have := HP.out; rw [List.append_nil] at this; exact this.mem_iff.2 hp)), Nat.le_refl _, HS.out.below⟩
        clear hnow HS HP HN HT HD HLe
        go_wp2_with fail
        go_ret
        exact HF.out
      · have HS1 := Lib.hid (HS.out.next hr1 hg1)
        have HP1 : Hid (((D ++ [q0]) ++ (A ++ B)).Perm xs) := left_step (by rw [← hA]; exact HP.out)
        have HLt : Hid ((A ++ B).length < todo.length) := by unfold Hid; rw [hA]; simp
        have hq0 : q0 ∈ xs := HP.out.mem_iff.1 (by rw [hA]; simp)
        have HQ0 := Lib.hid hq0
        have HQB := Lib.hid (HBig.out q0 hq0)
        obtain ⟨todo', htd⟩ : ∃ l, A ++ B = l := ⟨_, rfl⟩
        rw [htd] at HS1 HP1 HLt
        clear hA hr1 hg1 hs1 hnow HS HP hq0 htd
        go_wp2_with fail
        clear hen hrun
        go_loopw [20] (fun i wr => ∃ (i' : Nat) (T : List Nat), i' ≤ nl ∧ i = .int .i64 i' ∧ Hid T.Nodup ∧ Hid (∀ r ∈ T, ∃ p ∈ xs, r ∈ st p) ∧ Hid (∀ p ∈ D, ∀ r ∈ st p, r ∈ T) ∧ Hid (∀ l ∈ ls.take i', hitL back q0 l = true → (flipL q0 l).toNat ∈ T) ∧ Hid (LySt w mb w.heap.size rb nl la ls xs T todo' wr)) (fun i _ => nl - (intOf i).toNat)
        case atStart => exact ⟨0, T, Nat.zero_le _, rfl, HN, HT, HD, fun l hl => absurd hl (by simp), HS1⟩
        case round =>
          clear HN HT HD HS1
          obtain ⟨i, T, hi, rfl, HN, HT, HD, HE, HS⟩ := hrel
          by_cases hin : i < nl
          · have i0' : (0 : Int) ≤ (i : Int) := by omega
            have i1' : (i : Int) < (nl : Int) := by omega
            obtain ⟨l, hl⟩ : ∃ l, ls[i]? = some l := ⟨_, List.getElem?_eq_getElem (by rw [HNL.out]; exact hin)⟩
            have hlm := List.mem_of_getElem? hl
            obtain ⟨f, o, t, S⟩ := HMem.out l hlm
            obtain ⟨gl, rfl, hgl1, hgl2, e0, e1, e2⟩ := HS.out.lines.get hl
            have hle := S.eq
            have hf49 : f < 49 := Nat.lt_of_lt_of_le S.fN h49
            have ho49 : o < 49 := Nat.lt_of_lt_of_le S.oN h49
            have ht49 : t < 49 := Nat.lt_of_lt_of_le S.tN h49
            have CBf := Lib.hid (fun w => CF.out q0 f o t hf49 ho49 ht49 w)
            have CFl := Lib.hid (fun w => implFlip q0 f o t HQB.out hf49 ho49 ht49 w)
            obtain ⟨h1, h2⟩ := hit_at (back := back) (p := q0) S
            obtain ⟨cb, hcb⟩ : ∃ cb, (if back = true then aftN q0 f o t else befN q0 f o t) = cb := ⟨_, rfl⟩
            obtain ⟨r, hr⟩ : ∃ r, flipN q0 f o t = r := ⟨_, rfl⟩
            rw [hcb] at CBf h1
            rw [hr] at CFl h2
            have HN2 : Hid (∀ l ∈ ls.take (i + 1), hitL back q0 l = true → l ∈ ls.take i ∨ (cb = true ∧ (flipL q0 l).toNat = r)) := fun l' hl' hh' => by
              rw [take_one hl, List.mem_append, List.mem_singleton] at hl'
              rcases hl' with hl' | rfl
              · exact .inl hl'
              · exact .inr ⟨by rw [← h1]; exact hh', by rw [h2, Int.toNat_natCast]⟩
            have HRst : Hid (cb = true → r ∈ st q0) := fun e => (HSt.out q0 r).2 ⟨l, hlm, by rw [h1]; exact e, by rw [h2, Int.toNat_natCast]⟩
            rw [hle] at e0 e1 e2
            have hbl : Below wr.heap.size wr (wr.alloc (.cells #[.int .i64 (f : Int), .int .i64 (o : Int), .int .i64 (t : Int)] 76)) := (Below.refl _ _).alloc (Nat.le_refl _) _
            have HSa := Lib.hid (HS.out.later hbl)
            have hpl : wr.heap.size < (wr.alloc (.cells #[.int .i64 (f : Int), .int .i64 (o : Int), .int .i64 (t : Int)] 76)).heap.size := by simp
            have hrow := heap_alloc_new wr (.cells #[.int .i64 (f : Int), .int .i64 (o : Int), .int .i64 (t : Int)] 76)
            obtain ⟨x0, x1, x2, -, -, -⟩ := row_facts hrow
            clear hl hlm hle S h1 h2 hcb hr hbl HS hf49 ho49 ht49
            go_wp2_with fail
            clear e0 e1 e2 x0 x1 x2
            generalize wr.alloc (.cells #[.int .i64 (f : Int), .int .i64 (o : Int), .int .i64 (t : Int)] 76) = wa at *
            refine (CBf.out _).mono ?_
            rintro e wb ⟨rfl, hb⟩
            have HSb := Lib.hid (HSa.out.later hb)
            have hrow2 := row_later hrow hb hpl
            have hpl2 : wr.heap.size < wb.heap.size := Nat.lt_of_lt_of_le hpl hb.size
            clear HSa hrow hb hpl CBf
            cases cb
            · clear hrow2 hpl2
              go_wp2_with fail
              go_roundw
              case rel => exact ⟨i + 1, T, by omega, by go_num, HN, HT, HD, (fun l' hl' hh' => (HN2.out l' hl' hh').elim (fun h => HE.out l' h hh') (fun h => (by cases h.1))), HSb⟩
              case measure => simp [intOf]; omega
            · obtain ⟨r0, r1, r2, -, -, -⟩ := row_facts hrow2
              go_wp2_with fail
              refine (CFl.out _).mono ?_
              rintro e wc ⟨rfl, hb⟩
              have HSc := Lib.hid (HSb.out.later hb)
              have hrst := HRst.out (by simp)
              obtain ⟨wd, hput, hk2, hg2⟩ := HSc.out.keys.put (P := Try.prog) (K := 3) (E := 4) (T := 54) (key_int Try.underlying3) Try.underlying54 r
              have HSd := Lib.hid (HSc.out.put hk2 hg2)
              have HN3 := Lib.hid (putN_nodup (x := r) HN.out)
              have HT3 : Hid (∀ r' ∈ putN T r, ∃ p ∈ xs, r' ∈ st p) := fun r' h' => by
                rcases mem_putN.1 h' with h' | h'
                · exact HT.out r' h'
                · rw [h']; exact ⟨q0, HQ0.out, hrst⟩
              have HD3 : Hid (∀ p ∈ D, ∀ r' ∈ st p, r' ∈ putN T r) := fun p hp r' hr' => mem_putN.2 (.inl (HD.out p hp r' hr'))
              have HE3 : Hid (∀ l ∈ ls.take (i + 1), hitL back q0 l = true → (flipL q0 l).toNat ∈ putN T r) := fun l' hl' hh' => (HN2.out l' hl' hh').elim (fun h => mem_putN.2 (.inl (HE.out l' h hh'))) (fun h => mem_putN.2 (.inr h.2))
              clear HSb HSc hk2 hg2 hrst HRst HN2 HN HT HD HE hb hrow2 hpl2 r0 r1 r2 CFl
              go_wp2_with fail
              clear hput
              go_roundw
              case rel => exact ⟨i + 1, putN T r, by omega, by go_num, HN3, HT3, HD3, HE3, HSd⟩
              case measure => simp [intOf]; omega
          · obtain rfl : i = nl := by omega
            have hfull : Hid (ls.take i = ls) := List.take_of_length_le (by rw [HNL.out]; exact Nat.le_refl _)
            rw [hfull.out] at HE
            have HD2 : Hid (∀ p ∈ D ++ [q0], ∀ r ∈ st p, r ∈ T) := fun p hp r hr => by
              rw [List.mem_append, List.mem_singleton] at hp
              rcases hp with hp | rfl
              · exact HD.out p hp r hr
              · obtain ⟨l, hl, h1, h2⟩ := (HSt.out p r).1 hr
                rw [← h2]; exact HE.out l hl h1
            clear HD HE
            go_wp2_with fail
            go_roundw
            case rel => exact ⟨D ++ [q0], todo', T, HP1, HN, HT, HD2, HS⟩
            case measure => rw [HS.out.now.left_eq, HLe.out]; exact HLt.out
end Go.Proofs.Ytgkmapemnlgldaa
