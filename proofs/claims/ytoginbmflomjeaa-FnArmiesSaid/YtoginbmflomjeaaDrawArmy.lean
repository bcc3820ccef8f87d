/- Drawn armies: l13Army, DrawArmy of the model: at most 24 soldiers, all in their range, no two alike, in new memory. -/
import Derived.Test.YtoginbmflomjeaaSoldArgs
import Derived.Test.YtoginbmflomjeaaDraws
import Derived.Test.YtoginbmflomjeaaBoards
namespace Go.Proofs.Ytoginbmflomjeaa
open Go.RowKit
set_option linter.unusedVariables false
set_option linter.unusedSimpArgs false
theorem good_app {xs : List Sd} {s : Sd} (h : goodL xs) (hs : soldB s = true) (hn : ∀ (i : Nat) (t : Sd), i < xs.length → xs[i]? = some t → t ≠ s) : goodL (xs ++ [s]) := by
  have := good_snoc (xs := xs ++ [s]) (k := xs.length) (s := s) (by simpa using h) (by simp) hs (fun i t hi ht => hn i t hi (by rw [List.getElem?_append_left hi] at ht; exact ht))
  rw [List.take_of_length_le (by simp)] at this
  exact this
/-- append(v, s) of one soldier, v owned: the one block with s has just been laid. -/
theorem wpList_append_sold {P : Program} {ops : Array Oper} {rest : List Oper} {o : Oper} {a : Act} {Q : Exit → Act → World → Prop} {w0 : World} {f v0 : Int} (hgd : o.guard = none) (s y : Operand) (t : TypeId)
    (ho : o.op = .call { callee := .builtin .append, args := #[s, y], argTypes := #[t, t] })
    (base : Nat) (e : TypeId) (i : TypeInfo) (z : Value) (ht : P.underlying t = some (.slice e)) (hi : P.info? e = some i) (hz : i.zero = some z)
    (hsize : i.size = 2) (hby : i.bytes = 16) (hzs : z.cells.size = 2)
    (v : Value) (n : Nat) (xs : List Sd) (hs : a.eval s = v) (hown : w0.ownsRow base e 2 v n (sv xs))
    (H : Nat) (hH : w0.heap.size = H) (hx : a.eval y = .slice (some ⟨H, 0, none⟩) 1 1) (hn : n ≤ 1000000000) (hbase : base ≤ w0.heap.size)
    (h : ∀ g cap w', w'.ownsRow base e 2 (.slice (some ⟨g, 0, none⟩) (n + 1) cap) (n + 1) (sv (xs ++ [(f, v0)])) → (w0.alloc (.cells #[.int .i64 f, .int .i64 v0] e)).grownBy w' v.ownBlock → Below base w0 w' → (v.ownBlock = some g ∨ g = H + 1) → wpList P ops Q rest (a.put o.dst (.slice (some ⟨g, 0, none⟩) (n + 1) cap)) w') :
    wpList P ops Q (o :: rest) a (w0.alloc (.cells #[.int .i64 f, .int .i64 v0] e)) := by
  subst hH
  have hnb : (n + 1) * 16 ≤ 140737488355328 := by omega
  refine wpList_append_lies _ hgd s y t ho base e i z 2 16 ht hi hz hsize hby hzs (by decide) v n (sv xs) hs (hown.alloc _) ⟨w0.heap.size, 0, none⟩ 1 1 (sdC (f, v0)) hx rfl
    (World.news_of_block (cs := #[.int .i64 f, .int .i64 v0]) (t := e) (fr := (0, 0)) (heap_alloc_new w0 _)) (by intro u hu; simp [sdC] at hu; rcases hu with rfl | rfl <;> rfl) Nat.one_pos (by unfold maxLen; omega) hnb (by simp; omega) _ rfl ?_
  intro g cap w' h2 h3 h4 _
  refine h g cap w' (by rw [sv_append, sv_one]; exact h2) h3 (((Below.refl base w0).alloc hbase _).grown h3 (by simp; omega) (fun k hk => (hown.lt k hk).1)) (by simpa using h4)
def ArmyPost (w0 : World) (a : Option Addr) (len cap p : Nat) (w : World) (e : Ending) (w' : World) : Prop :=
  ∃ xs v, e = .returned v ∧ goodL xs ∧ xs.length ≤ 24 ∧ w'.ownsRow w.heap.size 37 2 v xs.length (sv xs) ∧ Dr w0 a len cap p w' ∧ w.grownBy w' (some p)
set_option maxHeartbeats 4000000 in
set_option maxRecDepth 100000 in
theorem drawArmyA {w0 : World} {a : Option Addr} {len cap p : Nat} (hcode : CodeAt w0 a len) (w : World) (hd : Dr w0 a len cap p w) :
    Calls Try.prog 29 #[.pointer (some ⟨p, 0, none⟩)] w (ArmyPost w0 a len cap p w) := by
  obtain ⟨i0, hi, hz0, hz1, hz2⟩ : ∃ i, Try.prog.info? 37 = some i ∧ i.zero = some (.agg #[.int .i64 0, .int .i64 0]) ∧ i.size = 2 ∧ i.bytes = 16 := ⟨_, by rfl, by rfl, by rfl, by rfl⟩
  have HCO := Lib.hid hcode
  have hpw := Dr.lt hd
  have HD := Lib.hid hd
  clear hcode hd
  go_enter Try.func29, Try.ntmps29
  go_wp2_with fail
  have hba : Below w.heap.size w (w.alloc (.cells #[] 37)) := (Below.refl _ _).alloc (Nat.le_refl _) _
  have HL1 : Hid ((w.alloc (.cells #[] 37)).ownsRow w.heap.size 37 2 (.slice (some ⟨w.heap.size, 0, none⟩) 0 0) 0 (sv [])) := World.ownsRow_made w #[] 0 (Nat.le_refl _) (by unfold maxLen; omega) rfl
  have HD1 := Lib.hid (HD.out.below hba)
  have HG1 : Hid (w.grownBy (w.alloc (.cells #[] 37)) (some p)) := grown_then (World.grownBy.refl _ _) hba (Nat.le_refl _)
  have hs1 : w.heap.size ≤ (w.alloc (.cells #[] 37)).heap.size := hba.size
  generalize w.alloc (.cells #[] 37) = w1 at *
  clear hba HD
  refine (below (cap := cap) (p := p) HCO.out 24 _ HD1.out (by omega) (by omega)).mono ?_
  rintro e w2 ⟨n, hn, rfl, hd, hg⟩
  have hn24 : n < 24 := by omega
  have HL2 := Lib.hid (own_kept HL1.out hg hpw)
  have HD2 := Lib.hid hd
  have HG2 := Lib.hid (HG1.out.trans hg)
  clear hd hg HL1 HD1 HG1 hs1 hn
  go_wp2_with fail
  go_loopw [3, 5] (fun s i wr => ∃ (k m : Nat) (v : Value) (xs : List Sd), k ≤ n ∧ m ≤ k ∧ i = .int .i64 k ∧ v = s ∧ Hid (xs.length = m ∧ goodL xs) ∧ Hid (wr.ownsRow w.heap.size 37 2 v m (sv xs)) ∧ Hid (Dr w0 a len cap p wr) ∧ Hid (w.grownBy wr (some p))) (fun _ i _ => n - (intOf i).toNat)
  case atStart => exact ⟨0, 0, _, [], Nat.zero_le _, Nat.le_refl _, rfl, rfl, ⟨rfl, good_nil⟩, HL2, HD2, HG2⟩
  case round =>
    clear HL2 HD2 HG2
    obtain ⟨k, m, v, xs, hk, hm, rfl, rfl, HX, HL, HD, HG⟩ := hrel
    by_cases hkn : k < n
    · have k0 : (0 : Int) ≤ (k : Int) := by omega
      have k1 : (k : Int) < (n : Int) := by omega
      go_wp2_with fail
      refine (below (cap := cap) (p := p) HCO.out 7 _ HD.out (by omega) (by omega)).mono ?_
      rintro e w3 ⟨x, hx, rfl, hd, hg⟩
      have HL3 := Lib.hid (own_kept HL.out hg hpw)
      have HD3 := Lib.hid hd
      have HG3 := Lib.hid (HG.out.trans hg)
      clear hd hg HL HD HG
      have x0 : (0 : Int) ≤ (x : Int) := by omega
      go_wp2_with fail
      refine (below (cap := cap) (p := p) HCO.out 4 _ HD3.out (by omega) (by omega)).mono ?_
      rintro e w4 ⟨y, hy, rfl, hd, hg⟩
      have HL4 := Lib.hid (own_kept HL3.out hg hpw)
      have HD4 := Lib.hid hd
      have HG4 := Lib.hid (HG3.out.trans hg)
      clear hd hg HL3 HD3 HG3
      have y0 : (0 : Int) ≤ (y : Int) := by omega
      have hsold : Hid (soldB ((x : Int) - 3, (y : Int)) = true) := by
        unfold Hid soldB
        simp only [inB, Bool.and_eq_true, decide_eq_true_eq]
        omega
      have hba : Below w4.heap.size w4 (w4.alloc (.cells #[.int .i64 ((x : Int) - 3), .int .i64 (y : Int)] 37)) := (Below.refl _ _).alloc (Nat.le_refl _) _
      have HL5 := Lib.hid (own_below HL4.out hba)
      have HD5 := Lib.hid (HD4.out.below hba)
      have HG5 : Hid (w.grownBy (w4.alloc (.cells #[.int .i64 ((x : Int) - 3), .int .i64 (y : Int)] 37)) (some p)) := grown_then HG4.out hba HG4.out.size
      have HQ5 : Hid (Bg 37 w4.heap.size ((x : Int) - 3) y (w4.alloc (.cells #[.int .i64 ((x : Int) - 3), .int .i64 (y : Int)] 37))) := heap_alloc_new w4 _
      obtain ⟨va, vc, rfl⟩ := solds_form HL5.out
      go_wp2_with fail
      generalize w4.alloc (.cells #[.int .i64 ((x : Int) - 3), .int .i64 (y : Int)] 37) = w5 at *
      generalize w4.heap.size = q at *
      generalize (x : Int) - 3 = x3 at *
      have HS5 := Lib.hid (solds_own HL5.out HX.out.1)
      clear hba HL4 HD4 HG4
      go_loopw [7, 8] (fun s i wr => ∃ (j : Nat) (b : Bool), j ≤ m ∧ i = .int .i64 j ∧ s = .bool b ∧ Hid (b = false → ∀ (i : Nat) (t : Sd), i < j → xs[i]? = some t → t ≠ (x3, (y : Int))) ∧ Hid (Below w5.heap.size w5 wr)) (fun _ i _ => m - (intOf i).toNat)
      case atStart => exact ⟨0, false, Nat.zero_le _, rfl, rfl, fun _ i t h => absurd h (Nat.not_lt_zero _), Below.refl _ _⟩
      case round =>
        obtain ⟨j, b, hj, rfl, rfl, HNo, HW⟩ := hrel
        by_cases hjm : j < m
        · have j0 : (0 : Int) ≤ (j : Int) := by omega
          have j1 : (j : Int) < (m : Int) := by omega
          cases b
          · obtain ⟨⟨u, t⟩, ht⟩ : ∃ s, xs[j]? = some s := ⟨_, List.getElem?_eq_getElem (by rw [HX.out.1]; exact hjm)⟩
            obtain ⟨bb, off, rfl, -, hc⟩ := (HS5.out.later HW.out).cell hjm
            obtain ⟨c0, c1⟩ := hc j _ ht
            obtain ⟨d0, d1, -, -⟩ := two_facts (HQ5.out.later HW.out)
            simp only at c0 c1
            have HNext : Hid ((u, t) ≠ (x3, (y : Int)) → ∀ (i : Nat) (s : Sd), i < j + 1 → xs[i]? = some s → s ≠ (x3, (y : Int))) := fun hne i s hi hs => by
              rcases Nat.lt_or_ge i j with h' | h'
              · exact HNo.out rfl i s h' hs
              · obtain rfl : i = j := by omega
                rw [ht] at hs; cases hs; exact hne
            have HW2 := Lib.hid (fun q => below_drewN q HW.out)
            clear ht hc HNo
            by_cases e0 : u = x3
            · by_cases e1 : t = (y : Int)
              · clear HNext
                go_wp2_with fail
                go_quiet (fail)
                go_wp2_with fail
                go_roundw
                case rel => exact ⟨j + 1, true, by omega, by go_num, rfl, fun h => (by cases h), HW2.out _⟩
                case measure => simp [intOf]; omega
              · have HR := Lib.hid (HNext.out (fun e => e1 (by injection e)))
                clear HNext
                go_wp2_with fail
                go_quiet (fail)
                go_wp2_with fail
                go_roundw
                case rel => exact ⟨j + 1, false, by omega, by go_num, rfl, fun _ => HR.out, HW2.out _⟩
                case measure => simp [intOf]; omega
            · have HR := Lib.hid (HNext.out (fun e => e0 (by injection e)))
              clear HNext
              go_wp2_with fail
              go_quiet (fail)
              go_wp2_with fail
              go_roundw
              case rel => exact ⟨j + 1, false, by omega, by go_num, rfl, fun _ => HR.out, HW2.out _⟩
              case measure => simp [intOf]; omega
          · have HW2 := Lib.hid (fun q => below_drewN q HW.out)
            go_wp2_with fail
            go_quiet (fail)
            go_wp2_with fail
            go_roundw
            case rel => exact ⟨j + 1, true, by omega, by go_num, rfl, fun h => (by cases h), HW2.out _⟩
            case measure => simp [intOf]; omega
        · obtain rfl : j = m := by omega
          have HL6 := Lib.hid (own_below HL5.out HW.out)
          have HD6 := Lib.hid (HD5.out.below HW.out)
          have HG6 : Hid (w.grownBy wr (some p)) := grown_then HG5.out HW.out HG5.out.size
          cases b
          · have hgood : Hid (goodL (xs ++ [(x3, (y : Int))])) := good_app HX.out.2 hsold.out (fun i t hi ht => HNo.out rfl i t (by rw [← HX.out.1]; exact hi) ht)
            have hlen : Hid ((xs ++ [(x3, (y : Int))]).length = j + 1) := by unfold Hid; rw [List.length_append, HX.out.1]; rfl
            obtain ⟨d0, d1, -, -⟩ := two_facts (HQ5.out.later HW.out)
            have hln : j ≤ 1000000000 := by omega
            have hbz : w.heap.size ≤ wr.heap.size := HG6.out.size
            clear HNo HL5 HD5 HG5 HS5 HQ5 HW
            go_wp2_with (at_builtin; refine wpList_append_sold rfl (.tmp 40) (.tmp 42) 24 rfl w.heap.size 37 i0 (.agg #[.int .i64 0, .int .i64 0]) Try.underlying24 hi hz0 hz1 hz2 rfl _ _ xs rfl HL6.out _ rfl rfl hln hbz ?_; intro g' cap' w8 hown' hgrow hb2 hat)
            have HL8 := Lib.hid hown'
            have HD8 := Lib.hid (Dr.kept HD6.out hb2 hpw)
            have HG8 : Hid (w.grownBy w8 (some p)) := grown_then HG6.out hb2 (Nat.le_refl _)
            clear hown' hgrow hb2 hat HL6 HD6 HG6
            go_wp2_with fail
            go_roundw
            case rel => exact ⟨k + 1, j + 1, _, _, by omega, by omega, by go_num, rfl, ⟨hlen.out, hgood.out⟩, HL8, HD8, HG8⟩
            case measure => simp [intOf]; omega
          · clear HNo HL5 HD5 HG5 HS5 HQ5 HW
            go_wp2_with fail
            go_roundw
            case rel => exact ⟨k + 1, j, _, xs, by omega, by omega, by go_num, rfl, HX, HL6, HD6, HG6⟩
            case measure => simp [intOf]; omega
    · obtain rfl : k = n := by omega
      have hp : Hid (ArmyPost w0 a len cap p w (.returned v) wr) := ⟨xs, v, rfl, HX.out.2, by rw [HX.out.1]; omega, by rw [HX.out.1]; exact HL.out, HD.out, HG.out⟩
      clear HL HD HG
      go_wp2_with fail
      go_ret
      exact hp.out
/-- What DrawArmy hands over. -/
def ArmyAt (w : World) (e : Ending) (w' : World) : Prop := ∃ xs v, e = .returned v ∧ goodL xs ∧ xs.length ≤ 24 ∧ w'.ownsRow w.heap.size 37 2 v xs.length (sv xs) ∧ Below w.heap.size w w'
set_option maxRecDepth 100000 in
theorem drawArmy {a : Option Addr} {len cap : Nat} (w : World) (hcode : CodeAt w a len) : Calls Try.prog 10 #[.slice a len cap] w (ArmyAt w) := by
  have HCO := Lib.hid hcode
  clear hcode
  go_enter Try.func10, Try.ntmps10
  go_wp2_with fail
  refine (curNew _ HCO.out).mono ?_
  rintro e w1 ⟨p, rfl, hd⟩
  have HD := Lib.hid hd
  have hs := hd.2.1.size
  clear hd
  go_wp2_with fail
  refine (drawArmyA HCO.out _ HD.out).mono ?_
  rintro e w2 ⟨xs, v, rfl, hg, hn, ho, hd, -⟩
  have HP : Hid (ArmyAt w (.returned v) w2) := ⟨xs, v, rfl, hg, hn, own_base ho hs, hd.2.1⟩
  clear hg hn ho hd
  go_wp2_with fail
  go_ret
  exact HP.out
end Go.Proofs.Ytoginbmflomjeaa
