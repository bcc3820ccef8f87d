/- The law FnExactTurnGame returns true for every slice of lines: the program and the model give the same list, in new memory that no second call touches, and the slice is left as it was. No condition. -/
import Derived.Test.YtdahihdinambgaaRows
import Derived.WalkKit
import Derived.WalkSpells
import Derived.ProofKit
import Derived.OpenShut
import Derived.ShutString
import Derived.ChangeOld
import Derived.Below
import Derived.Lib.Hide
import Derived.Lib.SmallJoins
import Derived.ChangeArms
import Derived.Test.YtdahihdinambgaaTurnA
import Derived.Test.YtdahihdinambgaaBoards
namespace Go.Proofs.Ytdahihdinambgaa.fnExactTurnGame
open Go.ChangeShapes Go.WideShapes Go.ChangeAt Go.RowKit
open Go.ChangeMaps (open_string shut_string)
set_option linter.unusedVariables false
set_option linter.unusedSimpArgs false
theorem own : ownKnob Try.prog.godebug = none := by kernel_rfl
theorem laidOut : laidOutB Try.prog = true := by kernel_rfl
theorem apart_symm {a b : Option Nat} (h : a = none ∨ a ≠ b) : b = none ∨ b ≠ a := by
  rcases h with rfl | h
  · cases b
    · exact .inl rfl
    · exact .inr (by simp)
  · exact .inr fun e => h e.symm
set_option maxHeartbeats 2000000 in
set_option maxRecDepth 100000 in
theorem walk (a0 : Option Addr) (len0 cap0 : Nat) (z0 : List Ln) (w : World) (w0 : LinesAt w a0 len0 z0) (m0 : len0 ≤ maxLen) :
    Calls Try.prog 7 #[.slice a0 len0 cap0] w fun e w' => e = .returned (.bool true) ∧ Below w.heap.size w w' := by
  have hn : z0.length = len0 := w0.1
  by_cases hx : len0 ≤ 1048576
  · have HN := Lib.hid hn
    have HS := Lib.hid (fun (B gc : Nat) (ga : Option Addr) (w : World) (ho : w.ownsRow B 60 3 (.slice ga len0 gc) len0 (lv z0)) => specTurnGame z0 hn hx (B := B) (gc := gc) (ga := ga) w ho)
    have HI := Lib.hid (fun (B gc : Nat) (ga : Option Addr) (w : World) (ho : w.ownsRow B 60 3 (.slice ga len0 gc) len0 (lv z0)) => implTurnGame z0 hn hx (B := B) (gc := gc) (ga := ga) w ho)
    have hle := (by rw [List.length_reverse, hn]; exact hx : z0.reverse.length ≤ 1048576)
    obtain ⟨xs, hv⟩ : ∃ r, z0.reverse = r := ⟨_, rfl⟩
    rw [hv] at HS HI hle
    obtain ⟨m, hm⟩ : ∃ m, xs.length = m := ⟨_, rfl⟩
    have HM := Lib.hid hm
    rw [hm] at hle
    have HL := Lib.hid w0
    clear hm hv hn w0 m0
    go_enter Try.func7, Try.ntmps7
    go_wp2_with fail
    have Z0 : Hid (Below w.heap.size w w) := Below.refl _ _
    refine (sz_is _ hx).mono ?_
    rintro e p ⟨rfl, rfl⟩
    go_wp2_with fail
    refine (toLines _ hx (HL.out.later Z0.out)).mono ?_
    rintro e p1 ⟨v, rfl, hh, hb⟩
    have Z1 := Lib.hid (Z0.out.trans (hb.mono Z0.out.size))
    have hh := own_base hh (Nat.le_refl w.heap.size)
    rw [HN.out] at hh
    obtain ⟨xa, xc, rfl⟩ := lines_form hh
    have X1 := Lib.hid hh
    clear hh
    clear hb Z0
    go_wp2_with fail
    refine (HS.out _ _ _ _ X1.out).mono ?_
    rintro e p2 ⟨ov, rfl, hh, hb⟩
    have Z2 := Lib.hid (Z1.out.trans (hb.mono Z1.out.size))
    have X2 := Lib.hid (own_below X1.out hb)
    have hh := own_base hh (show w.heap.size ≤ p1.heap.size from Z1.out.size)
    rw [HM.out] at hh
    have O2 := Lib.hid hh
    clear hh
    clear hb Z1 X1
    clear X2
    go_wp2_with fail
    refine (toLines _ hx (HL.out.later Z2.out)).mono ?_
    rintro e p3 ⟨v, rfl, hh, hb⟩
    have Z3 := Lib.hid (Z2.out.trans (hb.mono Z2.out.size))
    have O3 := Lib.hid (own_below O2.out hb)
    have AXO := Lib.hid (own_apart O2.out hh (Nat.le_refl _))
    have hh := own_base hh (show w.heap.size ≤ p2.heap.size from Z2.out.size)
    rw [HN.out] at hh
    obtain ⟨xa, xc, rfl⟩ := lines_form hh
    have X3 := Lib.hid hh
    clear hh
    clear hb Z2 O2
    go_wp2_with fail
    refine (HI.out _ _ _ _ X3.out).mono ?_
    rintro e p4 ⟨gv, rfl, hh, hb⟩
    have Z4 := Lib.hid (Z3.out.trans (hb.mono Z3.out.size))
    have O4 := Lib.hid (own_below O3.out hb)
    have X4 := Lib.hid (own_below X3.out hb)
    have AP := Lib.hid (own_apart O3.out hh (Nat.le_refl _))
    have AXG := Lib.hid (apart_symm (own_apart X3.out hh (Nat.le_refl _)))
    have hh := own_base hh (show w.heap.size ≤ p3.heap.size from Z3.out.size)
    rw [HM.out] at hh
    have G4 := Lib.hid hh
    clear hh
    clear hb Z3 O3 X3
    go_wp2_with fail
    refine (eqLines gv ov xs _ HM.out hle G4.out O4.out).mono ?_
    rintro e p5 ⟨rfl, hb⟩
    have Z5 := Lib.hid (Z4.out.trans (hb.mono Z4.out.size))
    have O5 := Lib.hid (own_below O4.out hb)
    have X5 := Lib.hid (own_below X4.out hb)
    have G5 := Lib.hid (own_below G4.out hb)
    clear hb Z4 O4 X4 G4
    go_wp2_with fail
    refine (toLines _ hx (HL.out.later Z5.out)).mono ?_
    rintro e p6 ⟨v, rfl, hh, hb⟩
    have Z6 := Lib.hid (Z5.out.trans (hb.mono Z5.out.size))
    have O6 := Lib.hid (own_below O5.out hb)
    have X6 := Lib.hid (own_below X5.out hb)
    have G6 := Lib.hid (own_below G5.out hb)
    have hh := own_base hh (show w.heap.size ≤ p5.heap.size from Z5.out.size)
    rw [HN.out] at hh
    obtain ⟨ya, yc, rfl⟩ := lines_form hh
    have Y6 := Lib.hid hh
    clear hh
    clear hb Z5 O5 X5 G5
    go_wp2_with fail
    refine (eqLines _ _ z0 _ HN.out hx X6.out Y6.out).mono ?_
    rintro e p7 ⟨rfl, hb⟩
    have Z7 := Lib.hid (Z6.out.trans (hb.mono Z6.out.size))
    have O7 := Lib.hid (own_below O6.out hb)
    have X7 := Lib.hid (own_below X6.out hb)
    have G7 := Lib.hid (own_below G6.out hb)
    have Y7 := Lib.hid (own_below Y6.out hb)
    clear hb Z6 O6 X6 G6 Y6
    clear Y7
    go_wp2_with fail
    refine (markLines _ (lv z0) _ 1 (by omega) (by rw [lv_length, HN.out]) hx X7.out).mono ?_
    rintro e p8 ⟨rfl, -, hg⟩
    have Z8 := Lib.hid (Z7.out.grown hg Z7.out.size (fun k hk => (X7.out.lt k hk).1))
    have O8 := Lib.hid (O7.out.kept hg AXO.out)
    have G8 := Lib.hid (G7.out.kept hg AXG.out)
    clear hg AXO AXG Z7 O7 G7 X7 
    go_wp2_with fail
    refine (eqLines gv ov xs _ HM.out hle G8.out O8.out).mono ?_
    rintro e p9 ⟨rfl, hb⟩
    have Z9 := Lib.hid (Z8.out.trans (hb.mono Z8.out.size))
    have O9 := Lib.hid (own_below O8.out hb)
    have G9 := Lib.hid (own_below G8.out hb)
    clear hb Z8 O8 G8
    go_wp2_with fail
    refine (markLines gv (lv xs) _ 1 (by omega) (by rw [lv_length, HM.out]) hle G9.out).mono ?_
    rintro e p10 ⟨rfl, hm, hg⟩
    have Z10 := Lib.hid (Z9.out.grown hg Z9.out.size (fun k hk => (G9.out.lt k hk).1))
    have O10 := Lib.hid (O9.out.kept hg AP.out)
    have M10 := Lib.hid hm
    clear hg hm AP Z9 O9 G9 
    go_wp2_with fail
    refine (heldLines gv _ 1 (by omega) hle M10.out).mono ?_
    rintro e p11 ⟨rfl, rfl⟩
    go_wp2_with fail
    refine (toLines _ hx (HL.out.later Z10.out)).mono ?_
    rintro e p11 ⟨v, rfl, hh, hb⟩
    have Z11 := Lib.hid (Z10.out.trans (hb.mono Z10.out.size))
    have O11 := Lib.hid (own_below O10.out hb)
    have M11 := Lib.hid (own_below M10.out hb)
    have hh := own_base hh (show w.heap.size ≤ p10.heap.size from Z10.out.size)
    rw [HN.out] at hh
    obtain ⟨xa, xc, rfl⟩ := lines_form hh
    have X11 := Lib.hid hh
    clear hh
    clear hb Z10 O10 M10
    go_wp2_with fail
    refine (HI.out _ _ _ _ X11.out).mono ?_
    rintro e p12 ⟨hv, rfl, hh, hb⟩
    have Z12 := Lib.hid (Z11.out.trans (hb.mono Z11.out.size))
    have O12 := Lib.hid (own_below O11.out hb)
    have M12 := Lib.hid (own_below M11.out hb)
    have X12 := Lib.hid (own_below X11.out hb)
    have hh := own_base hh (show w.heap.size ≤ p11.heap.size from Z11.out.size)
    rw [HM.out] at hh
    have H12 := Lib.hid hh
    clear hh
    clear hb Z11 O11 M11 X11
    clear X12
    go_wp2_with fail
    refine (eqLines hv ov xs _ HM.out hle H12.out O12.out).mono ?_
    rintro e p13 ⟨rfl, hb⟩
    have Z13 := Lib.hid (Z12.out.trans (hb.mono Z12.out.size))
    have O13 := Lib.hid (own_below O12.out hb)
    have M13 := Lib.hid (own_below M12.out hb)
    have H13 := Lib.hid (own_below H12.out hb)
    clear hb Z12 O12 M12 H12
    clear H13
    go_wp2_with fail
    refine (heldLines gv _ 1 (by omega) hle M13.out).mono ?_
    rintro e p14 ⟨rfl, rfl⟩
    go_wp2_with fail
    go_ret
    exact ⟨rfl, Z13.out⟩
  · go_enter Try.func7, Try.ntmps7
    go_wp2_with fail
    refine (sz_far _ (by omega) m0).mono ?_
    rintro e p ⟨rfl, rfl⟩
    go_wp2_with fail
    go_ret
    exact ⟨rfl, Below.refl _ _⟩
set_option maxRecDepth 100000 in
theorem lifted (os : Os) (started : os.Started) (H : Type) (enc : TypeId × Value → H) :
    ReturnsInHanded {} Try.checked os 7 .any (Rows.fnExactTurnGameSpec.pre6 enc Try.prog Try.f7 Rows.fnExactTurnGameRow.domain false) (Rows.fnExactTurnGameSpec.post enc Try.prog Try.f7 false true false false) := by
  refine returnsInHanded_of_change (C := Try.checked) own started (by kernel_rfl) Try.func7
    (ChangeSpec.witness6 (enc := enc) (C := Try.checked) false ⟨#[], #[.slice none 0 0], []⟩ 8 (by kernel_rfl) (by kernel_rfl) (by kernel_rfl) (by kernel_rfl)) ?_
  intro W base args ds gs before hval0 hW hcnd _
  have hval : ∀ (j : Nat) t v, Try.f7.params[j]? = some t → args[j]? = some v → Value.okWide Try.prog W .any base t v := hval0
  have hW' := hW
  obtain ⟨p, q, hA0, hV, rfl, hfz, hnd⟩ := hW
  have hA : DataW.TrodAll enc Try.prog W 0 (fun _ => true) true Try.f7.params.toList args.toList ds p := hA0
  rw [Try.params7] at hA hval
  obtain ⟨v0, vs0, d0, ds0, p0, q0, hargs, rfl, rfl, h0, r0⟩ := trodAll_cons hA
  obtain ⟨rfl, rfl, rfl⟩ := trodAll_nil r0
  obtain rfl : args = #[v0] := by cases args; simp_all
  obtain ⟨rfl, rfl⟩ := trodVars_none hV
  obtain ⟨a0, len0, cap0, rfl⟩ := okWide_slice Try.underlying42 (hval 0 42 v0 rfl rfl)
  have k0 := h0
  have lt0 : ∀ x ∈ p0, x.block < W.heap.size := by obtain ⟨m, hm⟩ := k0; exact DataW.trod_lt m _ _ _ hm
  obtain ⟨z0, w0, m0⟩ := lines_of Try.underlying42 Try.underlying68 (by kernel_rfl) (by kernel_rfl) Try.underlying3 Try.underlying3 Try.underlying3 h0
  clear hA0 hval0
  refine (walk a0 len0 cap0 z0 W w0 m0).mono fun e W' ⟨he, bel⟩ => ?_
  subst he
  exact ⟨_, rfl, _, _, _, [], _, [], hW', trodAll_mk1 (shut_bool Try.underlying4 _), (trodAll_cons_mk (Below.trod laidOut (by kernel_rfl) (of_decide_eq_true (by kernel_rfl)) k0 bel lt0) trodAll_mk0), rfl, bel.frame _, fun h => by cases h⟩

theorem over : Rows.fnExactTurnGameRow.holds Try.pinned (OpenSpec.ofChange Rows.fnExactTurnGameSpec) :=
  OpenClaim.holds_of_wide 7 Try.f7 rfl rfl rfl rfl rfl rfl rfl ⟨rfl, rfl, rfl, rfl, rfl⟩ rfl rfl rfl rfl rfl (by kernel_rfl) Try.func7 (by kernel_rfl)
    (of_decide_eq_true (by kernel_rfl)) (by unfold Func.isWrapper; first | (rw [if_pos (by decide +kernel)]; kernel_rfl) | (rw [if_neg (by decide +kernel)]; exact ⟨rfl, rfl⟩))
    (fun os started H enc _ => lifted os started H enc)

theorem proved : Rows.FnExactTurnGameSaid := over
end Go.Proofs.Ytdahihdinambgaa.fnExactTurnGame
