/- The law FnExactCountSweeps returns true for every slice of lines: the program and the model give the same number, and the slice is left as it was. No condition. -/
import Derived.Test.YtdlpfpeblaapdaaRows
import Derived.WalkKit
import Derived.WalkSpells
import Derived.ProofKit
import Derived.OpenShut
import Derived.ShutString
import Derived.ChangeOld
import Derived.Below
import Derived.Lib.Hide
import Derived.Lib.SmallJoins
import Derived.ChangeArms
import Derived.Test.YtdlpfpeblaapdaaGamesC
import Derived.Test.YtdlpfpeblaapdaaRect
namespace Go.Proofs.Ytdlpfpeblaapdaa.fnExactCountSweeps
open Go.ChangeShapes Go.WideShapes Go.ChangeAt Go.RowKit
open Go.ChangeMaps (open_string shut_string)
set_option linter.unusedVariables false
set_option linter.unusedSimpArgs false
theorem own : ownKnob Try.prog.godebug = none := by kernel_rfl
theorem laidOut : laidOutB Try.prog = true := by kernel_rfl
set_option maxHeartbeats 2000000 in
set_option maxRecDepth 100000 in
theorem walk (a0 : Option Addr) (len0 cap0 : Nat) (z0 : List Ln) (w : World) (w0 : LinesAt w a0 len0 z0) (m0 : len0 ≤ maxLen) :
    Calls Try.prog 7 #[.slice a0 len0 cap0] w fun e w' => e = .returned (.bool true) ∧ Below w.heap.size w w' := by
  have hn : z0.length = len0 := w0.1
  by_cases hx : len0 ≤ 1048576
  · have HN := Lib.hid hn
    have HS := Lib.hid (fun (B gc : Nat) (ga : Option Addr) (w : World) (ho : w.ownsRow B 58 3 (.slice ga len0 gc) len0 (lv z0)) => specSweeps z0 hn hx (B := B) (gc := gc) (ga := ga) w ho)
    have HI := Lib.hid (fun (B gc : Nat) (ga : Option Addr) (w : World) (ho : w.ownsRow B 58 3 (.slice ga len0 gc) len0 (lv z0)) => implSweeps z0 hn hx (B := B) (gc := gc) (ga := ga) w ho)
    obtain ⟨x, hv⟩ : ∃ r, sweepsN z0 len0 = r := ⟨_, rfl⟩
    rw [hv] at HS HI
    have HL := Lib.hid w0
    clear hv hn w0 m0
    go_enter Try.func7, Try.ntmps7
    go_wp2_with fail
    have Z0 : Hid (Below w.heap.size w w) := Below.refl _ _
    refine (sz_is _ hx).mono ?_
    rintro e p ⟨rfl, rfl⟩
    go_wp2_with fail
    refine (toLines _ hx (HL.out.later Z0.out)).mono ?_
    rintro e p1 ⟨v, rfl, hh, hb⟩
    have Z1 := Lib.hid (Z0.out.trans (hb.mono Z0.out.size))
    rw [HN.out] at hh
    obtain ⟨xa, xc, rfl⟩ := lines_form hh
    have X1 := Lib.hid hh
    clear hh
    clear hb Z0
    go_wp2_with fail
    refine (HS.out _ _ _ _ X1.out).mono ?_
    rintro e p2 ⟨rfl, hb⟩
    have Z2 := Lib.hid (Z1.out.trans (hb.mono Z1.out.size))
    have X2 := Lib.hid (own_below X1.out hb)
    clear hb Z1 X1
    clear X2
    go_wp2_with fail
    refine (toLines _ hx (HL.out.later Z2.out)).mono ?_
    rintro e p3 ⟨v, rfl, hh, hb⟩
    have Z3 := Lib.hid (Z2.out.trans (hb.mono Z2.out.size))
    rw [HN.out] at hh
    obtain ⟨xa, xc, rfl⟩ := lines_form hh
    have X3 := Lib.hid hh
    clear hh
    clear hb Z2
    go_wp2_with fail
    refine (HI.out _ _ _ _ X3.out).mono ?_
    rintro e p4 ⟨rfl, hb⟩
    have Z4 := Lib.hid (Z3.out.trans (hb.mono Z3.out.size))
    have X4 := Lib.hid (own_below X3.out hb)
    clear hb Z3 X3
    go_wp2_with fail
    refine (toLines _ hx (HL.out.later Z4.out)).mono ?_
    rintro e p5 ⟨v, rfl, hh, hb⟩
    have Z5 := Lib.hid (Z4.out.trans (hb.mono Z4.out.size))
    have X5 := Lib.hid (own_below X4.out hb)
    rw [HN.out] at hh
    obtain ⟨ya, yc, rfl⟩ := lines_form hh
    have Y5 := Lib.hid hh
    clear hh
    clear hb Z4 X4
    go_wp2_with fail
    refine (eqLines _ _ z0 _ HN.out hx X5.out Y5.out).mono ?_
    rintro e p6 ⟨rfl, hb⟩
    have Z6 := Lib.hid (Z5.out.trans (hb.mono Z5.out.size))
    have X6 := Lib.hid (own_below X5.out hb)
    have Y6 := Lib.hid (own_below Y5.out hb)
    clear hb Z5 X5 Y5
    clear Y6
    go_wp2_with fail
    go_ret
    exact ⟨rfl, Z6.out⟩
  · go_enter Try.func7, Try.ntmps7
    go_wp2_with fail
    refine (sz_far _ (by omega) m0).mono ?_
    rintro e p ⟨rfl, rfl⟩
    go_wp2_with fail
    go_ret
    exact ⟨rfl, Below.refl _ _⟩
set_option maxRecDepth 100000 in
theorem lifted (os : Os) (started : os.Started) (H : Type) (enc : TypeId × Value → H) :
    ReturnsInHanded {} Try.checked os 7 .any (Rows.fnExactCountSweepsSpec.pre6 enc Try.prog Try.f7 Rows.fnExactCountSweepsRow.domain false) (Rows.fnExactCountSweepsSpec.post enc Try.prog Try.f7 false true false false) := by
  refine returnsInHanded_of_change (C := Try.checked) own started (by kernel_rfl) Try.func7
    (ChangeSpec.witness6 (enc := enc) (C := Try.checked) false ⟨#[], #[.slice none 0 0], []⟩ 8 (by kernel_rfl) (by kernel_rfl) (by kernel_rfl) (by kernel_rfl)) ?_
  intro W base args ds gs before hval0 hW hcnd _
  have hval : ∀ (j : Nat) t v, Try.f7.params[j]? = some t → args[j]? = some v → Value.okWide Try.prog W .any base t v := hval0
  have hW' := hW
  obtain ⟨p, q, hA0, hV, rfl, hfz, hnd⟩ := hW
  have hA : DataW.TrodAll enc Try.prog W 0 (fun _ => true) true Try.f7.params.toList args.toList ds p := hA0
  rw [Try.params7] at hA hval
  obtain ⟨v0, vs0, d0, ds0, p0, q0, hargs, rfl, rfl, h0, r0⟩ := trodAll_cons hA
  obtain ⟨rfl, rfl, rfl⟩ := trodAll_nil r0
  obtain rfl : args = #[v0] := by cases args; simp_all
  obtain ⟨rfl, rfl⟩ := trodVars_none hV
  obtain ⟨a0, len0, cap0, rfl⟩ := okWide_slice Try.underlying37 (hval 0 37 v0 rfl rfl)
  have k0 := h0
  have lt0 : ∀ x ∈ p0, x.block < W.heap.size := by obtain ⟨m, hm⟩ := k0; exact DataW.trod_lt m _ _ _ hm
  obtain ⟨z0, w0, m0⟩ := lines_of Try.underlying37 Try.underlying65 (by kernel_rfl) (by kernel_rfl) Try.underlying3 Try.underlying3 Try.underlying3 h0
  clear hA0 hval0
  refine (walk a0 len0 cap0 z0 W w0 m0).mono fun e W' ⟨he, bel⟩ => ?_
  subst he
  exact ⟨_, rfl, _, _, _, [], _, [], hW', trodAll_mk1 (shut_bool Try.underlying4 _), (trodAll_cons_mk (Below.trod laidOut (by kernel_rfl) (of_decide_eq_true (by kernel_rfl)) k0 bel lt0) trodAll_mk0), rfl, bel.frame _, fun h => by cases h⟩

theorem over : Rows.fnExactCountSweepsRow.holds Try.pinned (OpenSpec.ofChange Rows.fnExactCountSweepsSpec) :=
  OpenClaim.holds_of_wide 7 Try.f7 rfl rfl rfl rfl rfl rfl rfl ⟨rfl, rfl, rfl, rfl, rfl⟩ rfl rfl rfl rfl rfl (by kernel_rfl) Try.func7 (by kernel_rfl)
    (of_decide_eq_true (by kernel_rfl)) (by unfold Func.isWrapper; first | (rw [if_pos (by decide +kernel)]; kernel_rfl) | (rw [if_neg (by decide +kernel)]; exact ⟨rfl, rfl⟩))
    (fun os started H enc _ => lifted os started H enc)

theorem proved : Rows.FnExactCountSweepsSaid := over
end Go.Proofs.Ytdlpfpeblaapdaa.fnExactCountSweeps
