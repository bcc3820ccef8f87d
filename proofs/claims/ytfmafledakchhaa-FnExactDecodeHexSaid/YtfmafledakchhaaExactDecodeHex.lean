/- The law FnExactDecodeHex returns true for every string: the program's DecodeHex and the model's give the same text and the same bool. No condition. -/
import Derived.Test.YtfmafledakchhaaRows
import Derived.WalkKit
import Derived.WalkSpells
import Derived.ProofKit
import Derived.OpenShut
import Derived.ShutString
import Derived.ChangeOld
import Derived.Below
import Derived.Lib.Hide
import Derived.Test.YtfmafledakchhaaHexDec
namespace Go.Proofs.Ytfmafledakchhaa.fnExactDecodeHex
open Go.ChangeShapes Go.WideShapes Go.ChangeAt Go.RowKit
open Go.ChangeMaps (open_string shut_string)
theorem own : ownKnob Try.prog.godebug = none := by kernel_rfl
theorem laidOut : laidOutB Try.prog = true := by kernel_rfl
theorem spec_any (s : ByteArray) (w : World) (hm : s.size ≤ maxLen) : Calls Try.prog 13 #[.string s] w (DecPost s w) := by
  by_cases h1 : s.size ≤ 40000
  · by_cases h2 : s.size % 2 = 0
    · exact specDec s w h1 h2
    · exact specDec_no2 s w h1 (by omega)
  · exact specDec_no1 s w hm (by omega)
theorem impl_any (s : ByteArray) (w : World) (hm : s.size ≤ maxLen) : Calls Try.prog 14 #[.string s] w (DecPost s w) := by
  by_cases h2 : s.size % 2 = 0
  · by_cases h1 : s.size ≤ 40000
    · exact implDec s w h1 h2
    · exact implDec_no2 s w hm (by omega) h2
  · exact implDec_no1 s w hm (by omega)
theorem dec_same {s : ByteArray} {w w' : World} {e : Ending} (h : DecPost s w e w') : ∃ t b, e = .returned (.tuple #[.string t, .bool b]) ∧ (t, b) = (if decOk s = true then (strOfNums (decNums s (s.size / 2)), true) else (⟨#[]⟩, false)) ∧ Below w.heap.size w w' := by
  obtain ⟨h1, h2, hb⟩ := h
  cases hd : decOk s with
  | true => exact ⟨_, _, h1 hd, by simp, hb⟩
  | false => exact ⟨_, _, h2 hd, by simp, hb⟩
theorem walk_in (a0 : ByteArray) (w : World) (hm : a0.size ≤ maxLen) (hs : a0.size ≤ 1048576) :
    Calls Try.prog 5 #[.string a0] w fun e w' => e = .returned (.bool true) ∧ Below w.heap.size w w' := by
  have hf : ¬ (1048576 : Int) < a0.size := by omega
  have hM := Lib.hid hm; clear hm
  go_enter Try.func5, Try.ntmps5
  go_wp2_with fail
  refine (spec_any a0 _ hM.out).mono ?_
  intro e w1 hp
  obtain ⟨t, b, rfl, htb, hb1⟩ := dec_same hp
  clear hp
  have HT := Lib.hid htb; clear htb
  go_wp2_with fail
  refine (impl_any a0 _ hM.out).mono ?_
  intro e w2 hp
  obtain ⟨t2, b2, rfl, htb, hb2⟩ := dec_same hp
  clear hp
  have hb : Below w.heap.size w w2 := hb1.trans (hb2.mono hb1.size)
  clear hb1 hb2
  have e2 : (t2, b2) = (t, b) := htb.trans HT.out.symm
  clear htb HT
  obtain ⟨rfl, rfl⟩ := Prod.mk.injEq .. ▸ e2
  go_wp2
  go_ret
  exact ⟨rfl, hb⟩
theorem walk_far (a0 : ByteArray) (w : World) (ht : 1048576 < a0.size) :
    Calls Try.prog 5 #[.string a0] w fun e w' => e = .returned (.bool true) ∧ Below w.heap.size w w' := by
  have hf : (1048576 : Int) < a0.size := by omega
  go_enter Try.func5, Try.ntmps5
  go_wp2_with fail
  go_ret
  exact ⟨rfl, Below.refl _ _⟩
theorem walk (a0 : ByteArray) (w : World) (w0 : a0.size ≤ maxLen) :
    Calls Try.prog 5 #[.string a0] w fun e w' => e = .returned (.bool true) ∧ Below w.heap.size w w' := by
  by_cases h2 : a0.size ≤ 1048576
  · exact walk_in a0 w w0 h2
  · exact walk_far a0 w (by omega)
set_option maxRecDepth 100000 in
theorem lifted (os : Os) (started : os.Started) (H : Type) (enc : TypeId × Value → H) :
    ReturnsInHanded {} Try.checked os 5 .any (Rows.fnExactDecodeHexSpec.pre6 enc Try.prog Try.f5 Rows.fnExactDecodeHexRow.domain false) (Rows.fnExactDecodeHexSpec.post enc Try.prog Try.f5 false true false false) := by
  refine returnsInHanded_of_change (C := Try.checked) own started (by kernel_rfl) Try.func5
    (ChangeSpec.witness6 (enc := enc) (C := Try.checked) false ⟨#[], #[.string ByteArray.empty], []⟩ 8 (by kernel_rfl) (by kernel_rfl) (by kernel_rfl) (by kernel_rfl)) ?_
  intro W base args ds gs before hval0 hW hcnd _
  have hval : ∀ (j : Nat) t v, Try.f5.params[j]? = some t → args[j]? = some v → Value.okWide Try.prog W .any base t v := hval0
  have hW' := hW
  obtain ⟨p, q, hA0, hV, rfl, hfz, hnd⟩ := hW
  have hA : DataW.TrodAll enc Try.prog W 0 (fun _ => true) true Try.f5.params.toList args.toList ds p := hA0
  rw [Try.params5] at hA hval
  obtain ⟨v0, vs0, d0, ds0, p0, q0, hargs, rfl, rfl, h0, r0⟩ := trodAll_cons hA
  obtain ⟨rfl, rfl, rfl⟩ := trodAll_nil r0
  obtain rfl : args = #[v0] := by cases args; simp_all
  obtain ⟨rfl, rfl⟩ := trodVars_none hV
  obtain ⟨a0, rfl, rfl, rfl, w0⟩ := open_string Try.underlying9 (hval 0 9 v0 rfl rfl) h0
  clear hA0 hval0
  refine (walk a0 W w0).mono fun e W' ⟨he, bel⟩ => ?_
  subst he
  exact ⟨_, rfl, _, _, _, [], _, [], hW', trodAll_mk1 (shut_bool Try.underlying4 _), (trodAll_cons_mk (shut_string Try.underlying9 w0) trodAll_mk0), rfl, bel.frame _, fun h => by cases h⟩

theorem over : Rows.fnExactDecodeHexRow.holds Try.pinned (OpenSpec.ofChange Rows.fnExactDecodeHexSpec) :=
  OpenClaim.holds_of_wide 5 Try.f5 rfl rfl rfl rfl rfl rfl rfl ⟨rfl, rfl, rfl, rfl, rfl⟩ rfl rfl rfl rfl rfl (by kernel_rfl) Try.func5 (by kernel_rfl)
    (of_decide_eq_true (by kernel_rfl)) (by unfold Func.isWrapper; first | (rw [if_pos (by decide +kernel)]; kernel_rfl) | (rw [if_neg (by decide +kernel)]; exact ⟨rfl, rfl⟩))
    (fun os started H enc _ => lifted os started H enc)

theorem proved : Rows.FnExactDecodeHexSaid := over
end Go.Proofs.Ytfmafledakchhaa.fnExactDecodeHex
