/- The law FnExactSplitFields returns true for every line: the program's SplitFields and the model's give the same fields and the same bool, and the fields lie in new memory that no second call touches. No condition. -/
import Derived.Test.YtfmafledakchhaaRows
import Derived.WalkKit
import Derived.WalkSpells
import Derived.ProofKit
import Derived.OpenShut
import Derived.ShutString
import Derived.ChangeOld
import Derived.Below
import Derived.Lib.Hide
import Derived.Test.YtfmafledakchhaaRowsStr
import Derived.Test.YtfmafledakchhaaSplit
namespace Go.Proofs.Ytfmafledakchhaa.fnExactSplitFields
open Go.ChangeShapes Go.WideShapes Go.ChangeAt Go.RowKit
open Go.ChangeMaps (open_string shut_string)
theorem own : ownKnob Try.prog.godebug = none := by kernel_rfl
theorem laidOut : laidOutB Try.prog = true := by kernel_rfl
theorem strs_map (D : List (List UInt8)) : strs D = (D.map bs).map Value.string := by simp [strs, Function.comp_def]
theorem fields_len (s : ByteArray) : (fieldsOf s).length ≤ 24 := by
  unfold fieldsOf
  split
  · rename_i h
    unfold splitOk at h
    simp at h
    omega
  · simp
theorem spec_any (s : ByteArray) (w : World) (hm : s.size ≤ maxLen) : Calls Try.prog 15 #[.string s] w (SplitPost s w) := by
  by_cases h1 : s.size ≤ 600
  · exact specSplit s w h1
  · exact specSplit_far s w (by omega) hm
theorem impl_any (s : ByteArray) (w : World) (hm : s.size ≤ maxLen) : Calls Try.prog 16 #[.string s] w (SplitPost s w) := by
  by_cases h1 : s.size ≤ 600
  · exact implSplit s w h1
  · exact implSplit_far s w (by omega) hm
set_option maxRecDepth 100000 in
theorem walk_in (a0 : ByteArray) (w : World) (hm : a0.size ≤ maxLen) (hs : a0.size ≤ 1048576) :
    Calls Try.prog 6 #[.string a0] w fun e w' => e = .returned (.bool true) ∧ Below w.heap.size w w' := by
  have hf : ¬ (1048576 : Int) < a0.size := by omega
  have hM := Lib.hid hm; clear hm
  have hn := fields_len a0
  obtain ⟨xs, hxs⟩ : ∃ xs, xs = (fieldsOf a0).map bs := ⟨_, rfl⟩
  have hx1 : strs (fieldsOf a0) = xs.map Value.string := by rw [strs_map, hxs]
  have hlen : Hid (xs.length = (fieldsOf a0).length) := by unfold Hid; rw [hxs, List.length_map]
  have HX := Lib.hid hx1; clear hx1 hxs
  obtain ⟨n, hnn⟩ : ∃ n, (fieldsOf a0).length = n := ⟨_, rfl⟩
  rw [hnn] at hn
  have HNN := Lib.hid hnn; clear hnn
  go_enter Try.func6, Try.ntmps6
  go_wp2_with fail
  refine (spec_any a0 _ hM.out).mono ?_
  rintro e w1 ⟨v0, rfl, o0, b1⟩
  rw [HNN.out, HX.out] at o0
  have O0 := Lib.hid o0; clear o0
  go_wp2_with fail
  refine (impl_any a0 _ hM.out).mono ?_
  rintro e w2 ⟨g0, rfl, og, b2⟩
  rw [HNN.out, HX.out] at og
  have OG := Lib.hid og; clear og
  have O02 := Lib.hid (own_below O0.out b2)
  have ap := own_apart O0.out OG.out (Nat.le_refl _)
  have bb2 : Below w.heap.size w w2 := b1.trans (b2.mono b1.size)
  have hz1 := b1.size
  have hz2 := b2.size
  have AP := Lib.hid ap; clear ap b1 b2 O0
  go_wp2_with fail
  refine (eqStr g0 v0 xs _ (by rw [hlen.out, HNN.out]) (by omega) OG.out O02.out).mono ?_
  rintro e w3 ⟨rfl, q3, rfl⟩
  have OG3 := Lib.hid (drewN_own OG.out q3)
  have O03 := Lib.hid (drewN_own O02.out q3)
  have bb3 := bb2.trans ((drewN_below w2 q3).mono (Nat.le_trans hz1 hz2))
  have hz3 := (drewN_below w2 q3).size
  clear bb2 OG O02
  generalize w2.drewN q3 = w3 at *
  go_wp2_with fail
  refine (markStr g0 xs _ 1 (by omega) (by omega) (by rw [hlen.out, HNN.out]) (by omega) OG3.out).mono ?_
  rintro e w4 ⟨rfl, o4, g4⟩
  have OG4 := Lib.hid o4
  have O04 := Lib.hid (O03.out.kept g4 AP.out)
  have bb4 : Below w.heap.size w w4 := bb3.grown g4 (by omega) (fun k hk => Nat.le_trans (by omega) (OG3.out.lt k hk).1)
  have hz4 := g4.size
  clear o4 g4 bb3 O03 OG3
  go_wp2_with fail
  refine (heldStr g0 _ 1 (by omega) (by omega) (by omega) OG4.out).mono ?_
  rintro e w5 ⟨rfl, b5⟩
  have OG5 := Lib.hid (own_below OG4.out b5)
  have O05 := Lib.hid (own_below O04.out b5)
  have bb5 := bb4.trans (b5.mono (by omega))
  have hz5 := b5.size
  clear b5 bb4 O04 OG4
  go_wp2_with fail
  refine (impl_any a0 _ hM.out).mono ?_
  rintro e w6 ⟨h0, rfl, oh, b6⟩
  rw [HNN.out, HX.out] at oh
  have OH := Lib.hid oh; clear oh
  have OG6 := Lib.hid (own_below OG5.out b6)
  have O06 := Lib.hid (own_below O05.out b6)
  have bb6 := bb5.trans (b6.mono (by omega))
  have hz6 := b6.size
  clear b6 bb5 O05 OG5
  go_wp2_with fail
  refine (eqStr h0 v0 xs _ (by rw [hlen.out, HNN.out]) (by omega) OH.out O06.out).mono ?_
  rintro e w7 ⟨rfl, q7, rfl⟩
  have OG7 := Lib.hid (drewN_own OG6.out q7)
  have bb7 := bb6.trans ((drewN_below w6 q7).mono (by omega))
  have hz7 := (drewN_below w6 q7).size
  clear bb6 OG6 O06 OH
  generalize w6.drewN q7 = w7 at *
  go_wp2_with fail
  refine (heldStr g0 _ 1 (by omega) (by omega) (by omega) OG7.out).mono ?_
  rintro e w8 ⟨rfl, b8⟩
  have bb8 := bb7.trans (b8.mono (by omega))
  clear b8 bb7 OG7
  go_wp2_with fail
  go_ret
  exact ⟨rfl, bb8⟩
theorem walk_far (a0 : ByteArray) (w : World) (ht : 1048576 < a0.size) :
    Calls Try.prog 6 #[.string a0] w fun e w' => e = .returned (.bool true) ∧ Below w.heap.size w w' := by
  have hf : (1048576 : Int) < a0.size := by omega
  go_enter Try.func6, Try.ntmps6
  go_wp2_with fail
  go_ret
  exact ⟨rfl, Below.refl _ _⟩
theorem walk (a0 : ByteArray) (w : World) (w0 : a0.size ≤ maxLen) :
    Calls Try.prog 6 #[.string a0] w fun e w' => e = .returned (.bool true) ∧ Below w.heap.size w w' := by
  by_cases h2 : a0.size ≤ 1048576
  · exact walk_in a0 w w0 h2
  · exact walk_far a0 w (by omega)
set_option maxRecDepth 100000 in
theorem lifted (os : Os) (started : os.Started) (H : Type) (enc : TypeId × Value → H) :
    ReturnsInHanded {} Try.checked os 6 .any (Rows.fnExactSplitFieldsSpec.pre6 enc Try.prog Try.f6 Rows.fnExactSplitFieldsRow.domain false) (Rows.fnExactSplitFieldsSpec.post enc Try.prog Try.f6 false true false false) := by
  refine returnsInHanded_of_change (C := Try.checked) own started (by kernel_rfl) Try.func6
    (ChangeSpec.witness6 (enc := enc) (C := Try.checked) false ⟨#[], #[.string ByteArray.empty], []⟩ 8 (by kernel_rfl) (by kernel_rfl) (by kernel_rfl) (by kernel_rfl)) ?_
  intro W base args ds gs before hval0 hW hcnd _
  have hval : ∀ (j : Nat) t v, Try.f6.params[j]? = some t → args[j]? = some v → Value.okWide Try.prog W .any base t v := hval0
  have hW' := hW
  obtain ⟨p, q, hA0, hV, rfl, hfz, hnd⟩ := hW
  have hA : DataW.TrodAll enc Try.prog W 0 (fun _ => true) true Try.f6.params.toList args.toList ds p := hA0
  rw [Try.params6] at hA hval
  obtain ⟨v0, vs0, d0, ds0, p0, q0, hargs, rfl, rfl, h0, r0⟩ := trodAll_cons hA
  obtain ⟨rfl, rfl, rfl⟩ := trodAll_nil r0
  obtain rfl : args = #[v0] := by cases args; simp_all
  obtain ⟨rfl, rfl⟩ := trodVars_none hV
  obtain ⟨a0, rfl, rfl, rfl, w0⟩ := open_string Try.underlying9 (hval 0 9 v0 rfl rfl) h0
  clear hA0 hval0
  refine (walk a0 W w0).mono fun e W' ⟨he, bel⟩ => ?_
  subst he
  exact ⟨_, rfl, _, _, _, [], _, [], hW', trodAll_mk1 (shut_bool Try.underlying4 _), (trodAll_cons_mk (shut_string Try.underlying9 w0) trodAll_mk0), rfl, bel.frame _, fun h => by cases h⟩

theorem over : Rows.fnExactSplitFieldsRow.holds Try.pinned (OpenSpec.ofChange Rows.fnExactSplitFieldsSpec) :=
  OpenClaim.holds_of_wide 6 Try.f6 rfl rfl rfl rfl rfl rfl rfl ⟨rfl, rfl, rfl, rfl, rfl⟩ rfl rfl rfl rfl rfl (by kernel_rfl) Try.func6 (by kernel_rfl)
    (of_decide_eq_true (by kernel_rfl)) (by unfold Func.isWrapper; first | (rw [if_pos (by decide +kernel)]; kernel_rfl) | (rw [if_neg (by decide +kernel)]; exact ⟨rfl, rfl⟩))
    (fun os started H enc _ => lifted os started H enc)

theorem proved : Rows.FnExactSplitFieldsSaid := over
end Go.Proofs.Ytfmafledakchhaa.fnExactSplitFields
