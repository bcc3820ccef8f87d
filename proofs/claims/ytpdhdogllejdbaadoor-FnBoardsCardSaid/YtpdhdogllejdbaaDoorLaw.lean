/- What every law over a code begins with: whether the code is too long; what is told of its bytes. -/
import Derived.Test.YtpdhdogllejdbaaDoorProg
import Derived.Test.YtpdhdogllejdbaaDoorBase
import Derived.Test.YtpdhdogllejdbaaDoorDraw
import Derived.WalkKit
import Derived.WalkSpells
import Derived.OpenShut
namespace Go.Proofs.YtpdhdogllejdbaaDoor
open Go.RowKit
theorem big_no {a : Option Addr} {len cap : Nat} (w : World) (h : len ≤ 1048576) : Calls Tryd.prog 5 #[.slice a len cap] w fun e w' => e = .returned (.bool false) ∧ w = w' := by
  have hf : ¬ (1048576 : Int) < (len : Int) := by omega
  have hd : decide ((1048576 : Int) < (len : Int)) = false := decide_eq_false hf
  go_enter Tryd.func5, Tryd.ntmps5
  go_wp2
  go_ret
  exact ⟨rfl, rfl⟩
theorem big_yes {a : Option Addr} {len cap : Nat} (w : World) (h : 1048576 < len) : Calls Tryd.prog 5 #[.slice a len cap] w fun e w' => e = .returned (.bool true) ∧ w = w' := by
  have hf : (1048576 : Int) < (len : Int) := by omega
  have hd : decide ((1048576 : Int) < (len : Int)) = true := decide_eq_true hf
  go_enter Tryd.func5, Tryd.ntmps5
  go_wp2
  go_ret
  exact ⟨rfl, rfl⟩
/-- What the frame tells of the bytes, in the cursor's words. -/
theorem code_of {w : World} {a : Option Addr} {len cap : Nat} {zs : List Int} (h : (a = none ∧ len = 0 ∧ cap = 0 ∧ zs = []) ∨ ∃ x, a = some x ∧ len ≤ cap ∧ cap ≤ maxLen ∧ zs.length = cap ∧ (∀ i, i < zs.length → w.cell? (x.add i) = some (.int .u8 (zs.getD i 0))) ∧ ∀ n ∈ zs, (Lit.int .u8 n).wf = true) (hl : len ≤ 1048576) : CodeAt w a len := by
  refine ⟨hl, ?_⟩
  by_cases h0 : len = 0
  · exact .inl h0
  · right
    rcases h with ⟨_, h1, _, _⟩ | ⟨x, rfl, hlc, _, hz, hcell, hwf⟩
    · exact absurd h1 h0
    · obtain ⟨b, off, spot⟩ := x
      have hc := hcell 0 (by omega)
      have hspot : spot = none := by simpa [Addr.add] using World.cell?_spot hc
      subst hspot
      refine ⟨b, off, rfl, ?_, ?_⟩
      · exact World.block_lt_of_cell? w _ hc
      · intro k hk
        have hk' : k < zs.length := by omega
        have hck := hcell k hk'
        have hw := hwf (zs.getD k 0) (by rw [List.getD, List.getElem?_eq_getElem hk']; exact List.getElem_mem _)
        have hb := bounds_u8 hw
        obtain ⟨c, hcn⟩ := Int.eq_ofNat_of_zero_le hb.1
        refine ⟨c, by omega, ?_⟩
        have e : (⟨b, off, none⟩ : Addr).add k = ⟨b, off + k, none⟩ := by unfold Addr.add; split <;> simp_all
        rw [e, hcn] at hck
        exact hck
end Go.Proofs.YtpdhdogllejdbaaDoor
