/- Backwards, of the model: BackOf, CountBack, for every three ints and ints up to 2^63 - 1. -/
import Derived.Test.YtkenlighpelhiaaGreatWayA
import Derived.Test.YtkenlighpelhiaaGreatPegsAll
namespace Go.Proofs.YtkenlighpelhiaaGreat
open Go.RowKit
set_option linter.unusedVariables false
set_option linter.unusedSimpArgs false
/-- All holes but one. -/
theorem but_hole {W H Z : Int} {k : Nat} (hk : k ∈ holesR W H Z) : ∃ N z r : Nat, Z = z ∧ Ok W H N z ∧ k < N ∧ bit z k = true ∧ r + 2 ^ k = z ∧ Part r z ∧ butB W H Z k = (r : Int) := by
  unfold holesR at hk
  split at hk
  · next h =>
    obtain ⟨N, z, rfl, ho⟩ := ok_of h
    rw [Int.toNat_natCast, ho.list] at hk
    obtain ⟨h1, h2⟩ := mem_bitsOf.1 hk
    have hd := drop_yes h2
    refine ⟨N, z, dropB z k, rfl, ho, h1, h2, hd, part_drop (part_self z), ?_⟩
    have hh : holeB W H z k = true := by rw [holeB_in ho h1]; exact h2
    unfold butB
    rw [if_pos hh, Int.toNat_natCast, Int.toNat_natCast]
  · cases hk
def startL (W H Z G : Int) : List Nat := (holesR W H Z).filter fun (k : Nat) => reachB false W H Z (butB W H Z k) G
theorem startL_no {W H Z G : Int} (h : (smallB W H Z && posB W H Z G) = false) : startL W H Z G = [] := by
  unfold startL
  rw [List.filter_eq_nil_iff]
  intro k _ hr
  simp only [reachB, Bool.and_eq_true] at hr
  rw [hr.1.1.1, hr.1.2] at h
  cases h
/-- A list of ints that grows beside marks and a list of ints that are read. -/
structure BkSt (w0 : World) (W H Z : Int) (gs M : Nat) (s : Nat → Bool) (ha : Option Addr) (m hc : Nat) (hs : List Nat) (v : Value) (out : List Nat) (w : World) : Prop where
  box : Box w0.heap.size W H Z w0 w
  marks : w.ownsRow w0.heap.size 4 1 (.slice (some ⟨gs, 0, none⟩) M M) M (bv M s)
  row : w.ownsRow w0.heap.size 3 1 (.slice ha m hc) m (Ints hs)
  len : hs.length = m
  out : w.ownsRow (w0.heap.size + 1) 3 1 v out.length (Ints out)
  mo : v.ownBlock ≠ some gs
  lo : ∀ g0, ha = some ⟨g0, 0, none⟩ → v.ownBlock ≠ some g0
  size : w0.heap.size + 1 ≤ w.heap.size
section
variable {w0 w w' : World} {W H Z : Int} {gs M m hc : Nat} {s : Nat → Bool} {ha : Option Addr} {hs out : List Nat} {v : Value}
theorem BkSt.later (h : BkSt w0 W H Z gs M s ha m hc hs v out w) (hb : Below w.heap.size w w') : BkSt w0 W H Z gs M s ha m hc hs v out w' :=
  ⟨h.box.later hb, own_below h.marks hb, own_below h.row hb, h.len, own_below h.out hb, h.mo, h.lo, Nat.le_trans h.size hb.size⟩
theorem BkSt.take (h : BkSt w0 W H Z gs M s ha m hc hs v out w) (hb : Below w.heap.size w w') {ha' : Option Addr} {m' hc' : Nat} {hs' : List Nat} (hl : w'.ownsRow w.heap.size 3 1 (.slice ha' m' hc') m' (Ints hs')) (hn : hs'.length = m') : BkSt w0 W H Z gs M s ha' m' hc' hs' v out w' := by
  refine ⟨h.box.later hb, own_below h.marks hb, own_base hl (Nat.le_trans (Nat.le_succ _) h.size), hn, own_below h.out hb, h.mo, fun g0 hg e => ?_, Nat.le_trans h.size hb.size⟩
  have h1 := (hl.lt g0 (by rw [hg]; rfl)).1
  have h2 := (h.out.lt g0 e).2
  omega
theorem BkSt.push (h : BkSt w0 W H Z gs M s ha m hc hs v out w) {g cap x : Nat} {e : TypeId}
    (hown : w'.ownsRow (w0.heap.size + 1) 3 1 (.slice (some ⟨g, 0, none⟩) (out.length + 1) cap) (out.length + 1) (Ints (out ++ [x]))) (hgrow : (w.alloc (.cells #[.int .i64 (x : Int)] e)).grownBy w' v.ownBlock) (hb : Below (w0.heap.size + 1) w w') (hat : v.ownBlock = some g ∨ g = w.heap.size + 1) :
    BkSt w0 W H Z gs M s ha m hc hs (.slice (some ⟨g, 0, none⟩) (out.length + 1) cap) (out ++ [x]) w' := by
  have hba : Below w.heap.size w (w.alloc (.cells #[.int .i64 (x : Int)] e)) := (Below.refl _ _).alloc (Nat.le_refl _) _
  have hms := (h.marks.lt gs rfl).2
  refine ⟨h.box.kept hb (Nat.lt_succ_self _) (Nat.le_succ _), (own_below h.marks hba).kept hgrow (.inr fun e => h.mo e.symm), ?_, h.len, by rw [List.length_append]; exact hown, fun e => ?_, fun g0 hg e => ?_, Nat.le_trans h.size hb.size⟩
  · refine (own_below h.row hba).kept hgrow ?_
    rcases Go.Joins.ownsRow_forms h.row with ⟨h1, -⟩ | ⟨g', cap', h1⟩
    · left; injection h1 with h1 _ _; subst h1; rfl
    · right
      injection h1 with h1 _ _
      subst h1
      exact fun e => h.lo g' rfl e.symm
  · have hg' : g = gs := by simpa [Value.ownBlock] using e
    subst hg'
    rcases hat with h3 | h3
    · exact h.mo h3
    · omega
  · have hg' : g = g0 := by simpa [Value.ownBlock] using e
    subst hg'
    rcases hat with h3 | h3
    · exact h.lo g hg h3
    · have := (h.row.lt g (by rw [hg]; rfl)).2
      omega
end
theorem start_snoc (W H Z G : Int) {hs : List Nat} (i : Nat) {h : Nat} (hi : hs[i]? = some h) : (hs.take (i + 1)).filter (fun (k : Nat) => reachB false W H Z (butB W H Z k) G) = (hs.take i).filter (fun (k : Nat) => reachB false W H Z (butB W H Z k) G) ++ (if reachB false W H Z (butB W H Z h) G = true then [h] else []) := by
  rw [take_one hi, List.filter_append]
  congr 1
  cases hc : reachB false W H Z (butB W H Z h) G <;> simp [hc]
def solvL (W H Z : Int) : List Nat := if smallB W H Z = true then (holesR W H Z).filter (fun (k : Nat) => decide (0 < (finL W H Z (butB W H Z k)).length)) else []
theorem solv_snoc (W H Z : Int) {hs : List Nat} (i : Nat) {h : Nat} (hi : hs[i]? = some h) : (hs.take (i + 1)).filter (fun (k : Nat) => decide (0 < (finL W H Z (butB W H Z k)).length)) = (hs.take i).filter (fun (k : Nat) => decide (0 < (finL W H Z (butB W H Z k)).length)) ++ (if 0 < (finL W H Z (butB W H Z h)).length then [h] else []) := by
  rw [take_one hi, List.filter_append]
  congr 1
  by_cases hc : 0 < (finL W H Z (butB W H Z h)).length <;> simp [hc]
end Go.Proofs.YtkenlighpelhiaaGreat
