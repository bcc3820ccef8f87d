/- Ways, of the model: l15Back, l15Ok, GoodJumps, WayTo, JumpsBetween, IsSpoiled, WayToSingle, for every three ints and ints up to 2^63 - 1. -/
import Derived.Test.YtgkmapemnlgldaaWayMath
import Derived.Test.YtgkmapemnlgldaaReachC
import Derived.Test.YtgkmapemnlgldaaJumps
import Derived.Test.YtgkmapemnlgldaaGames
import Derived.Deep.LoopGhost
namespace Go.Proofs.Ytgkmapemnlgldaa
open Go.RowKit
set_option linter.unusedVariables false
set_option linter.unusedSimpArgs false
/-- A list of lines that grows beside marks and a list that are read. -/
structure WaySt (w0 : World) (W H Z : Int) (gs M : Nat) (s : Nat → Bool) (ga : Option Addr) (n gc : Nat) (js : List Ln) (v : Value) (out : List Ln) (w : World) : Prop where
  box : Box w0.heap.size W H Z w0 w
  marks : w.ownsRow w0.heap.size 4 1 (.slice (some ⟨gs, 0, none⟩) M M) M (bv M s)
  ls : w.ownsRow w0.heap.size 76 3 (.slice ga n gc) n (lv js)
  len : js.length = n
  out : w.ownsRow (w0.heap.size + 1) 76 3 v out.length (lv out)
  mo : v.ownBlock ≠ some gs
  lo : ∀ g0, ga = some ⟨g0, 0, none⟩ → v.ownBlock ≠ some g0
  size : w0.heap.size + 1 ≤ w.heap.size
section
variable {w0 w w' : World} {W H Z : Int} {gs M n gc : Nat} {s : Nat → Bool} {ga : Option Addr} {js out : List Ln} {v : Value}
theorem WaySt.later (h : WaySt w0 W H Z gs M s ga n gc js v out w) (hb : Below w.heap.size w w') : WaySt w0 W H Z gs M s ga n gc js v out w' :=
  ⟨h.box.later hb, own_below h.marks hb, own_below h.ls hb, h.len, own_below h.out hb, h.mo, h.lo, Nat.le_trans h.size hb.size⟩
/-- Another list to read, in new memory. -/
theorem WaySt.take (h : WaySt w0 W H Z gs M s ga n gc js v out w) (hb : Below w.heap.size w w') {ga' : Option Addr} {n' gc' : Nat} {js' : List Ln} (hl : w'.ownsRow w.heap.size 76 3 (.slice ga' n' gc') n' (lv js')) (hn : js'.length = n') : WaySt w0 W H Z gs M s ga' n' gc' js' v out w' := by
  refine ⟨h.box.later hb, own_below h.marks hb, own_base hl (Nat.le_trans (Nat.le_succ _) h.size), hn, own_below h.out hb, h.mo, fun g0 hg e => ?_, Nat.le_trans h.size hb.size⟩
  have h1 := (hl.lt g0 (by rw [hg]; rfl)).1
  have h2 := (h.out.lt g0 e).2
  omega
theorem WaySt.push (h : WaySt w0 W H Z gs M s ga n gc js v out w) {g cap : Nat} {f o t : Int}
    (hown : w'.ownsRow (w0.heap.size + 1) 76 3 (.slice (some ⟨g, 0, none⟩) (out.length + 1) cap) (out.length + 1) (lv (out ++ [(f, o, t)]))) (hgrow : (w.alloc (.cells #[.int .i64 f, .int .i64 o, .int .i64 t] 76)).grownBy w' v.ownBlock) (hb : Below (w0.heap.size + 1) w w') (hat : v.ownBlock = some g ∨ g = w.heap.size + 1) :
    WaySt w0 W H Z gs M s ga n gc js (.slice (some ⟨g, 0, none⟩) (out.length + 1) cap) (out ++ [(f, o, t)]) w' := by
  have hba : Below w.heap.size w (w.alloc (.cells #[.int .i64 f, .int .i64 o, .int .i64 t] 76)) := (Below.refl _ _).alloc (Nat.le_refl _) _
  have hms := (h.marks.lt gs rfl).2
  refine ⟨h.box.kept hb (Nat.lt_succ_self _) (Nat.le_succ _), (own_below h.marks hba).kept hgrow (.inr fun e => h.mo e.symm), ?_, h.len, by rw [List.length_append]; exact hown, fun e => ?_, fun g0 hg e => ?_, Nat.le_trans h.size hb.size⟩
  · refine (own_below h.ls hba).kept hgrow ?_
    rcases Go.Joins.ownsRow_forms h.ls with ⟨h1, -⟩ | ⟨g', cap', h1⟩
    · left; injection h1 with h1 _ _; subst h1; rfl
    · right
      injection h1 with h1 _ _
      subst h1
      exact fun e => h.lo g' rfl e.symm
  · have hg' : g = gs := by simpa [Value.ownBlock] using e
    subst hg'
    rcases hat with h3 | h3
    · exact h.mo h3
    · omega
  · have hg' : g = g0 := by simpa [Value.ownBlock] using e
    subst hg'
    rcases hat with h3 | h3
    · exact h.lo g hg h3
    · have := (h.ls.lt g (by rw [hg]; rfl)).2
      omega
theorem WaySt.cells (h : WaySt w0 W H Z gs M s ga n gc js v out w) {i : Nat} {l : Ln} (hi : js[i]? = some l) : ∃ g, ga = some ⟨g, 0, none⟩ ∧ w.cell? ⟨g, i * 3, none⟩ = some (.int .i64 l.1) ∧ w.cell? ⟨g, i * 3 + 1, none⟩ = some (.int .i64 l.2.1) ∧ w.cell? ⟨g, i * 3 + 2, none⟩ = some (.int .i64 l.2.2) := by
  have hlt := (List.getElem?_eq_some_iff.1 hi).1
  rw [h.len] at hlt
  obtain ⟨g, rfl⟩ : ∃ g, ga = some ⟨g, 0, none⟩ := by
    rcases Go.Joins.ownsRow_forms h.ls with ⟨h, h0⟩ | ⟨g, cap, h⟩
    · omega
    · injection h with h1 h2 h3; exact ⟨g, h1⟩
  exact ⟨g, rfl, line_cells h.ls h.len hi⟩
theorem WaySt.mark (h : WaySt w0 W H Z gs M s ga n gc js v out w) (q : Nat) (hq : q < M) : w.cell? ⟨gs, q, none⟩ = some (.bool (s q)) := own_cell h.marks q hq _ (bv_get _ hq)
end
/-- The first state: nothing to read but the marks, an empty list. -/
theorem way_new {w w1 : World} {W H Z : Int} {gs M : Nat} {s : Nat → Bool} (B : Box w.heap.size W H Z w w1) (hm : w1.ownsRow w.heap.size 4 1 (.slice (some ⟨gs, 0, none⟩) M M) M (bv M s)) {v : Value} (ho : w1.ownsRow (w.heap.size + 1) 76 3 v 0 (lv [])) (hv : v.ownBlock ≠ some gs) : WaySt w W H Z gs M s none 0 0 [] v [] w1 :=
  ⟨B, hm, World.ownsRow_nil _ _ _ _, rfl, ho, hv, fun g0 h => (by cases h), B.2.2.2.1⟩
/-- A list of lines and a bool. -/
def OwnLnB (r : List Ln × Bool) (w : World) (e : Ending) (w' : World) : Prop :=
  ∃ v, e = .returned (.tuple #[v, .bool r.2]) ∧ w'.ownsRow w.heap.size 76 3 v r.1.length (lv r.1) ∧ Below w.heap.size w w'
set_option maxHeartbeats 1000000 in
set_option maxRecDepth 100000 in
theorem specL15Ok (W H Z P G : Int) (hP : P ≤ 9223372036854775807) (hG : G ≤ 9223372036854775807) (w : World) : Calls Try.prog 46 #[.agg #[.int .i64 W, .int .i64 H, .int .i64 Z], .int .i64 P, .int .i64 G] w (QB (smallB W H Z && posB W H Z P && posB W H Z G) w) := by
  have C1 := Lib.hid (fun w => specSmall W H Z w)
  have C2 := Lib.hid (fun w => specPos W H Z P hP w)
  have C3 := Lib.hid (fun w => specPos W H Z G hG w)
  clear hP hG
  generalize smallB W H Z = s1 at *
  generalize posB W H Z P = s2 at *
  generalize posB W H Z G = s3 at *
  go_enter Try.func46, Try.ntmps46
  go_wp2_with fail
  have B0 := Lib.hid (box_new W H Z w)
  generalize w.alloc (.cells #[.int .i64 W, .int .i64 H, .int .i64 Z] 25) = W1 at *
  obtain ⟨c0, c1, c2, hlt, hb1⟩ := B0.out
  go_wp2_with fail
  refine (C1.out _).mono ?_
  rintro e w1 ⟨rfl, hb⟩
  have B1 := Lib.hid (B0.out.later hb)
  clear hb c0 c1 c2 hlt hb1
  cases s1
  · go_wp2_with fail
    go_ret
    exact ⟨rfl, B1.out.2.2.2.2⟩
  obtain ⟨c0, c1, c2, hlt, hb1⟩ := B1.out
  go_wp2_with fail
  refine (C2.out _).mono ?_
  rintro e w2 ⟨rfl, hb⟩
  have B2 := Lib.hid (B1.out.later hb)
  clear hb c0 c1 c2 hlt hb1
  cases s2
  · go_wp2_with fail
    go_ret
    exact ⟨rfl, B2.out.2.2.2.2⟩
  obtain ⟨c0, c1, c2, hlt, hb1⟩ := B2.out
  go_wp2_with fail
  refine (C3.out _).mono ?_
  rintro e w3 ⟨rfl, hb⟩
  have B3 := Lib.hid (B2.out.later hb)
  clear hb c0 c1 c2 hlt hb1
  go_wp2_with fail
  go_ret
  exact ⟨by cases s3 <;> rfl, B3.out.2.2.2.2⟩
/-- What the marks of the search backwards say at a jump. -/
theorem mark_is {a b N z p g : Nat} (ho : Ok (a : Int) (b : Int) N z) (h16 : N ≤ 16) (hp : Part p z) (hg : Part g z) {l : Ln} (hl : l ∈ lnsOf (a : Int) b z) : ∃ f o t r : Nat, l = ((f : Int), (o : Int), (t : Int)) ∧ f < 49 ∧ o < 49 ∧ t < 49 ∧ flipN p f o t = r ∧ r < 2 ^ N ∧ flipL (p : Int) l = (r : Int) ∧ Part r z ∧ seenB true (a : Int) b z g r = reachB false (a : Int) b z (r : Int) g := by
  obtain ⟨hN, ha, -, -, -, h49⟩ := ho.nat
  have hl' := hl
  rw [lnsOf_ok ho] at hl'
  obtain ⟨f, o, t, S⟩ := mem_at hN ha hl'
  have hr : Part (flipN p f o t) z := part_flip hp S.bf S.bo S.bt
  exact ⟨f, o, t, _, S.eq, Nat.lt_of_lt_of_le S.fN h49, Nat.lt_of_lt_of_le S.oN h49, Nat.lt_of_lt_of_le S.tN h49, rfl, part_lt hr ho.zlt, (hit_at (back := false) (p := p) S).2, hr, back_reach ho h16 hg hr⟩
theorem jumps_lines {W H Z P : Int} {l : Ln} (h : l ∈ jumpsL W H Z P) : l ∈ lnsOf W H Z := by
  have := (jump_parts (jumpsL_mem.1 h)).2.1
  rwa [List.contains_iff_mem] at this
theorem first_hit {α : Type} {q : α → Bool} : ∀ {xs : List α} {k : Nat} {l : α}, (∀ x ∈ xs.take k, q x = false) → xs[k]? = some l → q l = true → xs.find? q = some l
  | [], k, l, _, h, _ => by simp at h
  | x :: xs, 0, l, _, h, hq => by
    simp only [List.getElem?_cons_zero, Option.some.injEq] at h
    subst h
    simp [hq]
  | x :: xs, k + 1, l, hn, h, hq => by
    have hx := hn x (by simp)
    rw [List.find?_cons, hx]
    exact first_hit (k := k) (fun y hy => hn y (by rw [List.take_succ_cons]; exact List.mem_cons_of_mem _ hy)) (by simpa using h) hq
theorem no_hit {α : Type} {q : α → Bool} {xs : List α} {n : Nat} (hn : xs.length ≤ n) (h : ∀ x ∈ xs.take n, q x = false) : xs.find? q = none := by
  rw [List.take_of_length_le hn] at h
  rw [List.find?_eq_none]
  intro x hx e
  rw [h x hx] at e
  cases e
/-- What is still to be walked of a way. -/
structure WayAt (a b z g f : Nat) (T : List Ln) (N p : Nat) (out : List Ln) : Prop where
  small : Small5 (a : Int) b z (p : Int) a b N z p
  reach : reachB false (a : Int) b z (p : Int) (g : Int) = true
  fuel : pc 49 p ≤ pc 49 g + f
  eq : out ++ wayF (a : Int) b z (g : Int) f (p : Int) = T
theorem WayAt.done {a b z g f N p : Nat} {T out : List Ln} (h : WayAt a b z g f T N p out) (e : p = g) : out = T := by
  subst e
  have := h.eq
  rw [wayF_at, List.append_nil] at this
  exact this
theorem WayAt.pos {a b z g f N p : Nat} {T out : List Ln} (h : WayAt a b z g f T N p out) (e : p ≠ g) : 0 < f := by
  obtain ⟨l, r, -, -, -, S', h4, h5⟩ := h.small.next h.reach (by omega)
  have h1 := S'.fuel h4
  have := h.fuel
  omega
theorem WayAt.next {a b z g f N p r : Nat} {T out : List Ln} (h : WayAt a b z g (f + 1) T N p out) (e : p ≠ g) {l : Ln} (hl : nextL (a : Int) b z (g : Int) (p : Int) = some l) (hr : flipL (p : Int) l = (r : Int)) : WayAt a b z g f T N r (out ++ [l]) := by
  obtain ⟨l', r', h1, h2, h3, S', h4, h5⟩ := h.small.next h.reach (by omega)
  rw [hl] at h1
  cases h1
  obtain rfl : r = r' := by omega
  refine ⟨S', h4, by have := h.fuel; omega, ?_⟩
  rw [← h.eq, List.append_assoc]
  congr 1
  have e' : ¬ (p : Int) = (g : Int) := by omega
  simp only [wayF, e', if_false, hl, hr, List.singleton_append]
theorem WayAt.some {a b z g f N p : Nat} {T out : List Ln} (h : WayAt a b z g f T N p out) (e : p ≠ g) : nextL (a : Int) b z (g : Int) (p : Int) ≠ none := by
  obtain ⟨l, r, h1, -⟩ := h.small.next h.reach (by omega)
  rw [h1]
  simp
theorem out_le {a b z g f N p : Nat} {T out : List Ln} (h : WayAt a b z g f T N p out) (hT : T.length ≤ 49) : out.length ≤ 49 := by
  have := h.eq
  rw [← this, List.length_append] at hT
  omega
theorem count_in (W H Z P : Int) : -1 ≤ countB W H Z P ∧ countB W H Z P ≤ 49 := by
  unfold countB
  split
  · have := pc_le 49 P.toNat; omega
  · omega
theorem spoilB_no {W H Z P G : Int} {l : Ln} (h : reachB false W H Z P G = false) : spoilB W H Z P G l = false := by unfold spoilB; rw [h]; rfl
theorem spoilB_not {W H Z P G : Int} {l : Ln} (h : jumpB W H Z P l = false) : spoilB W H Z P G l = false := by unfold spoilB; rw [h, Bool.and_false]; rfl
theorem spoilB_yes {W H Z P G : Int} {l : Ln} (h1 : reachB false W H Z P G = true) (h2 : jumpB W H Z P l = true) : spoilB W H Z P G l = !reachB false W H Z (flipL P l) G := by unfold spoilB; rw [h1, h2]; rfl
theorem oneWay_nil {W H Z P : Int} (h : finL W H Z P = []) : oneWayB W H Z P = ([], false) := by unfold oneWayB; rw [h]
theorem oneWay_cons {W H Z P : Int} {k : Nat} {l : List Nat} (h : finL W H Z P = k :: l) : oneWayB W H Z P = wayB W H Z P (2 ^ k) := by unfold oneWayB; rw [h]
theorem fin_le (W H Z P : Int) : (finL W H Z P).length ≤ 49 := Nat.le_trans (List.length_filter_le ..) (holesR_len W H Z)
theorem fin_mem {W H Z P : Int} {k : Nat} (h : k ∈ finL W H Z P) : k < 49 ∧ 2 ^ k ∈ reachL false W H Z P := by
  unfold finL at h
  obtain ⟨h1, h2⟩ := List.mem_filter.1 h
  exact ⟨holesR_lt h1, of_decide_eq_true h2⟩
end Go.Proofs.Ytgkmapemnlgldaa
