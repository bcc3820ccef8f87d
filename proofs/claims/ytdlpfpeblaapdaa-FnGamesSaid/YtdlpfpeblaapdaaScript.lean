/- A region whose order is open, by a script: operations that come to one value in every world to come are taken in whatever order is written; the one operation that may come up is carried out. Of no program. -/
import Derived.OrdersHeld
import Derived.Below
import Derived.Deep.RegionHeld
namespace Go.Proofs.Ytdlpfpeblaapdaa
open Go.RowKit
section
variable {P : Program} {ops : Array Oper} {Q : Exit → Act → World → Prop} {md : Region.Mode}
/-- The world has grown; nothing of it has turned. -/
def After (w w' : World) : Prop := Below w.heap.size w w'
theorem After.refl (w : World) : After w w := Below.refl _ _
theorem After.trans {a b c : World} (h : After a b) (k : After b c) : After a c := Below.trans h (Below.mono k (Below.size h))
theorem After.drew {a b : World} (h : After a b) : After a b.drew := Below.drew h
/-- What holds of a world holds of what it grows to. -/
def Closed (S : World → Prop) : Prop := ∀ w w', S w → After w w' → S w'
theorem closed_after (w0 : World) : Closed (After w0) := fun _ _ h k => h.trans k
theorem closed_true : Closed (fun _ => True) := fun _ _ _ _ => trivial
theorem closed_row (p : Nat) (o : Obj) : Closed (fun w => w.heap[p]? = some o) := fun w w' h k => by
  have h : w.heap[p]? = some o := h
  have hlt : p < w.heap.size := by
    rcases Nat.lt_or_ge p w.heap.size with h' | h'
    · exact h'
    · rw [Array.getElem?_eq_none h'] at h; cases h
  exact (Below.block k p hlt).trans h
/-- A pointer to a row at or beyond B. -/
def PtrRow (B : Nat) (cs : Array Value) (T : TypeId) (v : Value) (w : World) : Prop := ∃ p, v = .pointer (some ⟨p, 0, none⟩) ∧ B ≤ p ∧ w.heap[p]? = some (.cells cs T (0, 0))
theorem closed_ptr {B : Nat} {cs : Array Value} {T : TypeId} {v : Value} : Closed (PtrRow B cs T v) := fun w w' ⟨p, hv, hB, h⟩ k => ⟨p, hv, hB, closed_row p _ w w' h k⟩
theorem Closed.and {S S' : World → Prop} (h : Closed S) (h' : Closed S') : Closed (fun w => S w ∧ S' w) := fun w w' hh k => ⟨h w w' hh.1 k, h' w w' hh.2 k⟩
/-- In state 'a', in every world that meets S, operation 'o' comes to 'c', and the world grows. -/
def Fixes (P : Program) (ops : Array Oper) (S : World → Prop) (o : Oper) (c : Value) (a : Act) : Prop :=
  (Region.wanted o (yielded ops a.tmps) = true ∧ ∀ w, S w → o.wp P a w (fun a' w' => a' = a.put o.dst c ∧ After w w') (fun _ _ _ => False)) ∨
  (Region.wanted o (yielded ops a.tmps) = false ∧ c = undef)
theorem put_size (a : Act) (d : Option Tmp) (v : Value) : (a.put d v).tmps.size = a.tmps.size := by cases d <;> simp [Act.put]
theorem put_same {a b : Act} (hs : a.tmps.size = b.tmps.size) {d : Option Tmp} {u v : Value} (h : a.put d u = a.put d v) : b.put d u = b.put d v := by
  cases d with
  | none => rfl
  | some t =>
    by_cases ht : t < a.tmps.size
    · have h1 : (a.put (some t) u).tmps[t]? = (a.put (some t) v).tmps[t]? := by rw [h]
      simp [Act.put, ht] at h1
      rw [h1]
    · have hb : ¬ t < b.tmps.size := by rw [← hs]; exact ht
      simp only [Act.put, Array.setIfInBounds, hb, dite_false]
theorem wp_same {o : Oper} {a b : Act} {w : World} {c : Value} (hs : a.tmps.size = b.tmps.size) (he : execOp b.eval o = execOp a.eval o)
    (h : o.wp P a w (fun a' w' => a' = a.put o.dst c ∧ After w w') (fun _ _ _ => False)) : o.wp P b w (fun a' w' => a' = b.put o.dst c ∧ After w w') (fun _ _ _ => False) := by
  unfold Oper.wp at *
  rw [he]
  generalize (execOp a.eval o).run P w = r at *
  cases r with
  | ok n w' =>
    cases n <;> simp only [Oper.upon] at h ⊢
    case value u => exact ⟨put_same hs h.1, h.2⟩
    case skip => exact ⟨put_same hs h.1, h.2⟩
    case defer d =>
      have h1 := congrArg Act.defers h.1
      have e1 : ∀ (x : Act) (y : Option Tmp) v, (x.put y v).defers = x.defers := fun x y v => by cases y <;> rfl
      rw [e1, e1] at h1
      have := congrArg List.length h1
      simp at this
    case enter f args =>
      refine Calls.mono h fun e w'' he => ?_
      cases e with
      | returned u => exact ⟨put_same hs he.1, he.2⟩
      | panicked c => exact he
      | outgrown => exact he
    case row row args => exact Rows.mono h fun u w'' he => ⟨put_same hs he.1, he.2⟩
  | halt x w' =>
    cases x <;> simp only [Oper.upon] at h ⊢
theorem Fixes.of_same {S : World → Prop} {o : Oper} {c : Value} {a b : Act} (h : Fixes P ops S o c a) (hs : a.tmps.size = b.tmps.size) (he : execOp b.eval o = execOp a.eval o)
    (hw : Region.wanted o (yielded ops b.tmps) = Region.wanted o (yielded ops a.tmps)) : Fixes P ops S o c b := by
  unfold Fixes at *
  rw [hw]
  exact h.imp (fun ⟨x, y⟩ => ⟨x, fun w hA => wp_same hs he (y w hA)⟩) id
theorem Fixes.sub {S S' : World → Prop} {o : Oper} {c : Value} {a : Act} (h : Fixes P ops S o c a) (hA : ∀ w, S' w → S w) : Fixes P ops S' o c a :=
  h.imp (fun ⟨x, y⟩ => ⟨x, fun w hw => y w (hA w hw)⟩) id
theorem wp_post {o : Oper} {a : Act} {w : World} {K : Act → World → Prop} (h : o.wp P a w K (fun _ _ _ => False)) : o.wp P a w K Q := by
  unfold Oper.wp at *
  generalize (execOp a.eval o).run P w = r at *
  cases r with
  | ok n w' =>
    cases n <;> simp only [Oper.upon] at h ⊢ <;> first | exact h | skip
    case enter f args =>
      refine Calls.mono h fun e w'' he => ?_
      cases e with
      | returned u => exact he
      | panicked c => exact he.elim
      | outgrown => obtain ⟨_, _, hf⟩ := he; exact hf.elim
  | halt x w' =>
    cases x <;> simp only [Oper.upon] at h ⊢
theorem Fixes.wpOp {i : Nat} {o : Oper} {c : Value} {a : Act} {S : World → Prop} {w : World} (hi : ops[i]? = some o) (h : Fixes P ops S o c a) (hA : S w)
    {K : Act → World → Prop} (hK : ∀ w', After w w' → K (a.put o.dst c) w') : wpOp P ops Q i K a w := by
  unfold Go.wpOp
  simp only [hi]
  rcases h with ⟨hw, hv⟩ | ⟨hw, rfl⟩
  · simp only [hw, if_true]
    refine .inl (wp_post (Oper.wp_mono (fun a' w' h' => ?_) (hv w hA)))
    rw [h'.1]
    exact hK w' h'.2
  · simp only [hw, Bool.false_eq_true, if_false]; exact hK w (After.refl w)
/-- One operation 'oj', apart from 'oi': whether 'oi's value is already in its temporary makes no difference to it, and it makes none to 'oi'. -/
theorem wpOp_fix {j : Nat} {oi oj : Oper} {v : Value} {S : World → Prop} (hj : ops[j]? = some oj) (hap : oi.apart ops oj = true)
    (hsi : ∀ cs b, oi.op ≠ .select cs b) (hsj : ∀ cs b, oj.op ≠ .select cs b)
    (hQ : ∀ c a w, Q (.panic c) (a.put oi.dst v) w → Q (.panic c) a w) {K : Act → World → Prop} {a : Act} {w : World}
    (hy : Fixes P ops S oi v a) (h : wpOp P ops Q j K (a.put oi.dst v) w) :
    wpOp P ops Q j (fun a' w' => Fixes P ops S oi v a' ∧ K (a'.put oi.dst v) w') a w := by
  obtain ⟨h1, h2, h3⟩ := Oper.apart_spec hap
  have keep : ∀ (a : Act), Fixes P ops S oi v a → ∀ u, Fixes P ops S oi v (a.put oj.dst u) := fun a hy u =>
    hy.of_same (put_size _ _ _).symm (execOp_put oi hsi a oj.dst u h3) (wanted_put oi a oj.dst u h3)
  have keepD : ∀ d, Fixes P ops S oi v { a with defers := d :: a.defers } := fun d => hy.of_same rfl rfl rfl
  unfold wpOp at *
  simp only [hj] at *
  rw [wanted_put oj a oi.dst v h1] at h
  split
  · rename_i hw
    simp only [hw, if_true] at h
    rcases h with h | ⟨hasks, hlets⟩
    case inr => exact .inr ⟨by unfold Oper.asks at *; rw [execOp_put oj hsj a oi.dst v h1] at hasks; exact hasks, hlets⟩
    refine .inl ?_
    unfold Oper.wp at *
    rw [execOp_put oj hsj a oi.dst v h1] at h
    generalize (execOp a.eval oj).run P w = r at *
    cases r with
    | ok n w' =>
      cases n <;> simp only [Oper.upon] at h ⊢
      case value u => exact ⟨keep a hy u, by rw [← Act.put_comm a v u h2]; exact h⟩
      case skip => exact ⟨keep a hy _, by rw [← Act.put_comm a v undef h2]; exact h⟩
      case defer d =>
        refine ⟨keep _ (keepD d) _, ?_⟩
        rw [← Act.put_comm _ v undef h2, ← Act.put_defers]
        exact h
      case enter f args =>
        refine Calls.mono h fun e w'' he => ?_
        cases e with
        | returned u => exact ⟨keep a hy u, by rw [← Act.put_comm a v u h2]; exact he⟩
        | panicked c => exact hQ _ _ _ he
        | outgrown => exact he
      case row row args => exact Rows.mono h fun u w'' he => ⟨keep a hy u, by rw [← Act.put_comm a v u h2]; exact he⟩
    | halt x w' =>
      cases x <;> simp only [Oper.upon] at h ⊢
      case panic u => exact hQ _ _ _ h
  · rename_i hw
    simp only [hw] at h
    exact ⟨keep a hy _, by rw [← Act.put_comm a v undef h2]; exact h⟩
/-- A script of a region whose order is open: done; or an operation that comes to one value in every world that meets S; or the one operation that may come up. G: what else is told of the world at hand (it holds till the next such operation). -/
def Script (P : Program) (md : Region.Mode) (ops : Array Oper) (Q : Exit → Act → World → Prop) : Nat → (World → Prop) → (World → Prop) → Array Bool → Act → Prop
  | 0, S, G, listed, a => Region.ready md ops listed = [] ∧ ∀ w, S w → G w → Q .normal a w
  | n + 1, S, G, listed, a =>
    (Region.ready md ops listed = [] ∧ ∀ w, S w → G w → Q .normal a w) ∨
    (∃ i oi c, ops[i]? = some oi ∧ i ∈ Region.ready md ops listed ∧ Region.free md ops listed i = true ∧ (∀ k a w, Q (.panic k) (a.put oi.dst c) w → Q (.panic k) a w) ∧ Fixes P ops S oi c a ∧ Script P md ops Q n S G (listed.setIfInBounds i true) (a.put oi.dst c)) ∨
    (∃ i, Region.ready md ops listed = [i] ∧ ∀ w, S w → G w → wpOp P ops Q i (fun a' w' => ∃ S' G', (∀ x, S' x → S x) ∧ Closed S' ∧ Closed G' ∧ S' w' ∧ G' w' ∧ Script P md ops Q n S' G' (listed.setIfInBounds i true) a') a w)
theorem free_mono {i j : Nat} {listed : Array Bool} (h : Region.free md ops listed i = true) : Region.free md ops (listed.setIfInBounds j true) i = true := by
  unfold Region.free at *
  cases hi : ops[i]? with
  | none => rw [hi] at h; exact h
  | some oi =>
    simp only [hi, List.all_eq_true, List.mem_range] at h ⊢
    intro k hk
    have h1 := h k hk
    simp only [Bool.or_eq_true] at h1 ⊢
    rcases h1 with (h1 | h1) | h1
    · exact .inl (.inl h1)
    · left; right
      by_cases hjk : j = k
      · subst hjk
        by_cases hl : j < listed.size <;> simp [hl]
      · rw [getD_set_ne true hjk]; exact h1
    · exact .inr h1
/-- An operation that may come up now, brought to the front. -/
theorem Script.front (hsel : Region.noSelect ops = true) : ∀ (n : Nat) (S G : World → Prop) (listed : Array Bool) (a : Act) (j : Nat), Closed S → Closed G → Script P md ops Q n S G listed a → j ∈ Region.ready md ops listed →
    ∃ m, n = m + 1 ∧ ((∃ oj c, ops[j]? = some oj ∧ Region.free md ops listed j = true ∧ (∀ k a w, Q (.panic k) (a.put oj.dst c) w → Q (.panic k) a w) ∧ Fixes P ops S oj c a ∧ Script P md ops Q m S G (listed.setIfInBounds j true) (a.put oj.dst c)) ∨
      (∀ w, S w → G w → wpOp P ops Q j (fun a' w' => ∃ S' G', (∀ x, S' x → S x) ∧ Closed S' ∧ Closed G' ∧ S' w' ∧ G' w' ∧ Script P md ops Q m S' G' (listed.setIfInBounds j true) a') a w)) := by
  intro n
  induction n with
  | zero => intro S G listed a j _ _ h hj; rw [h.1] at hj; cases hj
  | succ n ih =>
    intro S G listed a j cS cG h hj
    refine ⟨n, rfl, ?_⟩
    rcases h with ⟨h1, h2⟩ | ⟨i, oi, c, hi, hr, hf, hq, hfx, hs⟩ | ⟨i, h1, h2⟩
    · rw [h1] at hj; cases hj
    · by_cases hji : j = i
      · subst hji
        exact .inl ⟨oi, c, hi, hf, hq, hfx, hs⟩
      · obtain ⟨hjun, oj, hoj, hall⟩ := mem_ready.1 hj
        have hnot : ∀ e ∈ oj.after, Region.binds md e = true → e.on ≠ i := fun e he hb heq => by
          have h1 := hall e he hb
          have h0 := (mem_ready.1 hr).1
          rw [heq] at h1
          rcases Nat.lt_or_ge i listed.size with h' | h'
          · simp [h'] at h0 h1; rw [h0] at h1; cases h1
          · simp [Array.getElem?_eq_none h'] at h1
        have hap := Region.free_spec hi hf j oj hoj hji hjun hnot
        obtain ⟨x1, x2, x3⟩ := Oper.apart_spec hap
        have hsi : ∀ cs b, oi.op ≠ .select cs b := fun cs b => Region.noSelect_spec hsel i oi cs b hi
        have hsj : ∀ cs b, oj.op ≠ .select cs b := fun cs b => Region.noSelect_spec hsel j oj cs b hoj
        obtain ⟨m, rfl, h | h⟩ := ih S G _ _ j cS cG hs (ready_mono hj hji)
        · obtain ⟨oj', d, hoj', hfj, hqj, hfxj, hsj'⟩ := h
          obtain rfl : oj = oj' := Option.some.inj (hoj.symm.trans hoj')
          have hfx' : Fixes P ops S oj d a := hfxj.of_same (put_size _ _ _) (execOp_put oj hsj a oi.dst c x1).symm (wanted_put oj a oi.dst c x1).symm
          have hnew : Script P md ops Q (m + 1) S G (listed.setIfInBounds j true) (a.put oj.dst d) := by
            refine .inr (.inl ⟨i, oi, c, hi, ready_mono hr (Ne.symm hji), free_mono hf, hq, hfx.of_same (put_size _ _ _).symm (execOp_put oi hsi a oj.dst d x3) (wanted_put oi a oj.dst d x3), ?_⟩)
            rw [Array.setIfInBounds_comm _ _ hji, ← Act.put_comm a c d x2]
            exact hsj'
          by_cases hfree : Region.free md ops listed j = true
          · exact .inl ⟨oj, d, hoj, hfree, hqj, hfx', hnew⟩
          · exact .inr fun w hS hG => hfx'.wpOp hoj hS fun w' hA' => ⟨S, G, fun _ h => h, cS, cG, cS _ _ hS hA', cG _ _ hG hA', hnew⟩
        · refine .inr fun w hS hG => ?_
          have h2 := wpOp_fix hoj hap hsi hsj (fun k a w => hq k a w) hfx (h w hS hG)
          refine wpOp_mono (fun a' w' h3 => ?_) h2
          obtain ⟨hfa, S', G', hsub, cS', cG', hS', hG', h4⟩ := h3
          refine ⟨S', G', hsub, cS', cG', hS', hG', .inr (.inl ⟨i, oi, c, hi, ready_mono hr (Ne.symm hji), free_mono hf, hq, hfa.sub hsub, ?_⟩)⟩
          rw [Array.setIfInBounds_comm _ _ hji]
          exact h4
    · rw [h1] at hj
      obtain rfl : j = i := by simpa using hj
      exact .inr h2
theorem Script.any (hsel : Region.noSelect ops = true) : ∀ (n : Nat) (S G : World → Prop) (listed : Array Bool) (a : Act), Closed S → Closed G → Script P md ops Q n S G listed a → ∀ w, S w → G w → wpAny P md ops Q n listed a w := by
  intro n
  induction n with
  | zero => intro S G listed a _ _ h w hS hG; exact ⟨h.1, h.2 w hS hG⟩
  | succ n ih =>
    intro S G listed a cS cG h w hS hG
    refine ⟨fun hnil => ?_, fun j hj => ?_⟩
    · rcases h with ⟨_, h2⟩ | ⟨i, oi, c, hi, hr, _⟩ | ⟨i, h1, _⟩
      · exact h2 w hS hG
      · rw [hnil] at hr; cases hr
      · rw [hnil] at h1; cases h1
    · obtain ⟨m, hm, h | h⟩ := Script.front hsel (n + 1) S G listed a j cS cG h hj
      · obtain rfl : n = m := by omega
        obtain ⟨oj, c, hoj, _, _, hfx, hs⟩ := h
        exact hfx.wpOp hoj hS fun w' hA' => ih S G _ _ cS cG hs w' (cS _ _ hS hA') (cG _ _ hG hA')
      · obtain rfl : n = m := by omega
        refine wpOp_mono (fun a' w' h' => ?_) (h w hS hG)
        obtain ⟨S', G', _, cS', cG', hS', hG', h4⟩ := h'
        exact ih S' G' _ _ cS' cG' h4 w' hS' hG'
/-- **The beginning**: a region that draws its order, by a script. -/
theorem wp_region_script {id : Nat} {a : Act} {w : World} (hm : P.follows .mixedOrders = true) (hsel : Region.noSelect ops = true)
    (h : Script P .any ops Q ops.size (After w.drew) (fun _ => True) (Array.replicate ops.size false) a) : (Code.region id ops true).wp P Q a w :=
  wp_region_any hm (Script.any hsel _ _ _ _ _ (closed_after _) closed_true h _ (After.refl _) trivial)
/-- The same from predicates of one's own: what holds all the way, and what is told of the world at hand. -/
theorem wp_region_from {id : Nat} {a : Act} {w : World} (S G : World → Prop) (hm : P.follows .mixedOrders = true) (hsel : Region.noSelect ops = true) (cS : Closed S) (cG : Closed G) (hS : S w.drew) (hG : G w.drew)
    (h : Script P .any ops Q ops.size S G (Array.replicate ops.size false) a) : (Code.region id ops true).wp P Q a w :=
  wp_region_any hm (Script.any hsel _ _ _ _ _ cS cG h _ hS hG)
variable {S G : World → Prop}
theorem Script.done {n : Nat} {listed : Array Bool} {a : Act} (hr : Region.ready md ops listed = []) (h : ∀ w, S w → G w → Q .normal a w) : Script P md ops Q n S G listed a := by
  cases n with
  | zero => exact ⟨hr, h⟩
  | succ n => exact .inl ⟨hr, h⟩
/-- An operation that yields its value in every world that meets S, and leaves it. -/
theorem Script.load {n i : Nat} {oi : Oper} {v : Value} {listed : Array Bool} {a : Act} (hi : ops[i]? = some oi) (hr : (Region.ready md ops listed).contains i = true) (hf : Region.free md ops listed i = true)
    (hQ : ∀ k a w, Q (.panic k) (a.put oi.dst v) w → Q (.panic k) a w)
    (hw : Region.wanted oi (yielded ops a.tmps) = true) (hy : ∀ w, S w → (execOp a.eval oi).run P w = .ok (.value v) w)
    (h : Script P md ops Q n S G (listed.setIfInBounds i true) (a.put oi.dst v)) : Script P md ops Q (n + 1) S G listed a :=
  .inr (.inl ⟨i, oi, v, hi, by simpa using hr, hf, hQ, .inl ⟨hw, fun w hA => by unfold Oper.wp; rw [hy w hA]; exact ⟨rfl, After.refl _⟩⟩, h⟩)
/-- An operation that is not wanted. -/
theorem Script.skip {n i : Nat} {oi : Oper} {listed : Array Bool} {a : Act} (hi : ops[i]? = some oi) (hr : (Region.ready md ops listed).contains i = true) (hf : Region.free md ops listed i = true)
    (hQ : ∀ k a w, Q (.panic k) (a.put oi.dst undef) w → Q (.panic k) a w)
    (hw : Region.wanted oi (yielded ops a.tmps) = false)
    (h : Script P md ops Q n S G (listed.setIfInBounds i true) (a.put oi.dst undef)) : Script P md ops Q (n + 1) S G listed a :=
  .inr (.inl ⟨i, oi, undef, hi, by simpa using hr, hf, hQ, .inr ⟨hw, rfl⟩, h⟩)
/-- A call (or whatever else) that comes to one value in every world that meets S. -/
theorem Script.call {n i : Nat} {oi : Oper} {v : Value} {listed : Array Bool} {a : Act} (hi : ops[i]? = some oi) (hr : (Region.ready md ops listed).contains i = true) (hf : Region.free md ops listed i = true)
    (hQ : ∀ k a w, Q (.panic k) (a.put oi.dst v) w → Q (.panic k) a w)
    (hw : Region.wanted oi (yielded ops a.tmps) = true)
    (hy : ∀ w, S w → ∀ K : Act → World → Prop, Shut (∀ w', After w w' → K (a.put oi.dst v) w') → oi.wp P a w K (fun _ _ _ => False))
    (h : Script P md ops Q n S G (listed.setIfInBounds i true) (a.put oi.dst v)) : Script P md ops Q (n + 1) S G listed a :=
  .inr (.inl ⟨i, oi, v, hi, by simpa using hr, hf, hQ, .inl ⟨hw, fun w hA => hy w hA _ (fun w' hA' => ⟨rfl, hA'⟩)⟩, h⟩)
/-- The one operation that may come up: whatever it comes to; the script goes on from the world that it leaves. -/
theorem Script.one {n i : Nat} {oi : Oper} {w0 : World} {listed : Array Bool} {a : Act} (hi : ops[i]? = some oi) (hr : Region.ready md ops listed = [i])
    (hw : Region.wanted oi (yielded ops a.tmps) = true)
    (hy : ∀ w, After w0 w → ∀ K : Act → World → Prop, Shut (∀ v w', After w w' → Script P md ops Q n (After w') (fun _ => True) (listed.setIfInBounds i true) (a.put oi.dst v) → K (a.put oi.dst v) w') → oi.wp P a w K Q) :
    Script P md ops Q (n + 1) (After w0) G listed a :=
  .inr (.inr ⟨i, hr, fun w hA _ => by
    unfold wpOp
    simp only [hi, hw, if_true]
    exact .inl (hy w hA _ (fun v w' hA' hs => ⟨After w', fun _ => True, fun x hx => (hA.trans hA').trans hx, closed_after _, closed_true, After.refl _, trivial, hs⟩))⟩)
/-- The one operation that may come up, S kept, G anew: an alloc, and the store behind it. -/
theorem Script.oneG {n i : Nat} {oi : Oper} {listed : Array Bool} {a : Act} (G' : Value → World → Prop) (hi : ops[i]? = some oi) (hr : Region.ready md ops listed = [i])
    (hw : Region.wanted oi (yielded ops a.tmps) = true) (cS : Closed S) (cG : ∀ v, Closed (G' v))
    (hy : ∀ w, S w → G w → ∀ K : Act → World → Prop, Shut (∀ v w', S w' → G' v w' → Script P md ops Q n S (G' v) (listed.setIfInBounds i true) (a.put oi.dst v) → K (a.put oi.dst v) w') → oi.wp P a w K Q) :
    Script P md ops Q (n + 1) S G listed a :=
  .inr (.inr ⟨i, hr, fun w hA hG => by
    unfold wpOp
    simp only [hi, hw, if_true]
    exact .inl (hy w hA hG _ (fun v w' hS' hG' hs => ⟨S, G' v, fun x hx => hx, cS, cG v, hS', hG', hs⟩))⟩)
end
end Go.Proofs.Ytdlpfpeblaapdaa
