import Derived.Orders
import Derived.RegionTactic
import Derived.Test.YtlpopfhaephfaabDoorBase
namespace Go.Proofs.YtlpopfhaephfaabDoor
open Go.RowKit

section
variable {P : Program} {md : Region.Mode} {ops : Array Oper} {C : World → Prop} {Q : Exit → Act → World → Prop}

/-- Whatever order is picked, each operation leaving a world of the class C. -/
def InC (P : Program) (md : Region.Mode) (ops : Array Oper) (C : World → Prop) (Q : Exit → Act → World → Prop) : Nat → Array Bool → Act → World → Prop
  | 0, ls, a, w => Region.ready md ops ls = [] ∧ Q .normal a w
  | m + 1, ls, a, w => (Region.ready md ops ls = [] → Q .normal a w) ∧ ∀ i ∈ Region.ready md ops ls, wpOp P ops Q i (fun a' w' => C w' ∧ InC P md ops C Q m (ls.setIfInBounds i true) a' w') a w

theorem InC.any : ∀ (m : Nat) (ls : Array Bool) (a : Act) (w : World), InC P md ops C Q m ls a w → wpAny P md ops Q m ls a w
  | 0, _, _, _, h => h
  | m + 1, _, _, _, h => ⟨h.1, fun i hi => wpOp_mono (fun a' w' k => InC.any m _ a' w' k.2) (h.2 i hi)⟩

/-- In state a the operation yields v in every world of the class. -/
def YldC (P : Program) (ops : Array Oper) (C : World → Prop) (o : Oper) (v : Value) (a : Act) : Prop :=
  (Region.wanted o (yielded ops a.tmps) = true ∧ ∀ w, C w → (execOp a.eval o).run P w = .ok (.value v) w) ∨ (Region.wanted o (yielded ops a.tmps) = false ∧ v = undef)

theorem YldC.moved {o : Oper} {v : Value} {a b : Act} (h : YldC P ops C o v a) (h1 : execOp b.eval o = execOp a.eval o) (h2 : Region.wanted o (yielded ops b.tmps) = Region.wanted o (yielded ops a.tmps)) : YldC P ops C o v b := by
  unfold YldC; rw [h1, h2]; exact h

theorem YldC.now {i : Nat} {o : Oper} {v : Value} {a : Act} {w : World} {K : Act → World → Prop} (ho : ops[i]? = some o) (hy : YldC P ops C o v a) (hw : C w) (hk : K (a.put o.dst v) w) : wpOp P ops Q i K a w := by
  unfold wpOp
  rw [ho]
  rcases hy with ⟨h1, h2⟩ | ⟨h1, rfl⟩
  · simp only [h1, if_true]
    left
    unfold Oper.wp
    rw [h2 w hw]
    exact hk
  · simp only [h1]; exact hk

/-- An operation apart from oi: oi's value may be put ahead of it or behind it. -/
theorem YldC.past {j : Nat} {oi oj : Oper} {v : Value} {a : Act} {w : World} {K : Act → World → Prop} (hj : ops[j]? = some oj) (hap : oi.apart ops oj = true) (n1 : ∀ cs b, oi.op ≠ .select cs b) (n2 : ∀ cs b, oj.op ≠ .select cs b)
    (hQ : ∀ c a w, Q (.panic c) (a.put oi.dst v) w → Q (.panic c) a w) (hy : YldC P ops C oi v a) (h : wpOp P ops Q j K (a.put oi.dst v) w) :
    wpOp P ops Q j (fun a' w' => YldC P ops C oi v a' ∧ K (a'.put oi.dst v) w') a w := by
  obtain ⟨p1, p2, p3⟩ := Oper.apart_spec hap
  have st : ∀ (b : Act), YldC P ops C oi v b → ∀ u, YldC P ops C oi v (b.put oj.dst u) := fun b k u => k.moved (execOp_put oi n1 b oj.dst u p3) (wanted_put oi b oj.dst u p3)
  have e1 := execOp_put oj n2 a oi.dst v p1
  have e2 := wanted_put (ops := ops) oj a oi.dst v p1
  unfold wpOp at h ⊢
  rw [hj] at h ⊢
  simp only [e2] at h ⊢
  cases hw : Region.wanted oj (yielded ops a.tmps)
  · rw [hw] at h
    simp only [Bool.false_eq_true, if_false] at h ⊢
    exact ⟨st a hy _, by rw [← Act.put_comm a v undef p2]; exact h⟩
  · rw [hw] at h
    simp only [if_true] at h ⊢
    rcases h with h | ⟨k1, k2⟩
    · left
      unfold Oper.wp at h ⊢
      rw [e1] at h
      revert h
      generalize (execOp a.eval oj).run P w = r
      intro h
      match r, h with
      | .ok (.value u) w', h => exact ⟨st a hy u, by rw [← Act.put_comm a v u p2]; exact h⟩
      | .ok .skip w', h => exact ⟨st a hy undef, by rw [← Act.put_comm a v undef p2]; exact h⟩
      | .ok (.defer d) w', h => exact ⟨st { a with defers := d :: a.defers } (hy.moved rfl rfl) undef, by rw [← Act.put_comm _ v undef p2, ← Act.put_defers]; exact h⟩
      | .ok (.enter f args) w', h =>
        refine Calls.mono h fun e w'' k => ?_
        match e, k with
        | .returned u, k => exact ⟨st a hy u, by rw [← Act.put_comm a v u p2]; exact k⟩
        | .panicked c, k => exact hQ _ _ _ k
        | .outgrown, k => exact k
      | .ok (.row rw' args) w', h => exact Rows.mono h fun u w'' k => ⟨st a hy u, by rw [← Act.put_comm a v u p2]; exact k⟩
      | .halt (.panic u) w', h => exact hQ _ _ _ h
    · right
      exact ⟨by unfold Oper.asks at k1 ⊢; rw [e1] at k1; exact k1, k2⟩

theorem InC.first {i : Nat} {oi : Oper} {v : Value} (hi : ops[i]? = some oi) (hs : ∀ (j : Nat) (o : Oper) cs b, ops[j]? = some o → o.op ≠ .select cs b) (hQ : ∀ c a w, Q (.panic c) (a.put oi.dst v) w → Q (.panic c) a w) :
    ∀ (m : Nat) (ls : Array Bool) (a : Act) (w : World), C w →
      (∀ j oj, ops[j]? = some oj → j ≠ i → ls.getD j true = false → (∀ e ∈ oj.after, Region.binds md e = true → e.on ≠ i) → oi.apart ops oj = true) →
      i ∈ Region.ready md ops ls → YldC P ops C oi v a → InC P md ops C Q m (ls.setIfInBounds i true) (a.put oi.dst v) w → InC P md ops C Q (m + 1) ls a w := by
  intro m
  induction m with
  | zero =>
    intro ls a w hC hf hr hy H
    refine ⟨fun h => (by rw [h] at hr; cases hr), fun j hj => ?_⟩
    by_cases e : j = i
    · rw [e]; exact hy.now hi hC ⟨hC, H⟩
    · have k := ready_mono hj e
      rw [H.1] at k; cases k
  | succ m ih =>
    intro ls a w hC hf hr hy H
    refine ⟨fun h => (by rw [h] at hr; cases hr), fun j hj => ?_⟩
    by_cases e : j = i
    · rw [e]; exact hy.now hi hC ⟨hC, H⟩
    · obtain ⟨j1, oj, j2, j3⟩ := mem_ready.1 hj
      have no : ∀ e ∈ oj.after, Region.binds md e = true → e.on ≠ i := fun x hx hb hxi => by
        have t1 := j3 x hx hb
        have t0 := (mem_ready.1 hr).1
        rw [hxi] at t1
        rcases Nat.lt_or_ge i ls.size with h' | h'
        · simp [h'] at t0 t1; rw [t0] at t1; cases t1
        · simp [Array.getElem?_eq_none h'] at t1
      have k := hy.past j2 (hf j oj j2 e j1 no) (fun cs b => hs i oi cs b hi) (fun cs b => hs j oj cs b j2) hQ (H.2 j (ready_mono hj e))
      refine wpOp_mono (fun a' w' k3 => ⟨k3.2.1, ih _ a' w' k3.2.1 (fun x ox hx hxi hun hno => ?_) (ready_mono hr (Ne.symm e)) k3.1 ?_⟩) k
      · refine hf x ox hx hxi ?_ hno
        by_cases hjx : j = x
        · rw [← hjx]; exact j1
        · rw [getD_set_ne true hjx] at hun; exact hun
      · rw [Array.setIfInBounds_comm _ _ e]; exact k3.2.2

theorem InC.take {i : Nat} {oi : Oper} {v : Value} {m : Nat} {ls : Array Bool} {a : Act} {w : World} (hi : ops[i]? = some oi) (hs : Region.noSelect ops = true) (hf : Region.free md ops ls i = true) (hr : (Region.ready md ops ls).contains i = true)
    (hQ : ∀ c a w, Q (.panic c) (a.put oi.dst v) w → Q (.panic c) a w) (hC : C w) (hy : YldC P ops C oi v a) (h : InC P md ops C Q m (ls.setIfInBounds i true) (a.put oi.dst v) w) : InC P md ops C Q (m + 1) ls a w :=
  InC.first hi (Region.noSelect_spec hs) hQ m ls a w hC (Region.free_spec hi hf) (by simpa using hr) hy h

/-- one of the operations that may come up, what follows behind a variable -/
theorem InC.one {m : Nat} {ls : Array Bool} {a : Act} {w : World} {i : Nat} {o : Oper} (ho : ops[i]? = some o)
    (h : ∀ K : Act → World → Prop, (∀ a w, C w → InC P md ops C Q m (ls.setIfInBounds i true) a w → K a w) → if Region.wanted o (yielded ops a.tmps) = true then Oper.wp P o a w K Q else K (a.put o.dst undef) w) :
    wpOp P ops Q i (fun a' w' => C w' ∧ InC P md ops C Q m (ls.setIfInBounds i true) a' w') a w :=
  wpOp_step ho (fun K hK => h K (fun a w h1 h2 => hK a w ⟨h1, h2⟩))

theorem InC.next1 {i : Nat} {m : Nat} {ls : Array Bool} {a : Act} {w : World} (hr : Region.ready md ops ls = [i]) (h : wpOp P ops Q i (fun a' w' => C w' ∧ InC P md ops C Q m (ls.setIfInBounds i true) a' w') a w) : InC P md ops C Q (m + 1) ls a w :=
  ⟨fun h0 => (by rw [hr] at h0; cases h0), fun j hj => by rw [hr] at hj; simp only [List.mem_singleton] at hj; rw [hj]; exact h⟩
theorem InC.next2 {i j : Nat} {m : Nat} {ls : Array Bool} {a : Act} {w : World} (hr : Region.ready md ops ls = [i, j]) (h : wpOp P ops Q i (fun a' w' => C w' ∧ InC P md ops C Q m (ls.setIfInBounds i true) a' w') a w) (h2 : wpOp P ops Q j (fun a' w' => C w' ∧ InC P md ops C Q m (ls.setIfInBounds j true) a' w') a w) : InC P md ops C Q (m + 1) ls a w :=
  ⟨fun h0 => (by rw [hr] at h0; cases h0), fun x hx => by
    rw [hr] at hx
    rcases List.mem_cons.1 hx with e | hx
    · rw [e]; exact h
    · simp only [List.mem_singleton] at hx; rw [hx]; exact h2⟩
theorem InC.next3 {i j k : Nat} {m : Nat} {ls : Array Bool} {a : Act} {w : World} (hr : Region.ready md ops ls = [i, j, k]) (h : wpOp P ops Q i (fun a' w' => C w' ∧ InC P md ops C Q m (ls.setIfInBounds i true) a' w') a w) (h2 : wpOp P ops Q j (fun a' w' => C w' ∧ InC P md ops C Q m (ls.setIfInBounds j true) a' w') a w) (h3 : wpOp P ops Q k (fun a' w' => C w' ∧ InC P md ops C Q m (ls.setIfInBounds k true) a' w') a w) : InC P md ops C Q (m + 1) ls a w :=
  ⟨fun h0 => (by rw [hr] at h0; cases h0), fun x hx => by
    rw [hr] at hx
    rcases List.mem_cons.1 hx with e | hx
    · rw [e]; exact h
    · rcases List.mem_cons.1 hx with e | hx
      · rw [e]; exact h2
      · simp only [List.mem_singleton] at hx; rw [hx]; exact h3⟩
theorem InC.done {m : Nat} {ls : Array Bool} {a : Act} {w : World} (hr : Region.ready md ops ls = []) (h : Q .normal a w) : InC P md ops C Q m ls a w := by
  cases m with
  | zero => exact ⟨hr, h⟩
  | succ m => exact ⟨fun _ => h, fun i hi => by rw [hr] at hi; cases hi⟩
end

end Go.Proofs.YtlpopfhaephfaabDoor
