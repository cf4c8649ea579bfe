import Derived.Test.YtlpopfhaephfaabDM11
namespace Go.Proofs.Ytlpopfhaephfaab
open Go.RowKit Go.Maps

/-- what StateOk asks of a section beside what is told -/
def quaB (dd : Bool) (x : Sec) : Bool := numOk x && (x.lost || !(mustL x || dd))

theorem toldZ_told (dd : Bool) (x : Sec) (t : Int) : toldZ dd ⟨t, x.count, x.lost, x.sweep, x.last⟩ = toldZ dd x := rfl

theorem secOk_told {n : Nat} {F T : Nat → Int} {D : Nat → Bool} {X : Nat → Sec} {k : Nat} (h : quaB (deadB n F T D (k : Int)) (X k) = true) : secOk (deadB n F T D (k : Int)) (told1 n F T D X k) = true := by
  unfold quaB at h
  simp only [Bool.and_eq_true] at h
  unfold told1
  have h1 : numOk ⟨toldZ (deadB n F T D (k : Int)) (X k), (X k).count, (X k).lost, (X k).sweep, (X k).last⟩ = true := h.1
  have h2 : ((X k).lost || !(mustL ⟨toldZ (deadB n F T D (k : Int)) (X k), (X k).count, (X k).lost, (X k).sweep, (X k).last⟩ || deadB n F T D (k : Int))) = true := h.2
  simp only [secOk, Bool.and_eq_true]
  exact ⟨⟨h1, by rw [toldZ_told]; exact beq_self_eq_true _⟩, h2⟩

theorem secOk_qua {dd : Bool} {x : Sec} (h : secOk dd x = true) : quaB dd x = true := by
  unfold secOk at h
  unfold quaB
  simp only [Bool.and_eq_true] at h
  rw [h.1.1, h.2]; rfl

theorem qua_iff {dd : Bool} {x : Sec} : quaB dd x = true ↔ (-1000000 ≤ x.count ∧ x.count ≤ 1000000 ∧ -1 ≤ x.last ∧ x.last ≤ 1) ∧ (x.lost = true ∨ (¬ x.count < 0 ∧ dd = false ∧ ¬ (x.sweep = true ∧ x.count = 0 ∧ x.last = -1))) := by
  obtain ⟨told, count, lost, sweep, last⟩ := x
  cases lost <;> cases sweep <;> cases dd <;> simp [quaB, numOk, mustL] <;> omega

theorem qua_mono {dd dd' : Bool} {x : Sec} (h : quaB dd x = true) (hd : dd' = true → dd = true) : quaB dd' x = true := by
  rw [qua_iff] at h ⊢
  refine ⟨h.1, h.2.imp id fun ⟨a, b, c⟩ => ⟨a, ?_, c⟩⟩
  cases e : dd'
  · rfl
  · rw [hd e] at b; cases b

theorem qua_cnt {dd : Bool} {x : Sec} {way : Int} (h : quaB dd x = true) (hw : way = 1 ∨ way = -1) : quaB dd (cnt x way) = true := by
  rw [qua_iff] at h ⊢
  obtain ⟨⟨h1, h2, h3, h4⟩, h5⟩ := h
  have hc := countOk_cnt (way := way) h1 h2
  refine ⟨⟨hc.1, hc.2, by show -1 ≤ way; omega, by show way ≤ 1; omega⟩, ?_⟩
  rcases h5 with h5 | ⟨h5, h6, h7⟩
  · left; show (x.lost || _) = true; rw [h5]; rfl
  · by_cases hn : cntC x.count way < 0
    · left; show (x.lost || decide (cntC x.count way < 0)) = true; simp [hn]
    · right
      refine ⟨hn, h6, fun ⟨a, b, c⟩ => ?_⟩
      have a' : (x.sweep && !(decide (cntC x.count way = 0) && decide (way = -1))) = true := a
      have b' : cntC x.count way = 0 := b
      have c' : way = -1 := c
      rw [b', c'] at a'
      simp at a'

theorem qua_cntSide {dd : Nat → Bool} {ns : Nat} {X : Nat → Sec} {side way : Int} (hw : way = 1 ∨ way = -1) (h : ∀ k, k < ns → quaB (dd k) (X k) = true) : ∀ k, k < ns → quaB (dd k) (cntSide X side way k) = true := by
  intro k hk
  unfold cntSide
  split
  · exact h k hk
  · unfold cntAt
    split
    · rename_i e
      have := h k hk
      rw [e] at this ⊢
      exact qua_cnt this hw
    · exact h k hk

theorem qua_lost {dd : Bool} {x : Sec} (h : numOk x = true) : quaB dd ⟨x.told, x.count, true, x.sweep, x.last⟩ = true := by
  unfold quaB
  have : numOk ⟨x.told, x.count, true, x.sweep, x.last⟩ = true := h
  rw [this]; rfl

theorem qua_num {dd : Bool} {x : Sec} (h : quaB dd x = true) : numOk x = true := by
  unfold quaB at h
  simp only [Bool.and_eq_true] at h
  exact h.1

theorem dead_set_false {n : Nat} {F T : Nat → Int} {D : Nat → Bool} {f : Nat} {s : Int} (h : deadB n F T (setB D f false) s = true) : deadB n F T D s = true := by
  unfold deadB at h ⊢
  obtain ⟨z, hz, hd⟩ := List.any_eq_true.1 h
  refine List.any_eq_true.2 ⟨z, hz, ?_⟩
  unfold setB at hd
  split at hd
  · cases hd
  · exact hd

theorem zs_side {F T : Nat → Int} {n : Nat} {s z : Int} (h : z ∈ zsAt F T n s) : ∃ m : Nat, m < n ∧ z = (m : Int) ∧ (F m = s ∨ T m = s) := by
  unfold zsAt at h
  simp only [List.mem_map, List.mem_filter, List.mem_range] at h
  obtain ⟨m, ⟨h1, h3⟩, h2⟩ := h
  refine ⟨m, h1, h2.symm, ?_⟩
  simpa using h3

theorem dead_set_true {n : Nat} {F T : Nat → Int} {D : Nat → Bool} {f : Nat} {s : Int} (hF : F f ≠ s) (hT : T f ≠ s) (h : deadB n F T (setB D f true) s = true) : deadB n F T D s = true := by
  unfold deadB at h ⊢
  obtain ⟨z, hz, hd⟩ := List.any_eq_true.1 h
  refine List.any_eq_true.2 ⟨z, hz, ?_⟩
  obtain ⟨m, _, rfl, hm⟩ := zs_side hz
  unfold setB at hd
  split at hd
  · rename_i e
    have e' : m = f := by simpa using e
    subst e'
    rcases hm with hm | hm
    · exact absurd hm hF
    · exact absurd hm hT
  · exact hd

theorem lost_other {X : Nat → Sec} {side : Int} {k : Nat} (h : side ≠ (k : Int)) : lostSide X side k = X k := by
  unfold lostSide
  split
  · rfl
  · unfold lostAt
    rw [if_neg (by omega)]

theorem lost_same {X : Nat → Sec} {k : Nat} : lostSide X (k : Int) k = ⟨(X k).told, (X k).count, true, (X k).sweep, (X k).last⟩ := by
  unfold lostSide lostAt
  rw [if_neg (by omega)]
  simp

theorem qua_lostSide {dd dd' : Bool} {X : Nat → Sec} {side : Int} {k : Nat} (h : quaB dd (X k) = true) (hd : side ≠ (k : Int) → dd' = true → dd = true) : quaB dd' (lostSide X side k) = true := by
  by_cases e : side = (k : Int)
  · subst e; rw [lost_same]; exact qua_lost (qua_num h)
  · rw [lost_other e]; exact qua_mono h (hd e)

/-- EVERY STATE OF A RUN IS ONE: an event keeps what StateOk asks. -/
theorem stOk_next (S op f d : Int) (n ns : Nat) (F T : Nat → Int) (X : Nat → Sec) (D : Nat → Bool) (h : stOk S n F T true ns n X D = true) : stOk S n F T true ns n (nxtX S n F T X D op f d) (bhD S n D op f d) = true := by
  obtain ⟨hl, _, hS, _, hsec⟩ := stOk_parts h
  have hq : ∀ k, k < ns → quaB (deadB n F T D (k : Int)) (X k) = true := fun k hk => secOk_qua (hsec k hk)
  refine stOk_yes hl hS fun k hk => secOk_told ?_
  unfold bhX bhD
  cases hev : evB S n op f d
  · simpa using hq k hk
  · simp only [if_true]
    unfold evB at hev
    by_cases h1 : op = 1 ∨ op = 2
    · have hD : effD D op f = D := by rcases h1 with rfl | rfl <;> simp [effD]
      rw [hD]
      have hp : ∀ b, quaB (deadB n F T D (k : Int)) (passY F T X D f.toNat d b k) = true := fun b => by
        unfold passY
        split
        · exact hq k hk
        · unfold passX
          refine qua_cntSide (dd := fun k => deadB n F T D (k : Int)) (ns := ns) (.inl rfl) (fun j hj => ?_) k hk
          cases b
          · exact hq j hj
          · exact qua_cntSide (dd := fun k => deadB n F T D (k : Int)) (ns := ns) (.inr rfl) hq j hj
      rcases h1 with rfl | rfl
      · simpa [effX] using hp true
      · simpa [effX] using hp false
    · rw [if_neg h1] at hev
      by_cases h2 : op = 3 ∨ op = 4
      · rw [if_pos h2] at hev
        simp only [decide_eq_true_eq] at hev
        obtain ⟨v1, v2, rfl⟩ := hev
        rcases h2 with rfl | rfl
        · have e1 : effX n F T X D 3 f 0 = lostSide (lostSide X (F f.toNat)) (T f.toNat) := by simp [effX]
          have e2 : effD D 3 f = setB D f.toNat true := by simp [effD]
          rw [e1, e2]
          by_cases eF : F f.toNat = (k : Int)
          · have q1 : quaB true (lostSide X (F f.toNat) k) = true := by rw [eF, lost_same]; exact qua_lost (qua_num (hq k hk))
            exact qua_lostSide (dd := true) q1 (fun _ _ => rfl)
          · refine qua_lostSide (dd := deadB n F T D (k : Int)) (qua_lostSide (hq k hk) (fun _ h => h)) (fun eT hd => dead_set_true eF eT hd)
        · have e1 : effX n F T X D 4 f 0 = X := by simp [effX]
          have e2 : effD D 4 f = setB D f.toNat false := by simp [effD]
          rw [e1, e2]
          exact qua_mono (hq k hk) dead_set_false
      · rw [if_neg h2] at hev
        by_cases h3 : op = 5
        · subst h3
          have e1 : effX n F T X D 5 f d = rstY n F T X D f.toNat := by simp [effX]
          have e2 : effD D 5 f = D := by simp [effD]
          rw [e1, e2]
          unfold rstY
          cases hdd : deadB n F T D (f.toNat : Int)
          · simp only [Bool.false_eq_true, if_false]
            split
            · exact hq k hk
            · unfold resetAt
              split
              · rename_i e
                rw [e, hdd]
                decide
              · exact hq k hk
          · simpa using hq k hk
        · rw [if_neg h3] at hev; cases hev

end Go.Proofs.Ytlpopfhaephfaab
