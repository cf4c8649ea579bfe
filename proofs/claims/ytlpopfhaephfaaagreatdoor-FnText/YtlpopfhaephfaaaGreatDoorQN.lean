import Derived.Test.YtlpopfhaephfaaaGreatDoorDM11
import Derived.Test.YtlpopfhaephfaaaGreatDoorST3
import Derived.Test.YtlpopfhaephfaaaGreatDoorDM12
import Derived.Test.YtlpopfhaephfaaaGreatDoorCR
import Derived.Test.YtlpopfhaephfaaaGreatDoorRE1
namespace Go.Proofs.YtlpopfhaephfaaaGreatDoor
open Go.RowKit Go.Maps

/-- what StateOk asks of a section beside what is told -/
def quaB (dd : Bool) (x : Sec) : Bool := numOk x && (x.lost || !(mustL x || dd))

theorem toldZ_told (dd : Bool) (x : Sec) (t : Int) : toldZ dd ⟨t, x.count, x.lost, x.sweep, x.last⟩ = toldZ dd x := rfl

theorem secOk_told {n : Nat} {F T : Nat → Int} {D : Nat → Bool} {X : Nat → Sec} {k : Nat} (h : quaB (deadB n F T D (k : Int)) (X k) = true) : secOk (deadB n F T D (k : Int)) (told1 n F T D X k) = true := by
  unfold quaB at h
  simp only [Bool.and_eq_true] at h
  unfold told1
  have h1 : numOk ⟨toldZ (deadB n F T D (k : Int)) (X k), (X k).count, (X k).lost, (X k).sweep, (X k).last⟩ = true := h.1
  have h2 : ((X k).lost || !(mustL ⟨toldZ (deadB n F T D (k : Int)) (X k), (X k).count, (X k).lost, (X k).sweep, (X k).last⟩ || deadB n F T D (k : Int))) = true := h.2
  simp only [secOk, Bool.and_eq_true]
  exact ⟨⟨h1, by rw [toldZ_told]; exact beq_self_eq_true _⟩, h2⟩

theorem secOk_qua {dd : Bool} {x : Sec} (h : secOk dd x = true) : quaB dd x = true := by
  unfold secOk at h
  unfold quaB
  simp only [Bool.and_eq_true] at h
  rw [h.1.1, h.2]; rfl

theorem qua_iff {dd : Bool} {x : Sec} : quaB dd x = true ↔ (-1000000 ≤ x.count ∧ x.count ≤ 1000000 ∧ -1 ≤ x.last ∧ x.last ≤ 1) ∧ (x.lost = true ∨ (¬ x.count < 0 ∧ dd = false ∧ ¬ (x.sweep = true ∧ x.count = 0 ∧ x.last = -1))) := by
  obtain ⟨told, count, lost, sweep, last⟩ := x
  cases lost <;> cases sweep <;> cases dd <;> simp [quaB, numOk, mustL] <;> omega

theorem qua_mono {dd dd' : Bool} {x : Sec} (h : quaB dd x = true) (hd : dd' = true → dd = true) : quaB dd' x = true := by
  rw [qua_iff] at h ⊢
  refine ⟨h.1, h.2.imp id fun ⟨a, b, c⟩ => ⟨a, ?_, c⟩⟩
  cases e : dd'
  · rfl
  · rw [hd e] at b; cases b

theorem qua_cnt {dd : Bool} {x : Sec} {way : Int} (h : quaB dd x = true) (hw : way = 1 ∨ way = -1) : quaB dd (cnt x way) = true := by
  rw [qua_iff] at h ⊢
  obtain ⟨⟨h1, h2, h3, h4⟩, h5⟩ := h
  have hc := countOk_cnt (way := way) h1 h2
  refine ⟨⟨hc.1, hc.2, by show -1 ≤ way; omega, by show way ≤ 1; omega⟩, ?_⟩
  rcases h5 with h5 | ⟨h5, h6, h7⟩
  · left; show (x.lost || _) = true; rw [h5]; rfl
  · by_cases hn : cntC x.count way < 0
    · left; show (x.lost || decide (cntC x.count way < 0)) = true; simp [hn]
    · right
      refine ⟨hn, h6, fun ⟨a, b, c⟩ => ?_⟩
      have a' : (x.sweep && !(decide (cntC x.count way = 0) && decide (way = -1))) = true := a
      have b' : cntC x.count way = 0 := b
      have c' : way = -1 := c
      rw [b', c'] at a'
      simp at a'

theorem qua_cntSide {dd : Nat → Bool} {ns : Nat} {X : Nat → Sec} {side way : Int} (hw : way = 1 ∨ way = -1) (h : ∀ k, k < ns → quaB (dd k) (X k) = true) : ∀ k, k < ns → quaB (dd k) (cntSide X side way k) = true := by
  intro k hk
  unfold cntSide
  split
  · exact h k hk
  · unfold cntAt
    split
    · rename_i e
      have := h k hk
      rw [e] at this ⊢
      exact qua_cnt this hw
    · exact h k hk

theorem qua_lost {dd : Bool} {x : Sec} (h : numOk x = true) : quaB dd ⟨x.told, x.count, true, x.sweep, x.last⟩ = true := by
  unfold quaB
  have : numOk ⟨x.told, x.count, true, x.sweep, x.last⟩ = true := h
  rw [this]; rfl

theorem qua_num {dd : Bool} {x : Sec} (h : quaB dd x = true) : numOk x = true := by
  unfold quaB at h
  simp only [Bool.and_eq_true] at h
  exact h.1

theorem dead_set_false {n : Nat} {F T : Nat → Int} {D : Nat → Bool} {f : Nat} {s : Int} (h : deadB n F T (setB D f false) s = true) : deadB n F T D s = true := by
  unfold deadB at h ⊢
  obtain ⟨z, hz, hd⟩ := List.any_eq_true.1 h
  refine List.any_eq_true.2 ⟨z, hz, ?_⟩
  unfold setB at hd
  split at hd
  · cases hd
  · exact hd

theorem zs_side {F T : Nat → Int} {n : Nat} {s z : Int} (h : z ∈ zsAt F T n s) : ∃ m : Nat, m < n ∧ z = (m : Int) ∧ (F m = s ∨ T m = s) := by
  unfold zsAt at h
  simp only [List.mem_map, List.mem_filter, List.mem_range] at h
  obtain ⟨m, ⟨h1, h3⟩, h2⟩ := h
  refine ⟨m, h1, h2.symm, ?_⟩
  simpa using h3

theorem dead_set_true {n : Nat} {F T : Nat → Int} {D : Nat → Bool} {f : Nat} {s : Int} (hF : F f ≠ s) (hT : T f ≠ s) (h : deadB n F T (setB D f true) s = true) : deadB n F T D s = true := by
  unfold deadB at h ⊢
  obtain ⟨z, hz, hd⟩ := List.any_eq_true.1 h
  refine List.any_eq_true.2 ⟨z, hz, ?_⟩
  obtain ⟨m, _, rfl, hm⟩ := zs_side hz
  unfold setB at hd
  split at hd
  · rename_i e
    have e' : m = f := by simpa using e
    subst e'
    rcases hm with hm | hm
    · exact absurd hm hF
    · exact absurd hm hT
  · exact hd

theorem lost_other {X : Nat → Sec} {side : Int} {k : Nat} (h : side ≠ (k : Int)) : lostSide X side k = X k := by
  unfold lostSide
  split
  · rfl
  · unfold lostAt
    rw [if_neg (by omega)]

theorem lost_same {X : Nat → Sec} {k : Nat} : lostSide X (k : Int) k = ⟨(X k).told, (X k).count, true, (X k).sweep, (X k).last⟩ := by
  unfold lostSide lostAt
  rw [if_neg (by omega)]
  simp

theorem qua_lostSide {dd dd' : Bool} {X : Nat → Sec} {side : Int} {k : Nat} (h : quaB dd (X k) = true) (hd : side ≠ (k : Int) → dd' = true → dd = true) : quaB dd' (lostSide X side k) = true := by
  by_cases e : side = (k : Int)
  · subst e; rw [lost_same]; exact qua_lost (qua_num h)
  · rw [lost_other e]; exact qua_mono h (hd e)

/-- EVERY STATE OF A RUN IS ONE: an event keeps what StateOk asks. -/
theorem stOk_next (S op f d : Int) (n ns : Nat) (F T : Nat → Int) (X : Nat → Sec) (D : Nat → Bool) (h : stOk S n F T true ns n X D = true) : stOk S n F T true ns n (nxtX S n F T X D op f d) (bhD S n D op f d) = true := by
  obtain ⟨hl, _, hS, _, hsec⟩ := stOk_parts h
  have hq : ∀ k, k < ns → quaB (deadB n F T D (k : Int)) (X k) = true := fun k hk => secOk_qua (hsec k hk)
  refine stOk_yes hl hS fun k hk => secOk_told ?_
  unfold bhX bhD
  cases hev : evB S n op f d
  · simpa using hq k hk
  · simp only [if_true]
    unfold evB at hev
    by_cases h1 : op = 1 ∨ op = 2
    · have hD : effD D op f = D := by rcases h1 with rfl | rfl <;> simp [effD]
      rw [hD]
      have hp : ∀ b, quaB (deadB n F T D (k : Int)) (passY F T X D f.toNat d b k) = true := fun b => by
        unfold passY
        split
        · exact hq k hk
        · unfold passX
          refine qua_cntSide (dd := fun k => deadB n F T D (k : Int)) (ns := ns) (.inl rfl) (fun j hj => ?_) k hk
          cases b
          · exact hq j hj
          · exact qua_cntSide (dd := fun k => deadB n F T D (k : Int)) (ns := ns) (.inr rfl) hq j hj
      rcases h1 with rfl | rfl
      · simpa [effX] using hp true
      · simpa [effX] using hp false
    · rw [if_neg h1] at hev
      by_cases h2 : op = 3 ∨ op = 4
      · rw [if_pos h2] at hev
        simp only [decide_eq_true_eq] at hev
        obtain ⟨v1, v2, rfl⟩ := hev
        rcases h2 with rfl | rfl
        · have e1 : effX n F T X D 3 f 0 = lostSide (lostSide X (F f.toNat)) (T f.toNat) := by simp [effX]
          have e2 : effD D 3 f = setB D f.toNat true := by simp [effD]
          rw [e1, e2]
          by_cases eF : F f.toNat = (k : Int)
          · have q1 : quaB true (lostSide X (F f.toNat) k) = true := by rw [eF, lost_same]; exact qua_lost (qua_num (hq k hk))
            exact qua_lostSide (dd := true) q1 (fun _ _ => rfl)
          · refine qua_lostSide (dd := deadB n F T D (k : Int)) (qua_lostSide (hq k hk) (fun _ h => h)) (fun eT hd => dead_set_true eF eT hd)
        · have e1 : effX n F T X D 4 f 0 = X := by simp [effX]
          have e2 : effD D 4 f = setB D f.toNat false := by simp [effD]
          rw [e1, e2]
          exact qua_mono (hq k hk) dead_set_false
      · rw [if_neg h2] at hev
        by_cases h3 : op = 5
        · subst h3
          have e1 : effX n F T X D 5 f d = rstY n F T X D f.toNat := by simp [effX]
          have e2 : effD D 5 f = D := by simp [effD]
          rw [e1, e2]
          unfold rstY
          cases hdd : deadB n F T D (f.toNat : Int)
          · simp only [Bool.false_eq_true, if_false]
            split
            · exact hq k hk
            · unfold resetAt
              split
              · rename_i e
                rw [e, hdd]
                decide
              · exact hq k hk
          · simpa using hq k hk
        · rw [if_neg h3] at hev; cases hev

end Go.Proofs.YtlpopfhaephfaaaGreatDoor

namespace Go.Proofs.YtlpopfhaephfaaaGreatDoor
open Go.RowKit

/-- the four cells of a Done -/
def dnF (C : Int) (ok : Bool) (v1 v2 : Value) (i : Nat) : Value := if i = 0 then .int .i64 C else if i = 1 then .bool ok else if i = 2 then v1 else v2
def Box4 (w : World) (b : Nat) (C : Int) (ok : Bool) (v1 v2 : Value) : Prop := Blk w b 68 4 (dnF C ok v1 v2)
section
variable {w w' : World} {b : Nat} {C : Int} {ok : Bool} {v1 v2 : Value}
theorem Box4.cells (h : Box4 w b C ok v1 v2) : w.cell? ⟨b, 0, none⟩ = some (.int .i64 C) ∧ w.cell? ⟨b, 1, none⟩ = some (.bool ok) ∧ w.cell? ⟨b, 2, none⟩ = some v1 ∧ w.cell? ⟨b, 3, none⟩ = some v2 :=
  ⟨Blk.cell h (by omega), Blk.cell h (by omega), Blk.cell h (by omega), Blk.cell h (by omega)⟩
theorem Box4.on (h : Box4 w b C ok v1 v2) (hb : Below w.heap.size w w') : Box4 w' b C ok v1 v2 := Blk.on h hb
theorem Box4.drew (h : Box4 w b C ok v1 v2) : Box4 w.drew b C ok v1 v2 := h
theorem Box4.alloc (h : Box4 w b C ok v1 v2) (o : Obj) : Box4 (w.alloc o) b C ok v1 v2 := Blk.alloc h o
theorem Box4.turned {E : Nat → Prop} {lo hi : Nat} (h : Box4 w b C ok v1 v2) (ht : Turned w w' E lo hi) (hd : ¬ E 68) : Box4 w' b C ok v1 v2 := Blk.turned h ht (.inl hd)
theorem Box4.lay (w : World) (C : Int) (ok : Bool) (v1 v2 : Value) : Box4 (w.alloc (.cells #[.int .i64 C, .bool ok, v1, v2] 68)) w.heap.size C ok v1 v2 :=
  Blk.new w #[.int .i64 C, .bool ok, v1, v2] _ _ (fun i hi => by simp at hi; match i, hi with | 0, _ => rfl | 1, _ => rfl | 2, _ => rfl | 3, _ => rfl)
end

end Go.Proofs.YtlpopfhaephfaaaGreatDoor

namespace Go.Proofs.YtlpopfhaephfaaaGreatDoor
open Go.RowKit Go.Maps

/-- how all stands ahead of the k-th event of a run -/
def runS (S : Int) (n : Nat) (F T : Nat → Int) (P : Nat → Nat → Int) : Nat → (Nat → Sec) × (Nat → Bool)
  | 0 => (fun _ => sec0, fun _ => false)
  | k + 1 => (nxtX S n F T (runS S n F T P k).1 (runS S n F T P k).2 (P k 0) (P k 1) (P k 2), bhD S n (runS S n F T P k).2 (P k 0) (P k 1) (P k 2))
def runX (S : Int) (n : Nat) (F T : Nat → Int) (P : Nat → Nat → Int) (k : Nat) : Nat → Sec := (runS S n F T P k).1
def runD (S : Int) (n : Nat) (F T : Nat → Int) (P : Nat → Nat → Int) (k : Nat) : Nat → Bool := (runS S n F T P k).2
def runC (S : Int) (n : Nat) (F T : Nat → Int) (P : Nat → Nat → Int) (k : Nat) : Int := bhC S n F T (runX S n F T P k) (runD S n F T P k) (P k 0) (P k 1) (P k 2)

theorem runX_succ (S : Int) (n : Nat) (F T : Nat → Int) (P : Nat → Nat → Int) (k : Nat) : runX S n F T P (k + 1) = nxtX S n F T (runX S n F T P k) (runD S n F T P k) (P k 0) (P k 1) (P k 2) := rfl
theorem runD_succ (S : Int) (n : Nat) (F T : Nat → Int) (P : Nat → Nat → Int) (k : Nat) : runD S n F T P (k + 1) = bhD S n (runD S n F T P k) (P k 0) (P k 1) (P k 2) := rfl

theorem dead_none (n : Nat) (F T : Nat → Int) (s : Int) : deadB n F T (fun _ => false) s = false := by
  unfold deadB
  simp

theorem stOk_begin {S : Int} {n ns : Nat} {F T : Nat → Int} (hl : lokZ S n F T = 0) (hS : (ns : Int) = S) : stOk S n F T true ns n (fun _ => sec0) (fun _ => false) = true := by
  refine stOk_yes hl hS fun k hk => ?_
  rw [dead_none]
  decide

theorem run_ok {S : Int} {n ns : Nat} {F T : Nat → Int} {P : Nat → Nat → Int} (hl : lokZ S n F T = 0) (hS : (ns : Int) = S) (k : Nat) : stOk S n F T true ns n (runX S n F T P k) (runD S n F T P k) = true := by
  induction k with
  | zero => exact stOk_begin hl hS
  | succ k ih => rw [runX_succ, runD_succ]; exact stOk_next S _ _ _ n ns F T _ _ ih

/-- where nothing happens all is told as it was -/
theorem nxt_none {S op f d : Int} {n ns : Nat} {F T : Nat → Int} {X : Nat → Sec} {D : Nat → Bool} (h : stOk S n F T true ns n X D = true) (hev : evB S n op f d = false) : (∀ k, k < ns → nxtX S n F T X D op f d k = X k) ∧ bhD S n D op f d = D ∧ bhC S n F T X D op f d = 1 := by
  obtain ⟨hl, _, hS, _, hsec⟩ := stOk_parts h
  have e3 : bhX S n F T X D op f d = X := by unfold bhX; rw [hev]; rfl
  have e4 : bhD S n D op f d = D := by unfold bhD; rw [hev]; rfl
  have e2 : bhC S n F T X D op f d = 1 := by unfold bhC; rw [hev]; rfl
  refine ⟨fun k hk => ?_, e4, e2⟩
  unfold nxtX told1
  rw [e3, e4]
  have h1 := hsec k hk
  unfold secOk at h1
  simp only [Bool.and_eq_true, beq_iff_eq] at h1
  rw [← h1.1.2]

theorem effC_ne {n : Nat} {F T : Nat → Int} {X : Nat → Sec} {D : Nat → Bool} {op f : Int} : effC n F T X D op f ≠ 1 := by
  unfold effC passC rstC
  repeat' split
  all_goals decide

/-- A list of m Dones in a block between lo and hi; the lists of their states lie in ranges that rise. -/
def DnF (w : World) (lo hi : Nat) (v : Value) (m ns nd : Nat) (C : Nat → Int) (B : Nat → Bool) (X : Nat → Nat → Sec) (D : Nat → Nat → Bool) : Prop :=
  ∃ (A1 A2 : Nat → Value) (L : Nat → Nat), SlF w 68 4 lo hi v m (fun i j => dnF (C i) (B i) (A1 i) (A2 i) j) ∧ lo ≤ L 0 ∧ L m ≤ hi ∧ ∀ i, i < m → L i ≤ L (i + 1) ∧ SlF w 72 5 (L i) (L (i + 1)) (A1 i) ns (secs (X i)) ∧ SlF w 4 1 (L i) (L (i + 1)) (A2 i) nd (bools (D i))

section
variable {w w' : World} {lo hi m ns nd : Nat} {v : Value} {C : Nat → Int} {B : Nat → Bool} {X : Nat → Nat → Sec} {D : Nat → Nat → Bool}
theorem DnF.on (h : DnF w lo hi v m ns nd C B X D) (hb : Below w.heap.size w w') : DnF w' lo hi v m ns nd C B X D := by
  obtain ⟨A1, A2, L, h1, h2, h3, h4⟩ := h
  exact ⟨A1, A2, L, h1.on hb, h2, h3, fun i hi => ⟨(h4 i hi).1, (h4 i hi).2.1.on hb, (h4 i hi).2.2.on hb⟩⟩
theorem DnF.alloc (h : DnF w lo hi v m ns nd C B X D) (o : Obj) : DnF (w.alloc o) lo hi v m ns nd C B X D := h.on (below_alloc (Below.refl _ _) _)
theorem DnF.drew (h : DnF w lo hi v m ns nd C B X D) : DnF w.drew lo hi v m ns nd C B X D := h
theorem DnF.turned {E : Nat → Prop} {lo' hi' : Nat} (h : DnF w lo hi v m ns nd C B X D) (ht : Turned w w' E lo' hi') (hd : (¬ E 68 ∧ ¬ E 72 ∧ ¬ E 4) ∨ hi' ≤ lo ∨ hi ≤ lo') : DnF w' lo hi v m ns nd C B X D := by
  obtain ⟨A1, A2, L, h1, h2, h3, h4⟩ := h
  have mono : ∀ j i, i + j ≤ m → L i ≤ L (i + j) := fun j => by
    induction j with
    | zero => intro i _; exact Nat.le_refl _
    | succ j ih => intro i hj; have h5 := (h4 (i + j) (by omega)).1; have h6 := ih i (by omega); rw [← Nat.add_assoc]; omega
  have d1 : ¬ E 68 ∨ hi' ≤ lo ∨ hi ≤ lo' := by
    rcases hd with ⟨a, _, _⟩ | h
    · exact .inl a
    · exact .inr h
  refine ⟨A1, A2, L, h1.turned ht d1, h2, h3, fun i hlt => ?_⟩
  have a1 := mono i 0 (by omega)
  have a2 := mono (m - (i + 1)) (i + 1) (by omega)
  rw [show i + 1 + (m - (i + 1)) = m by omega] at a2
  rw [Nat.zero_add] at a1
  refine ⟨(h4 i hlt).1, (h4 i hlt).2.1.turned ht ?_, (h4 i hlt).2.2.turned ht ?_⟩
  · rcases hd with ⟨a, b, c⟩ | h | h
    · exact .inl b
    · right; left; omega
    · right; right; omega
  · rcases hd with ⟨a, b, c⟩ | h | h
    · exact .inl c
    · right; left; omega
    · right; right; omega
theorem DnF.nil (w : World) (lo hi ns nd : Nat) (ao : Option Addr) (cap : Nat) (h : lo ≤ hi) (C : Nat → Int) (B : Nat → Bool) (X : Nat → Nat → Sec) (D : Nat → Nat → Bool) : DnF w lo hi (.slice ao 0 cap) 0 ns nd C B X D :=
  ⟨fun _ => .slice none 0 0, fun _ => .slice none 0 0, fun _ => lo, ⟨ao, cap, rfl, .inl rfl⟩, Nat.le_refl _, h, fun i hi => by omega⟩
end

theorem four {w : World} {g e m n k : Nat} {f : Nat → Value} {C : Nat → Int} {B : Nat → Bool} {A1 A2 : Nat → Value} (h : Blk w g e m f) (hm : n * 4 ≤ m) (hk : k < n) (hf : ∀ i, i < n → ∀ j, j < 4 → f (i * 4 + j) = dnF (C i) (B i) (A1 i) (A2 i) j) :
    w.cell? ⟨g, k * 4, none⟩ = some (.int .i64 (C k)) ∧ w.cell? ⟨g, k * 4 + 1, none⟩ = some (.bool (B k)) ∧ w.cell? ⟨g, k * 4 + 2, none⟩ = some (A1 k) ∧ w.cell? ⟨g, k * 4 + 3, none⟩ = some (A2 k) :=
  ⟨by rw [h.cell (by omega)]; exact congrArg some (hf k hk 0 (by omega)), by rw [h.cell (by omega), hf k hk 1 (by omega)]; rfl, by rw [h.cell (by omega), hf k hk 2 (by omega)]; rfl, by rw [h.cell (by omega), hf k hk 3 (by omega)]; rfl⟩

end Go.Proofs.YtlpopfhaephfaaaGreatDoor

namespace Go.Proofs.YtlpopfhaephfaaaGreatDoor
open Go.RowKit Go.Maps

/-- the number at which the marks of the k-th Done begin -/
def mkQ (q0 : Int) (ns nd : Nat) : Nat → Int
  | 0 => q0
  | k + 1 => mkQ q0 ns nd k + 1 + 1 + 5 * (ns : Int) + (nd : Int)

theorem mkQ_bound {q0 : Int} {ns nd k : Nat} (hs : ns ≤ 60) (hd : nd ≤ 120) (h0 : 0 ≤ q0) : 0 ≤ mkQ q0 ns nd k ∧ mkQ q0 ns nd k ≤ q0 + 422 * (k : Int) := by
  induction k with
  | zero => simp [mkQ]; omega
  | succ k ih => simp only [mkQ]; omega

/-- what stands of the Dones behind k rounds of marking -/
def mrkC (q0 : Int) (ns nd k : Nat) (C : Nat → Int) : Nat → Int := fun i => if i < k then mkQ q0 ns nd i else C i
def mrkB (q0 : Int) (ns nd k : Nat) (B : Nat → Bool) : Nat → Bool := fun i => if i < k then (mkQ q0 ns nd i + 1) % 3 == 0 else B i
def mrkX (q0 : Int) (ns nd k : Nat) (X : Nat → Nat → Sec) : Nat → Nat → Sec := fun i => if i < k then markSecs (mkQ q0 ns nd i + 1 + 1) else X i
def mrkD (q0 : Int) (ns nd k : Nat) (D : Nat → Nat → Bool) : Nat → Nat → Bool := fun i => if i < k then markB (mkQ q0 ns nd i + 1 + 1 + 5 * (ns : Int)) else D i

/-- a list of Dones that is marked from q0 on -/
def MkD (w : World) (lo hi : Nat) (v : Value) (m ns nd : Nat) (q0 : Int) : Prop :=
  DnF w lo hi v m ns nd (mkQ q0 ns nd) (fun i => (mkQ q0 ns nd i + 1) % 3 == 0) (fun i => markSecs (mkQ q0 ns nd i + 1 + 1)) (fun i => markB (mkQ q0 ns nd i + 1 + 1 + 5 * (ns : Int)))

def isDn (e : Nat) : Prop := e = 68 ∨ isSt e

/-- what stands behind k rounds of marking, the lists' places being given -/
def MrkI (w : World) (g mm m ns nd : Nat) (A1 A2 : Nat → Value) (L : Nat → Nat) (q0 : Int) (C : Nat → Int) (B : Nat → Bool) (X : Nat → Nat → Sec) (D : Nat → Nat → Bool) (k : Nat) : Prop :=
  ∃ f, Blk w g 68 mm f ∧ (∀ i, i < m → ∀ j, j < 4 → f (i * 4 + j) = dnF (mrkC q0 ns nd k C i) (mrkB q0 ns nd k B i) (A1 i) (A2 i) j) ∧ ∀ i, i < m → SlF w 72 5 (L i) (L (i + 1)) (A1 i) ns (secs (mrkX q0 ns nd k X i)) ∧ SlF w 4 1 (L i) (L (i + 1)) (A2 i) nd (bools (mrkD q0 ns nd k D i))

theorem rise {L : Nat → Nat} {m : Nat} (h : ∀ i, i < m → L i ≤ L (i + 1)) : ∀ j i, i + j ≤ m → L i ≤ L (i + j) := fun j => by
  induction j with
  | zero => intro i _; exact Nat.le_refl _
  | succ j ih => intro i hi; have := h (i + j) (by omega); have := ih i (by omega); rw [← Nat.add_assoc]; omega

theorem rise' {L : Nat → Nat} {m : Nat} (h : ∀ i, i < m → L i ≤ L (i + 1)) {a b : Nat} (hab : a ≤ b) (hb : b ≤ m) : L a ≤ L b := by
  have := rise h (b - a) a (by omega)
  rwa [show a + (b - a) = b by omega] at this

theorem mrk_step {wr w1 w2 : World} {g mm m ns nd k lo hi : Nat} {A1 A2 : Nat → Value} {L : Nat → Nat} {q0 : Int} {C : Nat → Int} {B : Nat → Bool} {X : Nat → Nat → Sec} {D : Nat → Nat → Bool}
    (hL : ∀ i, i < m → L i ≤ L (i + 1)) (hlo : lo ≤ g) (hhi : g < hi) (l1 : lo ≤ L 0) (l2 : L m ≤ hi) (hk : k < m) (h : MrkI wr g mm m ns nd A1 A2 L q0 C B X D k)
    (s1 : SlF w1 72 5 (L k) (L (k + 1)) (A1 k) ns (secs (markSecs (mkQ q0 ns nd k + 1 + 1)))) (t1 : Turned ((wr.setCell ⟨g, k * 4, none⟩ (.int .i64 (mkQ q0 ns nd k))).setCell ⟨g, k * 4 + 1, none⟩ (.bool ((mkQ q0 ns nd k + 1) % 3 == 0))) w1 (· = 72) (L k) (L (k + 1)))
    (s2 : SlF w2 4 1 (L k) (L (k + 1)) (A2 k) nd (bools (markB (mkQ q0 ns nd k + 1 + 1 + 5 * (ns : Int))))) (t2 : Turned w1 w2 (· = 4) (L k) (L (k + 1))) :
    MrkI w2 g mm m ns nd A1 A2 L q0 C B X D (k + 1) ∧ Turned wr w2 isDn lo hi := by
  obtain ⟨f, hB, hf, hS⟩ := h
  have T0 : Turned wr ((wr.setCell ⟨g, k * 4, none⟩ (.int .i64 (mkQ q0 ns nd k))).setCell ⟨g, k * 4 + 1, none⟩ (.bool ((mkQ q0 ns nd k + 1) % 3 == 0))) (· = 68) lo hi := Turned.of_grown (grown_set (grown_set (World.grownBy.refl _ _) _) _) hlo hhi rfl hB
  have b0 := (hB.set (k * 4) (.int .i64 (mkQ q0 ns nd k))).set (k * 4 + 1) (.bool ((mkQ q0 ns nd k + 1) % 3 == 0))
  have b2 := Blk.turned (Blk.turned b0 t1 (.inl (by decide))) t2 (.inl (by decide))
  have r0 := rise' hL (Nat.zero_le k) (Nat.le_of_lt hk)
  have r1 := rise' hL (a := k + 1) (b := m) hk (Nat.le_refl _)
  refine ⟨⟨_, b2, fun i hi j hj => ?_, fun i hi => ?_⟩, ?_⟩
  · by_cases hik : i = k
    · subst hik
      rcases (show j = 0 ∨ j = 1 ∨ j = 2 ∨ j = 3 by omega) with rfl | rfl | rfl | rfl
      · simp [dnF, mrkC]
      · simp [dnF, mrkB]
      · have := hf i hi 2 (by omega); simp [dnF] at this ⊢; exact this
      · have := hf i hi 3 (by omega); simp [dnF] at this ⊢; exact this
    · have e1 : ¬ i * 4 + j = k * 4 + 1 := by omega
      have e2 : ¬ i * 4 + j = k * 4 := by omega
      have e3 : mrkC q0 ns nd (k + 1) C i = mrkC q0 ns nd k C i := by unfold mrkC; by_cases h : i < k; rw [if_pos h, if_pos (by omega)]; rw [if_neg h, if_neg (by omega)]
      have e4 : mrkB q0 ns nd (k + 1) B i = mrkB q0 ns nd k B i := by unfold mrkB; by_cases h : i < k; rw [if_pos h, if_pos (by omega)]; rw [if_neg h, if_neg (by omega)]
      simp only [e1, e2, if_false, e3, e4]
      exact hf i hi j hj
  · by_cases hik : i = k
    · subst hik
      have e5 : mrkX q0 ns nd (i + 1) X i = markSecs (mkQ q0 ns nd i + 1 + 1) := by unfold mrkX; rw [if_pos (by omega)]
      have e6 : mrkD q0 ns nd (i + 1) D i = markB (mkQ q0 ns nd i + 1 + 1 + 5 * (ns : Int)) := by unfold mrkD; rw [if_pos (by omega)]
      rw [e5, e6]
      exact ⟨s1.turned t2 (.inl (by decide)), s2⟩
    · have e5 : mrkX q0 ns nd (k + 1) X i = mrkX q0 ns nd k X i := by unfold mrkX; by_cases h : i < k; rw [if_pos h, if_pos (by omega)]; rw [if_neg h, if_neg (by omega)]
      have e6 : mrkD q0 ns nd (k + 1) D i = mrkD q0 ns nd k D i := by unfold mrkD; by_cases h : i < k; rw [if_pos h, if_pos (by omega)]; rw [if_neg h, if_neg (by omega)]
      rw [e5, e6]
      have hd : L (k + 1) ≤ L i ∨ L (i + 1) ≤ L k := by
        rcases Nat.lt_or_gt_of_ne hik with h | h
        · exact .inr (rise' hL h (by omega))
        · exact .inl (rise' hL h (by omega))
      exact ⟨(((hS i hi).1.turned T0 (.inl (by decide))).turned t1 (.inr hd)).turned t2 (.inl (by decide)), (((hS i hi).2.turned T0 (.inl (by decide))).turned t1 (.inl (by decide))).turned t2 (.inr hd)⟩
  · refine (T0.mono (fun e he => .inl he) (Nat.le_refl _) (Nat.le_refl _)).trans ((t1.mono (fun e he => .inr (.inl he)) (by omega) (by omega)).trans (t2.mono (fun e he => .inr (.inr he)) (by omega) (by omega)))

end Go.Proofs.YtlpopfhaephfaaaGreatDoor

namespace Go.Proofs.YtlpopfhaephfaaaGreatDoor
open Go.RowKit Go.Maps

theorem Tryz.infoDn : (Tryz.prog.info? 68).map (fun i => (i.zero, i.size, i.bytes)) = some (some (.agg #[.int .i64 0, .bool false, .slice none 0 0, .slice none 0 0]), 4, 64) := by kernel_rfl

theorem made_dones (m : Nat) : ∃ C : Array Value, C.size = m * 4 ∧ ∀ W : World, m ≤ 2000 → (Instr.makeSlice 61 (.int .i64 0) (.int .i64 (m : Int))).run Tryz.prog W = .ok (.slice (some ⟨W.heap.size, 0, none⟩) 0 m) (W.alloc (.cells C 68)) := by
  obtain ⟨i0, hi, hz0, hz1, hz2⟩ := info_parts Tryz.infoDn
  refine ⟨madeCells (Value.cells (.agg #[.int .i64 0, .bool false, .slice none 0 0, .slice none 0 0])) (m * 4), size_madeCells _ _, fun W hn => ?_⟩
  have := run_make (P := Tryz.prog) W 61 68 i0 _ Tryz.underlying61 hi hz0 .i64 .i64 0 (m : Int) (by omega) (by omega) (by rw [hz2]; omega) (by omega)
  rw [hz1] at this
  simpa using this

/-- the cells of a list of Dones -/
def dnL (C : Nat → Int) (A1 A2 : Nat → Value) : Nat → List Value
  | 0 => []
  | k + 1 => dnL C A1 A2 k ++ [.int .i64 (C k), .bool true, A1 k, A2 k]

theorem dnL_len (C : Nat → Int) (A1 A2 : Nat → Value) (k : Nat) : (dnL C A1 A2 k).length = k * 4 := by
  induction k with
  | zero => rfl
  | succ k ih => simp only [dnL, List.length_append, ih, List.length_cons, List.length_nil]; omega

theorem dnL_get (C : Nat → Int) (A1 A2 : Nat → Value) (k i j : Nat) (hi : i < k) (hj : j < 4) : (dnL C A1 A2 k)[i * 4 + j]? = some (dnF (C i) true (A1 i) (A2 i) j) := by
  induction k with
  | zero => omega
  | succ k ih =>
    unfold dnL
    rcases (show i < k ∨ i = k by omega) with e | e
    · rw [List.getElem?_append_left (by rw [dnL_len]; omega)]; exact ih e
    · subst e
      rw [List.getElem?_append_right (by rw [dnL_len]; omega), dnL_len]
      rw [show i * 4 + j - i * 4 = j by omega]
      match j, hj with
      | 0, _ => rfl
      | 1, _ => rfl
      | 2, _ => rfl
      | 3, _ => rfl

theorem dnL_congr {C : Nat → Int} {A1 A2 A1' A2' : Nat → Value} {k : Nat} (h1 : ∀ i, i < k → A1' i = A1 i) (h2 : ∀ i, i < k → A2' i = A2 i) : dnL C A1' A2' k = dnL C A1 A2 k := by
  induction k with
  | zero => rfl
  | succ k ih => unfold dnL; rw [ih (fun i hi => h1 i (by omega)) (fun i hi => h2 i (by omega)), h1 k (by omega), h2 k (by omega)]

theorem own_blk {w : World} {base e sz n g : Nat} {v : Value} {xs : List Value} (h : w.ownsRow base e sz v n xs) (hg : v.ownBlock = some g) : base ≤ g ∧ ∃ m f, Blk w g e m f := by
  rcases h.2 with ⟨rfl, _⟩ | ⟨g', cap, cur, rfl, hb, hh, _⟩
  · cases hg
  · simp only [Value.ownBlock, Option.some.injEq] at hg
    subst hg
    exact ⟨hb, cur.size, fun i => cur.toList.getD i (.int .i64 0), cur, hh, rfl, fun i hi => by simp [hi]⟩

theorem own_turned {w w' : World} {base e sz n lo hi : Nat} {v : Value} {xs : List Value} {E : Nat → Prop} (h : w.ownsRow base e sz v n xs) (ht : Turned w w' E lo hi) (hd : ¬ E e) : w'.ownsRow base e sz v n xs := by
  refine ⟨h.1, ?_⟩
  rcases h.2 with hn | ⟨g, cap, cur, rfl, hb, hgg, rest⟩
  · exact .inl hn
  · obtain ⟨_, m, f, hB⟩ := own_blk h rfl
    refine .inr ⟨g, cap, cur, rfl, hb, ?_, rest⟩
    rcases ht.block g (Array.getElem?_eq_some_iff.1 hgg).1 with h' | ⟨_, _, e', m', f', a3, a4⟩
    · rw [h']; exact hgg
    · exact absurd (by rw [← a4.type_eq hB]; exact a3) hd

theorem own_on {w w' : World} {base e sz n : Nat} {v : Value} {xs : List Value} (h : w.ownsRow base e sz v n xs) (hb : Below w.heap.size w w') : w'.ownsRow base e sz v n xs := own_turned h (Turned.of_below (E := fun _ => False) (lo := 0) (hi := 0) hb) id

theorem own_grown {w w' : World} {base e sz n : Nat} {v : Value} {xs : List Value} (h : w.ownsRow base e sz v n xs) (hg : w.grownBy w' v.ownBlock) : Turned w w' (· = e) base w.heap.size := by
  refine ⟨hg.os, hg.tape, hg.output, hg.size, fun k hk => ?_⟩
  by_cases hk' : some k = v.ownBlock
  · obtain ⟨hb, m, f, hB⟩ := own_blk h hk'.symm
    exact .inr ⟨hb, hk, e, m, f, rfl, hB⟩
  · exact .inl (hg.block k hk hk')

theorem new_cells4 (w : World) (a b c d : Value) (e : TypeId) : ∀ j u, [a, b, c, d][j]? = some u → (w.alloc (.cells #[a, b, c, d] e)).cell? ((⟨w.heap.size, 0, none⟩ : Addr).add j) = some u := by
  intro j u hu
  have hj : j < 4 := (List.getElem?_eq_some_iff.1 hu).1
  have ea : (⟨w.heap.size, 0, none⟩ : Addr).add j = ⟨w.heap.size, j, none⟩ := by simp [Addr.add]; exact fun h => h.symm
  rw [ea]
  match j, hj with
  | 0, _ => simpa using hu
  | 1, _ => simpa using hu
  | 2, _ => simpa using hu
  | 3, _ => simpa using hu

/-- What stands of a run behind k events: the list in memory of its own (from base on), the states' lists in ranges that rise up to top. -/
def RunI (w : World) (base top : Nat) (v : Value) (k ns n : Nat) (C : Nat → Int) (X : Nat → Nat → Sec) (D : Nat → Nat → Bool) : Prop :=
  ∃ (A1 A2 : Nat → Value) (L : Nat → Nat), w.ownsRow base 68 4 v k (dnL C A1 A2 k) ∧ base ≤ L 0 ∧ L k ≤ top ∧ ∀ i, i < k → L i ≤ L (i + 1) ∧ SlF w 72 5 (L i) (L (i + 1)) (A1 i) ns (secs (X i)) ∧ SlF w 4 1 (L i) (L (i + 1)) (A2 i) n (bools (D i))

section
variable {w w' : World} {base top k ns n : Nat} {v : Value} {C : Nat → Int} {X : Nat → Nat → Sec} {D : Nat → Nat → Bool}
theorem RunI.turned {E : Nat → Prop} {lo hi : Nat} (h : RunI w base top v k ns n C X D) (ht : Turned w w' E lo hi) (h1 : ¬ E 68) (h2 : ¬ E 72) (h3 : ¬ E 4) : RunI w' base top v k ns n C X D := by
  obtain ⟨A1, A2, L, a1, a2, a3, a4⟩ := h
  exact ⟨A1, A2, L, own_turned a1 ht h1, a2, a3, fun i hi => ⟨(a4 i hi).1, (a4 i hi).2.1.turned ht (.inl h2), (a4 i hi).2.2.turned ht (.inl h3)⟩⟩
theorem RunI.on (h : RunI w base top v k ns n C X D) (hb : Below w.heap.size w w') : RunI w' base top v k ns n C X D := h.turned (Turned.of_below (E := fun _ => False) (lo := 0) (hi := 0) hb) id id id
theorem RunI.alloc (h : RunI w base top v k ns n C X D) (o : Obj) : RunI (w.alloc o) base top v k ns n C X D := h.on (below_alloc (Below.refl _ _) _)
theorem RunI.own (h : RunI w base top v k ns n C X D) : ∃ xs, w.ownsRow base 68 4 v k xs := by
  obtain ⟨A1, A2, L, a1, _⟩ := h
  exact ⟨_, a1⟩
theorem RunI.step {A1 A2 : Nat → Value} {L : Nat → Nat} (a1 : w.ownsRow base 68 4 v k (dnL C A1 A2 k)) (a2 : base ≤ L 0) (a3 : L k ≤ top) (a4 : ∀ i, i < k → L i ≤ L (i + 1) ∧ SlF w 72 5 (L i) (L (i + 1)) (A1 i) ns (secs (X i)) ∧ SlF w 4 1 (L i) (L (i + 1)) (A2 i) n (bools (D i)))
    {lo hi : Nat} {u1 u2 v' : Value} {c : Int} (hc : c = C k) (hl : Lst w lo hi u1 ns (X k) u2 n (D k)) (h1 : top ≤ lo) (h2 : lo ≤ hi)
    (ha : w'.ownsRow base 68 4 v' (k + 1) (dnL C A1 A2 k ++ [.int .i64 c, .bool true, u1, u2])) (hg : w.grownBy w' v.ownBlock) : RunI w' base hi v' (k + 1) ns n C X D := by
  subst hc
  have ht := own_grown a1 hg
  have f1 : ∀ i, i < k → (if i = k then u1 else A1 i) = A1 i := fun i hi => if_neg (by omega)
  have f2 : ∀ i, i < k → (if i = k then u2 else A2 i) = A2 i := fun i hi => if_neg (by omega)
  refine ⟨fun i => if i = k then u1 else A1 i, fun i => if i = k then u2 else A2 i, fun i => if i ≤ k then L i else hi, ?_, by simpa using a2, by show (if k + 1 ≤ k then _ else _) ≤ _; rw [if_neg (by omega)]; exact Nat.le_refl _, fun i hi' => ?_⟩
  · unfold dnL
    rw [dnL_congr (A1 := A1) (A2 := A2) f1 f2]
    simp only [if_true]
    exact ha
  · by_cases hk : i = k
    · subst hk
      simp only [if_true, Nat.le_refl, show ¬ i + 1 ≤ i by omega, if_false]
      exact ⟨by omega, (hl.1.turned ht (.inl (by decide))).wide (by omega) (Nat.le_refl _), (hl.2.turned ht (.inl (by decide))).wide (by omega) (Nat.le_refl _)⟩
    · have b1 : i ≤ k := by omega
      have b2 : i + 1 ≤ k := by omega
      simp only [b1, b2, hk, if_true, if_false]
      exact ⟨(a4 i b2).1, (a4 i b2).2.1.turned ht (.inl (by decide)), (a4 i b2).2.2.turned ht (.inl (by decide))⟩
theorem RunI.dones (h : RunI w base top v k ns n C X D) (h1 : top ≤ w.heap.size) : DnF w base w.heap.size v k ns n C (fun _ => true) X D := by
  obtain ⟨A1, A2, L, a1, a2, a3, a4⟩ := h
  exact ⟨A1, A2, L, SlF.of_ownsRow a1 (fun i hi j hj => dnL_get C A1 A2 k i j hi hj), a2, by omega, a4⟩
end

theorem bd6_sets {W : World} {b : Nat} {f : Nat → Value} (h : Blk W b 96 6 f) (S : Int) (g n B : Nat) (ok : Bool) (v1 v2 : Value) :
    Bd6 ((((((W.setCell ⟨b, 0, none⟩ (.int .i64 S)).setCell ⟨b, 1, none⟩ (.slice (gA g) n (gC g))).setCell ⟨b, 2, none⟩ (.map (some B))).setCell ⟨b, 3, none⟩ (.bool ok)).setCell ⟨b, 4, none⟩ v1).setCell ⟨b, 5, none⟩ v2) b S g n B ok v1 v2 ∧
    Turned W ((((((W.setCell ⟨b, 0, none⟩ (.int .i64 S)).setCell ⟨b, 1, none⟩ (.slice (gA g) n (gC g))).setCell ⟨b, 2, none⟩ (.map (some B))).setCell ⟨b, 3, none⟩ (.bool ok)).setCell ⟨b, 4, none⟩ v1).setCell ⟨b, 5, none⟩ v2) (· = 96) b (b + 1) := by
  have k := (((((h.set 0 (.int .i64 S)).set 1 (.slice (gA g) n (gC g))).set 2 (.map (some B))).set 3 (.bool ok)).set 4 v1).set 5 v2
  refine ⟨k.congr (fun i hi => by match i, hi with | 0, _ => rfl | 1, _ => rfl | 2, _ => rfl | 3, _ => rfl | 4, _ => rfl | 5, _ => rfl), ?_⟩
  exact Turned.of_grown (grown_set (grown_set (grown_set (grown_set (grown_set (grown_set (World.grownBy.refl _ _) _) _) _) _) _) _) (Nat.le_refl _) (by omega) rfl h

theorem bd6_state {W : World} {b : Nat} {S : Int} {g n B : Nat} {ok ok' : Bool} {v1 v2 v1' v2' : Value} (h : Bd6 W b S g n B ok v1 v2) :
    Bd6 (((W.setCell ⟨b, 3, none⟩ (.bool ok')).setCell ⟨b, 4, none⟩ v1').setCell ⟨b, 5, none⟩ v2') b S g n B ok' v1' v2' ∧
    Turned W (((W.setCell ⟨b, 3, none⟩ (.bool ok')).setCell ⟨b, 4, none⟩ v1').setCell ⟨b, 5, none⟩ v2') (· = 96) b (b + 1) := by
  have k := ((Blk.set h 3 (.bool ok')).set 4 v1').set 5 v2'
  refine ⟨k.congr (fun i hi => by match i, hi with | 0, _ => rfl | 1, _ => rfl | 2, _ => rfl | 3, _ => rfl | 4, _ => rfl | 5, _ => rfl), ?_⟩
  exact Turned.of_grown (grown_set (grown_set (grown_set (World.grownBy.refl _ _) _) _) _) (Nat.le_refl _) (by omega) rfl h

theorem three {w : World} {g e m n k : Nat} {f : Nat → Value} {P : Nat → Nat → Int} (h : Blk w g e m f) (hm : n * 3 ≤ m) (hk : k < n) (hf : ∀ i, i < n → ∀ j, j < 3 → f (i * 3 + j) = evs P i j) :
    w.cell? ⟨g, k * 3, none⟩ = some (.int .i64 (P k 0)) ∧ w.cell? ⟨g, k * 3 + 1, none⟩ = some (.int .i64 (P k 1)) ∧ w.cell? ⟨g, k * 3 + 2, none⟩ = some (.int .i64 (P k 2)) :=
  ⟨by rw [h.cell (by omega)]; exact congrArg some (hf k hk 0 (by omega)), by rw [h.cell (by omega), hf k hk 1 (by omega)]; rfl, by rw [h.cell (by omega), hf k hk 2 (by omega)]; rfl⟩

theorem runOk_any (S : Int) (g n m ce : Nat) (ae : Option Addr) (F T : Nat → Int) (w : World) (hm : m ≤ 1048576) (hrow : CRow w g n F T) :
    Calls Tryz.prog 13 #[.agg #[.int .i64 S, .slice (gA g) n (gC g)], .slice ae m ce] w fun e w' => e = .returned (.bool (lokZ S n F T == 0 && decide (m ≤ 2000))) ∧ Below w.heap.size w w' := by
  have kc := fun o => implLayoutOk_any S g n F T _ (hrow.alloc o)
  go_enter Tryz.func13, Tryz.ntmps13
  go_wp2_with fail
  refine (kc _).mono ?_
  rintro e w1 ⟨rfl, hb1⟩
  have B1 := below_on (show Below w.heap.size w _ from (by repeat (first | exact Below.refl _ _ | assumption | refine below_alloc ?_ _ | refine Below.setCell ?_ (by first | omega | (simp; done) | (simp; omega)) _ | refine Below.alloc ?_ (by first | omega | (simp; done) | (simp; omega)) _ | refine Below.drew ?_))) hb1
  clear hb1
  by_cases hl : lokZ S n F T = 0
  · have h1 : (lokZ S n F T == 0) = true := by simp [hl]
    rw [hl]
    by_cases hm2 : m ≤ 2000
    · have h2 : (m : Int) ≤ 2000 := by omega
      go_wp2
      go_ret
      exact ⟨by simp [hm2, hl], B1⟩
    · have h2 : ¬ (m : Int) ≤ 2000 := by omega
      go_wp2
      go_ret
      exact ⟨by simp [hm2]; omega, B1⟩
  · have h1 : (lokZ S n F T == 0) = false := by simp [hl]
    go_wp2
    go_ret
    exact ⟨by simp [hl], B1⟩

end Go.Proofs.YtlpopfhaephfaaaGreatDoor
