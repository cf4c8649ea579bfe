import Derived.Test.YtlpopfhaephfaabRN1
import Derived.Test.YtlpopfhaephfaabDL1
import Derived.Test.YtlpopfhaephfaabDM12
namespace Go.Proofs.Ytlpopfhaephfaab
open Go.RowKit Go.Maps

/-- how all stands ahead of the k-th event of a run -/
def runS (S : Int) (n : Nat) (F T : Nat → Int) (P : Nat → Nat → Int) : Nat → (Nat → Sec) × (Nat → Bool)
  | 0 => (fun _ => sec0, fun _ => false)
  | k + 1 => (nxtX S n F T (runS S n F T P k).1 (runS S n F T P k).2 (P k 0) (P k 1) (P k 2), bhD S n (runS S n F T P k).2 (P k 0) (P k 1) (P k 2))
def runX (S : Int) (n : Nat) (F T : Nat → Int) (P : Nat → Nat → Int) (k : Nat) : Nat → Sec := (runS S n F T P k).1
def runD (S : Int) (n : Nat) (F T : Nat → Int) (P : Nat → Nat → Int) (k : Nat) : Nat → Bool := (runS S n F T P k).2
def runC (S : Int) (n : Nat) (F T : Nat → Int) (P : Nat → Nat → Int) (k : Nat) : Int := bhC S n F T (runX S n F T P k) (runD S n F T P k) (P k 0) (P k 1) (P k 2)

theorem runX_succ (S : Int) (n : Nat) (F T : Nat → Int) (P : Nat → Nat → Int) (k : Nat) : runX S n F T P (k + 1) = nxtX S n F T (runX S n F T P k) (runD S n F T P k) (P k 0) (P k 1) (P k 2) := rfl
theorem runD_succ (S : Int) (n : Nat) (F T : Nat → Int) (P : Nat → Nat → Int) (k : Nat) : runD S n F T P (k + 1) = bhD S n (runD S n F T P k) (P k 0) (P k 1) (P k 2) := rfl

theorem dead_none (n : Nat) (F T : Nat → Int) (s : Int) : deadB n F T (fun _ => false) s = false := by
  unfold deadB
  simp

theorem stOk_begin {S : Int} {n ns : Nat} {F T : Nat → Int} (hl : lokZ S n F T = 0) (hS : (ns : Int) = S) : stOk S n F T true ns n (fun _ => sec0) (fun _ => false) = true := by
  refine stOk_yes hl hS fun k hk => ?_
  rw [dead_none]
  decide

theorem run_ok {S : Int} {n ns : Nat} {F T : Nat → Int} {P : Nat → Nat → Int} (hl : lokZ S n F T = 0) (hS : (ns : Int) = S) (k : Nat) : stOk S n F T true ns n (runX S n F T P k) (runD S n F T P k) = true := by
  induction k with
  | zero => exact stOk_begin hl hS
  | succ k ih => rw [runX_succ, runD_succ]; exact stOk_next S _ _ _ n ns F T _ _ ih

/-- where nothing happens all is told as it was -/
theorem nxt_none {S op f d : Int} {n ns : Nat} {F T : Nat → Int} {X : Nat → Sec} {D : Nat → Bool} (h : stOk S n F T true ns n X D = true) (hev : evB S n op f d = false) : (∀ k, k < ns → nxtX S n F T X D op f d k = X k) ∧ bhD S n D op f d = D ∧ bhC S n F T X D op f d = 1 := by
  obtain ⟨hl, _, hS, _, hsec⟩ := stOk_parts h
  have e3 : bhX S n F T X D op f d = X := by unfold bhX; rw [hev]; rfl
  have e4 : bhD S n D op f d = D := by unfold bhD; rw [hev]; rfl
  have e2 : bhC S n F T X D op f d = 1 := by unfold bhC; rw [hev]; rfl
  refine ⟨fun k hk => ?_, e4, e2⟩
  unfold nxtX told1
  rw [e3, e4]
  have h1 := hsec k hk
  unfold secOk at h1
  simp only [Bool.and_eq_true, beq_iff_eq] at h1
  rw [← h1.1.2]

theorem effC_ne {n : Nat} {F T : Nat → Int} {X : Nat → Sec} {D : Nat → Bool} {op f : Int} : effC n F T X D op f ≠ 1 := by
  unfold effC passC rstC
  repeat' split
  all_goals decide

/-- A list of m Dones in a block between lo and hi; the lists of their states lie in ranges that rise. -/
def DnF (w : World) (lo hi : Nat) (v : Value) (m ns nd : Nat) (C : Nat → Int) (B : Nat → Bool) (X : Nat → Nat → Sec) (D : Nat → Nat → Bool) : Prop :=
  ∃ (A1 A2 : Nat → Value) (L : Nat → Nat), SlF w 46 4 lo hi v m (fun i j => dnF (C i) (B i) (A1 i) (A2 i) j) ∧ lo ≤ L 0 ∧ L m ≤ hi ∧ ∀ i, i < m → L i ≤ L (i + 1) ∧ SlF w 93 5 (L i) (L (i + 1)) (A1 i) ns (secs (X i)) ∧ SlF w 4 1 (L i) (L (i + 1)) (A2 i) nd (bools (D i))

section
variable {w w' : World} {lo hi m ns nd : Nat} {v : Value} {C : Nat → Int} {B : Nat → Bool} {X : Nat → Nat → Sec} {D : Nat → Nat → Bool}
theorem DnF.on (h : DnF w lo hi v m ns nd C B X D) (hb : Below w.heap.size w w') : DnF w' lo hi v m ns nd C B X D := by
  obtain ⟨A1, A2, L, h1, h2, h3, h4⟩ := h
  exact ⟨A1, A2, L, h1.on hb, h2, h3, fun i hi => ⟨(h4 i hi).1, (h4 i hi).2.1.on hb, (h4 i hi).2.2.on hb⟩⟩
theorem DnF.alloc (h : DnF w lo hi v m ns nd C B X D) (o : Obj) : DnF (w.alloc o) lo hi v m ns nd C B X D := h.on (below_alloc (Below.refl _ _) _)
theorem DnF.drew (h : DnF w lo hi v m ns nd C B X D) : DnF w.drew lo hi v m ns nd C B X D := h
theorem DnF.turned {E : Nat → Prop} {lo' hi' : Nat} (h : DnF w lo hi v m ns nd C B X D) (ht : Turned w w' E lo' hi') (hd : (¬ E 46 ∧ ¬ E 93 ∧ ¬ E 4) ∨ hi' ≤ lo ∨ hi ≤ lo') : DnF w' lo hi v m ns nd C B X D := by
  obtain ⟨A1, A2, L, h1, h2, h3, h4⟩ := h
  have mono : ∀ j i, i + j ≤ m → L i ≤ L (i + j) := fun j => by
    induction j with
    | zero => intro i _; exact Nat.le_refl _
    | succ j ih => intro i hj; have h5 := (h4 (i + j) (by omega)).1; have h6 := ih i (by omega); rw [← Nat.add_assoc]; omega
  have d1 : ¬ E 46 ∨ hi' ≤ lo ∨ hi ≤ lo' := by
    rcases hd with ⟨a, _, _⟩ | h
    · exact .inl a
    · exact .inr h
  refine ⟨A1, A2, L, h1.turned ht d1, h2, h3, fun i hlt => ?_⟩
  have a1 := mono i 0 (by omega)
  have a2 := mono (m - (i + 1)) (i + 1) (by omega)
  rw [show i + 1 + (m - (i + 1)) = m by omega] at a2
  rw [Nat.zero_add] at a1
  refine ⟨(h4 i hlt).1, (h4 i hlt).2.1.turned ht ?_, (h4 i hlt).2.2.turned ht ?_⟩
  · rcases hd with ⟨a, b, c⟩ | h | h
    · exact .inl b
    · right; left; omega
    · right; right; omega
  · rcases hd with ⟨a, b, c⟩ | h | h
    · exact .inl c
    · right; left; omega
    · right; right; omega
theorem DnF.nil (w : World) (lo hi ns nd : Nat) (ao : Option Addr) (cap : Nat) (h : lo ≤ hi) (C : Nat → Int) (B : Nat → Bool) (X : Nat → Nat → Sec) (D : Nat → Nat → Bool) : DnF w lo hi (.slice ao 0 cap) 0 ns nd C B X D :=
  ⟨fun _ => .slice none 0 0, fun _ => .slice none 0 0, fun _ => lo, ⟨ao, cap, rfl, .inl rfl⟩, Nat.le_refl _, h, fun i hi => by omega⟩
end

theorem four {w : World} {g e m n k : Nat} {f : Nat → Value} {C : Nat → Int} {B : Nat → Bool} {A1 A2 : Nat → Value} (h : Blk w g e m f) (hm : n * 4 ≤ m) (hk : k < n) (hf : ∀ i, i < n → ∀ j, j < 4 → f (i * 4 + j) = dnF (C i) (B i) (A1 i) (A2 i) j) :
    w.cell? ⟨g, k * 4, none⟩ = some (.int .i64 (C k)) ∧ w.cell? ⟨g, k * 4 + 1, none⟩ = some (.bool (B k)) ∧ w.cell? ⟨g, k * 4 + 2, none⟩ = some (A1 k) ∧ w.cell? ⟨g, k * 4 + 3, none⟩ = some (A2 k) :=
  ⟨by rw [h.cell (by omega)]; exact congrArg some (hf k hk 0 (by omega)), by rw [h.cell (by omega), hf k hk 1 (by omega)]; rfl, by rw [h.cell (by omega), hf k hk 2 (by omega)]; rfl, by rw [h.cell (by omega), hf k hk 3 (by omega)]; rfl⟩

end Go.Proofs.Ytlpopfhaephfaab
