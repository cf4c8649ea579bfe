import Derived.Test.YtlpopfhaephfaaaQP
import Derived.Test.YtlpopfhaephfaaaQF
import Derived.Test.YtlpopfhaephfaaaOW
import Derived.Test.YtlpopfhaephfaaaQC
namespace Go.Proofs.Ytlpopfhaephfaaa.Ps
open Go.RowKit

/-- a row of n sections, with a counter at each end and between each two; the posts of a way through all -/
def lnF (i : Nat) : Int := (i : Int) - 1
def lnT (n i : Nat) : Int := if i = n then -1 else (i : Int)
def lnP (ap : Int) (i j : Nat) : Int := if j = 0 then ap * ((i : Int) + 1) else if j = 1 then (i : Int) else 1

theorem ln_ok {n : Nat} (h1 : 1 ≤ n) (h2 : n ≤ 60) : lokZ (n : Int) (n + 1) lnF (lnT n) = 0 := by
  refine lokZ_zero (by omega) (fun i hi => ?_)
  unfold lnF lnT
  split
  · exact bad_not _ _ _ (by omega) (by omega) (by omega) (by omega) (by omega)
  · exact bad_not _ _ _ (by omega) (by omega) (by omega) (by omega) (by omega)

theorem ln_dead {n i : Nat} (D : Nat → Bool) (hi : i < n) : deadB (n + 1) lnF (lnT n) D (i : Int) = (D i || D (i + 1)) := by
  have key : ∀ c, c < n + 1 → ((lnF c = (i : Int) ∨ lnT n c = (i : Int)) ↔ (c = i + 1 ∨ c = i)) := by
    intro c hc
    unfold lnF lnT
    split <;> omega
  cases h : (D i || D (i + 1))
  · simp only [Bool.or_eq_false_iff] at h
    unfold deadB
    rw [List.any_eq_false]
    intro z hz
    obtain ⟨m, hm, rfl, hs⟩ := zs_side hz
    rcases (key m hm).1 hs with rfl | rfl
    · simp [h.2]
    · simp [h.1]
  · rw [Bool.or_eq_true] at h
    rcases h with h | h
    · exact dead_of (show i < n + 1 by omega) h ((key i (by omega)).2 (.inr rfl))
    · exact dead_of (show i + 1 < n + 1 by omega) h ((key (i + 1) (by omega)).2 (.inl rfl))
  where
  dead_of {n : Nat} {F T : Nat → Int} {D : Nat → Bool} {f : Nat} {s : Int} (hf : f < n) (hd : D f = true) (hs : F f = s ∨ T f = s) : deadB n F T D s = true := by
    unfold deadB
    refine List.any_eq_true.2 ⟨(f : Int), ?_, by simpa using hd⟩
    unfold zsAt
    simp only [List.mem_map, List.mem_filter, List.mem_range]
    exact ⟨f, ⟨hf, by simpa using hs⟩, rfl⟩

/-- whether an event touches a section -/
def tch (i : Nat) (e : Int × Int × Int) : Bool := if e.1 = 5 then decide (e.2.1 = (i : Int)) else decide (e.2.1 = (i : Int)) || decide (e.2.1 = (i : Int) + 1)

/-- one section alone: how it stands, and whether the counters at its two sides are dead -/
structure S1 where
  x : Sec
  dl : Bool
  dr : Bool
def s10 : S1 := ⟨sec0, false, false⟩

def tls (dl dr : Bool) (x : Sec) : S1 := ⟨tlS (dl || dr) x, dl, dr⟩
def stp (i : Nat) (s : S1) (e : Int × Int × Int) : S1 :=
  if tch i e = false then s
  else if e.1 = 1 then tls s.dl s.dr (if e.2.1 = (i : Int) then (if s.dl then s.x else cnt s.x 1) else if s.dr then s.x else cnt s.x (-1))
  else if e.1 = 3 then tls (if e.2.1 = (i : Int) then true else s.dl) (if e.2.1 = (i : Int) then s.dr else true) ⟨s.x.told, s.x.count, true, s.x.sweep, s.x.last⟩
  else if e.1 = 4 then tls (if e.2.1 = (i : Int) then false else s.dl) (if e.2.1 = (i : Int) then s.dr else false) s.x
  else tls s.dl s.dr (if s.dl || s.dr then s.x else if s.x.last = 1 then s.x else ⟨0, 0, false, true, 0⟩)

/-- the events that a line knows here -/
def lnE (n : Nat) (e : Int × Int × Int) : Prop := (e.1 = 1 ∧ 0 ≤ e.2.1 ∧ e.2.1 ≤ (n : Int) ∧ e.2.2 = 1) ∨ ((e.1 = 3 ∨ e.1 = 4) ∧ 0 ≤ e.2.1 ∧ e.2.1 ≤ (n : Int) ∧ e.2.2 = 0) ∨ (e.1 = 5 ∧ 0 ≤ e.2.1 ∧ e.2.1 < (n : Int) ∧ e.2.2 = 0)

theorem lnE_ev {n : Nat} {e : Int × Int × Int} (h : lnE n e) : evB (n : Int) (n + 1) e.1 e.2.1 e.2.2 = true := by
  obtain ⟨op, f, d⟩ := e
  unfold lnE at h
  unfold evB
  simp only at h ⊢
  rcases h with ⟨rfl, a, b, c⟩ | ⟨h, a, b, c⟩ | ⟨rfl, a, b, c⟩
  · rw [if_pos (.inl rfl)]; exact decide_eq_true ⟨a, by omega, .inl c⟩
  · rw [if_neg (by omega), if_pos h]; exact decide_eq_true ⟨a, by omega, c⟩
  · rw [if_neg (by omega), if_neg (by omega), if_pos rfl]; exact decide_eq_true ⟨a, by omega, c⟩

theorem sec_told {S : Int} {n ns i : Nat} {F T : Nat → Int} {X : Nat → Sec} {D : Nat → Bool} (h : stOk S n F T true ns n X D = true) (hi : i < ns) : X i = tlS (deadB n F T D (i : Int)) (X i) := by
  obtain ⟨_, _, _, _, hsec⟩ := stOk_parts h
  have h1 := hsec i hi
  unfold secOk at h1
  simp only [Bool.and_eq_true, beq_iff_eq] at h1
  unfold tlS
  rw [← h1.1.2]

theorem stp_ok {n i : Nat} {X : Nat → Sec} {D : Nat → Bool} {e : Int × Int × Int} (hn : i < n) (he : lnE n e) (h : stOk (n : Int) (n + 1) lnF (lnT n) true n (n + 1) X D = true) :
    (⟨nxtX (n : Int) (n + 1) lnF (lnT n) X D e.1 e.2.1 e.2.2 i, bhD (n : Int) (n + 1) D e.1 e.2.1 e.2.2 i, bhD (n : Int) (n + 1) D e.1 e.2.1 e.2.2 (i + 1)⟩ : S1) = stp i ⟨X i, D i, D (i + 1)⟩ e := by
  have hev := lnE_ev he
  have htold := sec_told h hn
  rw [ln_dead D hn] at htold
  obtain ⟨op, f, d⟩ := e
  unfold lnE at he
  simp only at he hev ⊢
  have nx : nxtX (n : Int) (n + 1) lnF (lnT n) X D op f d i = tlS (bhD (n : Int) (n + 1) D op f d i || bhD (n : Int) (n + 1) D op f d (i + 1)) (effX (n + 1) lnF (lnT n) X D op f d i) := by
    unfold nxtX told1
    rw [ln_dead _ hn]
    unfold bhX
    rw [hev]
    rfl
  have bd : bhD (n : Int) (n + 1) D op f d = effD D op f := by unfold bhD; rw [hev]; rfl
  rw [bd] at nx ⊢
  rw [nx]
  unfold stp tch
  simp only
  rcases he with ⟨rfl, a, b, rfl⟩ | ⟨h34, a, b, rfl⟩ | ⟨rfl, a, b, rfl⟩
  · obtain ⟨c, rfl⟩ : ∃ c : Nat, f = (c : Int) := ⟨f.toNat, by omega⟩
    have e1 : effD D 1 (c : Int) = D := by simp [effD]
    have e2 : effX (n + 1) lnF (lnT n) X D 1 (c : Int) 1 i = if D c then X i else pwS (lnF c) (lnT n c) i (X i) := by
      have : effX (n + 1) lnF (lnT n) X D 1 (c : Int) 1 = passY lnF (lnT n) X D c 1 true := by simp [effX]
      rw [this]
      unfold passY
      split
      · rfl
      · unfold passX pwS
        rw [cntSide_at]
        simp only [if_true]
        rw [cntSide_at]
        rfl
    rw [e1, e2]
    simp only [show ¬ ((1 : Int) = 5) by omega, if_false, if_true]
    by_cases c1 : c = i
    · subst c1
      have t1 : lnT n c = (c : Int) := by unfold lnT; rw [if_neg (by omega)]
      have f1 : ¬ lnF c = (c : Int) := by unfold lnF; omega
      unfold pwS
      rw [if_pos t1, if_neg f1]
      simp [tls]
    · by_cases c2 : c = i + 1
      · subst c2
        have t1 : ¬ lnT n (i + 1) = (i : Int) := by unfold lnT; split <;> omega
        have f1 : lnF (i + 1) = (i : Int) := by unfold lnF; omega
        unfold pwS
        rw [if_neg t1, if_pos f1]
        have c3 : ¬ (((i + 1 : Nat) : Int)) = (i : Int) := by omega
        have c4 : (((i + 1 : Nat) : Int)) = (i : Int) + 1 := by omega
        simp only [c4, decide_true, decide_false, Bool.false_or, Bool.true_eq_false, if_false, tls, show ¬ ((i : Int) + 1 = (i : Int)) by omega]
      · have t1 : ¬ lnT n c = (i : Int) := by unfold lnT; split <;> omega
        have f1 : ¬ lnF c = (i : Int) := by unfold lnF; omega
        rw [pw_off _ f1 t1]
        have c3 : ¬ (c : Int) = (i : Int) := by omega
        have c4 : ¬ (c : Int) = (i : Int) + 1 := by omega
        simp only [c3, c4, decide_false, Bool.or_false, if_true]
        rw [show (if D c = true then X i else X i) = X i by split <;> rfl, ← htold]
  · obtain ⟨c, rfl⟩ : ∃ c : Nat, f = (c : Int) := ⟨f.toNat, by omega⟩
    rcases h34 with rfl | rfl
    · have e1 : effD D 3 (c : Int) = setB D c true := by simp [effD]
      have e2 : effX (n + 1) lnF (lnT n) X D 3 (c : Int) 0 = lostSide (lostSide X (lnF c)) (lnT n c) := by simp [effX]
      rw [e1, e2]
      simp only [show ¬ ((3 : Int) = 5) by omega, show ¬ ((3 : Int) = 1) by omega, if_false, if_true]
      unfold setB
      by_cases c1 : c = i
      · subst c1
        have t1 : lnT n c = (c : Int) := by unfold lnT; rw [if_neg (by omega)]
        have f1 : lnF c ≠ (c : Int) := by unfold lnF; omega
        rw [t1, lost_same, lost_other f1]
        simp [tls]
      · by_cases c2 : c = i + 1
        · subst c2
          have t1 : lnT n (i + 1) ≠ (i : Int) := by unfold lnT; split <;> omega
          have f1 : lnF (i + 1) = (i : Int) := by unfold lnF; omega
          rw [lost_other t1, f1, lost_same]
          have c3 : ¬ (((i + 1 : Nat) : Int)) = (i : Int) := by omega
          have c4 : (((i + 1 : Nat) : Int)) = (i : Int) + 1 := by omega
          simp only [c4, decide_true, decide_false, Bool.false_or, Bool.true_eq_false, if_false, if_true, tls, show ¬ ((i : Int) + 1 = (i : Int)) by omega, show ¬ (i = i + 1) by omega]
        · have t1 : lnT n c ≠ (i : Int) := by unfold lnT; split <;> omega
          have f1 : lnF c ≠ (i : Int) := by unfold lnF; omega
          rw [lost_other t1, lost_other f1]
          have c3 : ¬ (c : Int) = (i : Int) := by omega
          have c4 : ¬ (c : Int) = (i : Int) + 1 := by omega
          have c5 : ¬ i = c := by omega
          have c6 : ¬ i + 1 = c := by omega
          simp only [c3, c4, c5, c6, decide_false, Bool.or_false, if_true, if_false]
          rw [← htold]
    · have e1 : effD D 4 (c : Int) = setB D c false := by simp [effD]
      have e2 : effX (n + 1) lnF (lnT n) X D 4 (c : Int) 0 = X := by simp [effX]
      rw [e1, e2]
      simp only [show ¬ ((4 : Int) = 5) by omega, show ¬ ((4 : Int) = 1) by omega, show ¬ ((4 : Int) = 3) by omega, if_false, if_true]
      unfold setB
      by_cases c1 : c = i
      · subst c1
        simp [tls]
      · by_cases c2 : c = i + 1
        · subst c2
          have c4 : (((i + 1 : Nat) : Int)) = (i : Int) + 1 := by omega
          simp only [c4, decide_true, decide_false, Bool.false_or, Bool.true_eq_false, if_false, if_true, tls, show ¬ ((i : Int) + 1 = (i : Int)) by omega, show ¬ (i = i + 1) by omega]
        · have c3 : ¬ (c : Int) = (i : Int) := by omega
          have c4 : ¬ (c : Int) = (i : Int) + 1 := by omega
          have c5 : ¬ i = c := by omega
          have c6 : ¬ i + 1 = c := by omega
          simp only [c3, c4, c5, c6, decide_false, Bool.or_false, if_true, if_false]
          rw [← htold]
  · obtain ⟨c, rfl⟩ : ∃ c : Nat, f = (c : Int) := ⟨f.toNat, by omega⟩
    have hc : c < n := by omega
    have e1 : effD D 5 (c : Int) = D := by simp [effD]
    have e2 : effX (n + 1) lnF (lnT n) X D 5 (c : Int) 0 = rstY (n + 1) lnF (lnT n) X D c := by simp [effX]
    rw [e1, e2]
    simp only [show ¬ ((5 : Int) = 1) by omega, show ¬ ((5 : Int) = 3) by omega, show ¬ ((5 : Int) = 4) by omega, if_false, if_true]
    unfold rstY
    rw [ln_dead D hc]
    by_cases c1 : c = i
    · subst c1
      simp only [decide_true, Bool.true_eq_false, if_false]
      unfold tls
      simp only [S1.mk.injEq, and_self, and_true]
      congr 1
      split
      · rfl
      · split
        · rfl
        · unfold resetAt; rw [if_pos rfl]
    · have c3 : ¬ (c : Int) = (i : Int) := by omega
      simp only [c3, decide_false, if_true]
      have : (if (D c || D (c + 1)) = true then X else if (X c).last = 1 then X else resetAt X c) i = X i := by
        split
        · rfl
        · split
          · rfl
          · unfold resetAt; rw [if_neg (by omega)]
      rw [this, ← htold]

/-- a section of a line is told by the events that touch it -/
theorem ln_run {n : Nat} (h1 : 1 ≤ n) (h2 : n ≤ 60) (L : List (Int × Int × Int)) (hL : ∀ e ∈ L, lnE n e) (i : Nat) (hi : i < n) (k : Nat) (hk : k ≤ L.length) :
    (⟨runX (n : Int) (n + 1) lnF (lnT n) (trP L) k i, runD (n : Int) (n + 1) lnF (lnT n) (trP L) k i, runD (n : Int) (n + 1) lnF (lnT n) (trP L) k (i + 1)⟩ : S1) = (L.take k).foldl (stp i) s10 := by
  induction k with
  | zero => rfl
  | succ k ih =>
    have hk' : k < L.length := hk
    have e1 : L.take (k + 1) = L.take k ++ [L[k]] := by rw [List.take_add_one, List.getElem?_eq_getElem hk']; rfl
    have e2 : L.getD k (0, 0, 0) = L[k] := by rw [List.getD_eq_getElem?_getD, List.getElem?_eq_getElem hk']; rfl
    rw [e1, List.foldl_append, List.foldl_cons, List.foldl_nil, ← ih (by omega), runX_succ, runD_succ]
    have hp : ∀ j, trP L k j = (if j = 0 then L[k].1 else if j = 1 then L[k].2.1 else L[k].2.2) := fun j => by unfold trP; rw [e2]
    rw [hp 0, hp 1, hp 2]
    exact stp_ok hi (hL _ (List.getElem_mem hk')) (run_ok (ln_ok h1 h2) rfl k)

theorem fold_tch (i : Nat) (L : List (Int × Int × Int)) (s : S1) : L.foldl (stp i) s = (L.filter (tch i)).foldl (stp i) s := by
  induction L generalizing s with
  | nil => rfl
  | cons e L ih =>
    cases h : tch i e
    · have hs : stp i s e = s := by unfold stp; rw [if_pos h]
      rw [List.foldl_cons, hs, List.filter_cons_of_neg (by simp [h])]
      exact ih s
    · rw [List.foldl_cons, List.filter_cons_of_pos h, List.foldl_cons]
      exact ih _

theorem ln_all {n : Nat} (h1 : 1 ≤ n) (h2 : n ≤ 60) (L : List (Int × Int × Int)) (hL : ∀ e ∈ L, lnE n e) (i : Nat) (hi : i < n) :
    (⟨runX (n : Int) (n + 1) lnF (lnT n) (trP L) L.length i, runD (n : Int) (n + 1) lnF (lnT n) (trP L) L.length i, runD (n : Int) (n + 1) lnF (lnT n) (trP L) L.length (i + 1)⟩ : S1) = (L.filter (tch i)).foldl (stp i) s10 := by
  rw [ln_run h1 h2 L hL i hi L.length (Nat.le_refl _), List.take_length, fold_tch]

/-- meetings as events -/
def evT (z : M3) : Int × Int × Int := (1, z.p, 1)

/-- sorting, plainly -/
def ltB (x y : M3) : Bool := decide (x.f < y.f) || (decide (x.f = y.f) && (decide (x.a < y.a) || (decide (x.a = y.a) && decide (x.p < y.p))))
theorem ltB_iff {x y : M3} : ltB x y = true ↔ lt3 x y := by unfold ltB lt3; simp
def ins (z : M3) : List M3 → List M3
  | [] => [z]
  | y :: l => if ltB z y then z :: y :: l else y :: ins z l
def srt (l : List M3) : List M3 := l.foldr ins []
theorem mem_ins {z x : M3} : ∀ {l : List M3}, x ∈ ins z l ↔ x = z ∨ x ∈ l
  | [] => by simp [ins]
  | y :: l => by
    unfold ins
    split
    · simp
    · rw [List.mem_cons, mem_ins, List.mem_cons]
      constructor
      · rintro (h | h | h)
        · exact .inr (.inl h)
        · exact .inl h
        · exact .inr (.inr h)
      · rintro (h | h | h)
        · exact .inr (.inl h)
        · exact .inl h
        · exact .inr (.inr h)
theorem mem_srt {x : M3} : ∀ {l : List M3}, x ∈ srt l ↔ x ∈ l
  | [] => by simp [srt]
  | y :: l => by
    have : srt (y :: l) = ins y (srt l) := rfl
    rw [this, mem_ins, mem_srt, List.mem_cons]
theorem ins_pw {z : M3} : ∀ {l : List M3}, l.Pairwise lt3 → z ∉ l → (ins z l).Pairwise lt3
  | [], _, _ => by simp [ins]
  | y :: l, h, hz => by
    unfold ins
    split
    · rename_i hlt
      rw [ltB_iff] at hlt
      refine List.pairwise_cons.2 ⟨fun x hx => ?_, h⟩
      rcases List.mem_cons.1 hx with rfl | hx
      · exact hlt
      · exact lt3_trans hlt ((List.pairwise_cons.1 h).1 x hx)
    · rename_i hlt
      rw [ltB_iff] at hlt
      refine List.pairwise_cons.2 ⟨fun x hx => ?_, ins_pw (List.pairwise_cons.1 h).2 (fun hm => hz (List.mem_cons_of_mem _ hm))⟩
      rcases mem_ins.1 hx with rfl | hx
      · have hne : x ≠ y := fun e => hz (by rw [e]; exact List.mem_cons_self ..)
        obtain ⟨f, a, p⟩ := x
        obtain ⟨f', a', p'⟩ := y
        simp only [ne_eq, M3.mk.injEq, not_and] at hne
        unfold lt3 at hlt ⊢
        simp only at hlt ⊢
        omega
      · exact (List.pairwise_cons.1 h).1 x hx
theorem srt_pw : ∀ {l : List M3}, l.Nodup → (srt l).Pairwise lt3
  | [], _ => by simp [srt]
  | y :: l, h => by
    rw [List.nodup_cons] at h
    exact ins_pw (srt_pw h.2) (fun hm => h.1 (mem_srt.1 hm))

/-- the meetings at two posts -/
def twoP (ap : Int) (nA : Nat) (Z : Nat → Int) (i : Nat) (fr tt : Int) : List M3 :=
  ((List.range nA).flatMap fun a => [⟨ap * ((i : Int) + 1) + Z a, (a : Int), (i : Int)⟩, ⟨ap * ((i : Int) + 2) + Z a, (a : Int), (i : Int) + 1⟩]).filter fun z => decide (fr < z.f) && decide (z.f ≤ tt)

theorem twoP_nodup (ap : Int) (nA : Nat) (Z : Nat → Int) (i : Nat) (fr tt : Int) : (twoP ap nA Z i fr tt).Nodup := by
  unfold twoP
  refine List.Nodup.sublist List.filter_sublist ?_
  unfold List.Nodup
  rw [List.pairwise_flatMap]
  refine ⟨fun a _ => ?_, ?_⟩
  · refine List.pairwise_cons.2 ⟨fun x hx => ?_, List.pairwise_singleton _ _⟩
    simp only [List.mem_singleton] at hx
    subst hx
    simp only [ne_eq, M3.mk.injEq, not_and]
    omega
  · refine List.Pairwise.imp ?_ List.nodup_range
    intro a b hab x hx y hy
    simp only [List.mem_cons, List.not_mem_nil, or_false] at hx hy
    rcases hx with rfl | rfl <;> rcases hy with rfl | rfl <;> (simp only [ne_eq, M3.mk.injEq, not_and]; omega)

theorem mem_twoP {ap : Int} {nA nP : Nat} {Z : Nat → Int} {i : Nat} {fr tt : Int} (hi : i + 1 < nP) (z : M3) : z ∈ twoP ap nA Z i fr tt ↔ InR nA nP (lnP ap) Z fr tt z ∧ (z.p = (i : Int) ∨ z.p = (i : Int) + 1) := by
  unfold twoP InR
  simp only [List.mem_filter, List.mem_flatMap, List.mem_range, List.mem_cons, List.not_mem_nil, or_false, Bool.and_eq_true, decide_eq_true_eq]
  constructor
  · rintro ⟨⟨a, ha, rfl | rfl⟩, h1, h2⟩
    · exact ⟨⟨a, ha, i, by omega, by simp [item, lnP], h1, h2⟩, .inl rfl⟩
    · refine ⟨⟨a, ha, i + 1, hi, ?_, h1, h2⟩, .inr rfl⟩
      simp only [item, lnP, if_true, M3.mk.injEq]
      refine ⟨?_, trivial, by omega⟩
      rw [show (((i + 1 : Nat) : Int)) + 1 = (i : Int) + 2 by omega]
  · rintro ⟨⟨a, ha, j, hj, rfl, h1, h2⟩, hp⟩
    refine ⟨⟨a, ha, ?_⟩, h1, h2⟩
    simp only [item, lnP, if_true] at hp ⊢
    rcases hp with hp | hp
    · left
      obtain rfl : j = i := by omega
      rfl
    · right
      obtain rfl : j = i + 1 := by omega
      simp only [M3.mk.injEq]
      refine ⟨?_, trivial, by omega⟩
      rw [show (((i + 1 : Nat) : Int)) + 1 = (i : Int) + 2 by omega]

/-- what of a passing touches a section -/
theorem pas_tch {ap : Int} {nA nP : Nat} {Z : Nat → Int} {fr tt : Int} {E : List M3} (h1 : E.Pairwise lt3) (h2 : ∀ z, z ∈ E ↔ InR nA nP (lnP ap) Z fr tt z) (i : Nat) (hi : i + 1 < nP) :
    (E.map evT).filter (tch i) = (srt (twoP ap nA Z i fr tt)).map evT := by
  have e1 : (E.map evT).filter (tch i) = (E.filter (fun z => decide (z.p = (i : Int)) || decide (z.p = (i : Int) + 1))).map evT := by
    rw [List.filter_map]
    congr 1
  rw [e1]
  congr 1
  refine sorted_unique (List.Pairwise.sublist List.filter_sublist h1) (srt_pw (twoP_nodup ..)) (fun z => ?_)
  rw [mem_srt, mem_twoP hi, List.mem_filter, h2]
  simp

end Go.Proofs.Ytlpopfhaephfaaa.Ps

namespace Go.Proofs.Ytlpopfhaephfaaa.Ps
open Go.RowKit

theorem flat_all : ∀ (k : Nat) (L : List M3), L.length = k → flat L = trC (L.map fun z => (z.f, z.a, z.p))
  | 0, L, h => by
    have : L = [] := List.length_eq_zero_iff.1 h
    subst this
    rfl
  | k + 1, L, h => by
    rcases List.eq_nil_or_concat L with rfl | ⟨L', z, rfl⟩
    · simp at h
    · rw [List.concat_eq_append] at h ⊢
      rw [flat_snoc, flat_all k L' (by simpa using h), List.map_append, List.map_cons, List.map_nil, trC_snoc]

theorem flat_ln (ap : Int) (E : List M3) (h : ∀ z ∈ E, 0 ≤ z.p) : flat (E.map (evM (lnP ap))) = trC (E.map evT) := by
  rw [flat_all _ _ rfl, List.map_map]
  congr 1
  refine List.map_congr_left fun z hz => ?_
  have := h z hz
  simp only [Function.comp, evM, evT, lnP]
  simp only [Nat.one_ne_zero, if_false, if_true, show ¬ (2 = 0) by omega, show ¬ (2 = 1) by omega]
  rw [Int.toNat_of_nonneg this]

theorem ln_posts {n : Nat} {ap : Int} (h2 : n ≤ 8) (a1 : 1 ≤ ap) (a2 : ap ≤ 1000) : PostsV (n + 1) (n + 1) (lnP ap) := by
  refine ⟨by omega, fun i hi => ⟨⟨?_, ?_⟩, ⟨?_, ?_⟩, ?_⟩⟩
  · unfold prevZ lnP
    split
    · exact Int.mul_nonneg (by omega) (by omega)
    · simp only [if_true]
      exact Int.mul_le_mul_of_nonneg_left (by omega) (by omega)
  · show lnP ap i 0 ≤ 1000000
    unfold lnP
    simp only [if_true]
    have : ap * ((i : Int) + 1) ≤ 1000 * 9 := Int.mul_le_mul a2 (by omega) (by omega) (by omega)
    omega
  · simp [lnP]
  · simp [lnP]; omega
  · simp [lnP]

theorem inR_p {ap : Int} {nA nP : Nat} {Z : Nat → Int} {fr tt : Int} {z : M3} (h : InR nA nP (lnP ap) Z fr tt z) : 0 ≤ z.p ∧ z.p < (nP : Int) := by
  obtain ⟨k, _, i, hi, rfl, _⟩ := h
  unfold item
  simp only
  omega

theorem passing_ln (n : Nat) (ap : Int) (g gp ga nA : Nat) (Z : Nat → Int) (fr tt : Int) (w : World) (h1 : 1 ≤ n) (h2 : n ≤ 8) (a1 : 1 ≤ ap) (a2 : ap ≤ 1000) (hL : CRow w g (n + 1) lnF (lnT n)) (hP : PRow w gp (n + 1) (lnP ap)) (hA : ARow w ga nA Z) (hAx : AxlesV nA Z) (f1 : 0 ≤ fr) (f2 : fr ≤ tt) (f3 : tt ≤ 1000000) :
    Calls Try.prog 22 #[.agg #[.int .i64 (n : Int), .slice (gA g) (n + 1) (gC g)], .slice (gA gp) (n + 1) (gC gp), .slice (gA ga) nA (gC ga), .int .i64 fr, .int .i64 tt] w fun e w' => ∃ (v : Value) (E : List M3), e = .returned v ∧ (E.Pairwise lt3 ∧ ∀ z, z ∈ E ↔ InR nA (n + 1) (lnP ap) Z fr tt z) ∧ E.length ≤ nA * (n + 1) ∧ w'.ownsRow w.heap.size 45 3 v (E.map evT).length (trC (E.map evT)) ∧ Below w.heap.size w w' := by
  refine (implPassing_good (n : Int) g (n + 1) gp (n + 1) ga nA lnF (lnT n) (lnP ap) Z fr tt w hL hP hA ⟨ln_ok h1 (by omega), ln_posts h2 a1 a2, hAx, by omega⟩ (by omega)).mono ?_
  rintro e w' ⟨v, E, rfl, hE, hl, own, hb⟩
  refine ⟨v, E, rfl, hE, hl, ?_, hb⟩
  rw [flat_ln ap E (fun z hz => (inR_p ((hE.2 z).1 hz)).1)] at own
  simpa using own

/-- numbers of the call's own, as axles -/
def inC (l : List Int) : List Value := l.map (.int .i64)
theorem ARow.of_own {w : World} {base n : Nat} {v : Value} {l : List Int} (h : w.ownsRow base 3 1 v n (inC l)) (hn : l.length = n) : ∃ g, v = .slice (gA g) n (gC g) ∧ ARow w g n (fun i => l.getD i 0) := by
  subst hn
  have hs := ow_slf (G := fun i _ => .int .i64 (l.getD i 0)) h (fun i hi j hj => by
    obtain rfl : j = 0 := by omega
    simp only [Nat.mul_one, Nat.add_zero]
    unfold inC
    rw [List.getElem?_map, List.getElem?_eq_getElem hi, List.getD_eq_getElem?_getD, List.getElem?_eq_getElem hi]
    rfl)
  obtain ⟨ao, c, rfl, h0 | ⟨b, m, f, rfl, _, _, h2, h3, h4⟩⟩ := hs
  · rcases ao with _ | ⟨b, off, sp⟩
    · obtain ⟨g, e1, e2⟩ := gA_none c
      exact ⟨g, by rw [e1, e2], .inl h0⟩
    · rcases h.2 with ⟨e, _⟩ | ⟨g', cap, cur, e, _⟩
      · cases e
      · simp only [Value.slice.injEq] at e
        obtain ⟨e, _, rfl⟩ := e
        obtain ⟨g, e1, e2⟩ := gA_some g' c
        exact ⟨g, by rw [e, e1, e2], .inl h0⟩
  · obtain ⟨g, e1, e2⟩ := gA_some b c
    refine ⟨g, by rw [e1, e2], .inr ⟨b, m, f, e1, by omega, h3, fun i hi => ?_⟩⟩
    have := h4 i hi 0 (by omega)
    simpa using this

theorem slf_grown {w w' : World} {e sz lo hi n : Nat} {v : Value} {G : Nat → Nat → Value} {ob : Option Nat} (h : SlF w e sz lo hi v n G) (hg : w.grownBy w' ob) (hne : ∀ b, ob = some b → b < lo ∨ hi ≤ b) : SlF w' e sz lo hi v n G := by
  refine h.of_block fun g m f h1 h2 h3 => hg.block g h1.lt fun e => ?_
  rcases hne g e.symm with h | h <;> omega

/-- one event more on a list of one's own -/
theorem tr_one (a b c : Int) : ∀ u ∈ [Value.int .i64 a, .int .i64 b, .int .i64 c], u.oneCell' = true := fun u hu => by
  simp only [List.mem_cons, List.not_mem_nil, or_false] at hu
  rcases hu with rfl | rfl | rfl <;> rfl

theorem own_block_lt {w : World} {base e sz n : Nat} {v : Value} {xs : List Value} (h : w.ownsRow base e sz v n xs) : ∀ b, v.ownBlock = some b → base ≤ b ∧ b < w.heap.size := by
  intro b hb
  rcases h.2 with ⟨rfl, _⟩ | ⟨g, cap, cur, rfl, h1, h2, _⟩
  · simp [Value.ownBlock] at hb
  · simp only [Value.ownBlock, Option.some.injEq] at hb
    subst hb
    exact ⟨h1, (Array.getElem?_eq_some_iff.1 h2).1⟩

end Go.Proofs.Ytlpopfhaephfaaa.Ps

namespace Go.Proofs.Ytlpopfhaephfaaa.Ps
open Go.RowKit

theorem Try.infoMc : (Try.prog.info? 51).map (fun i => (i.zero, i.size, i.bytes)) = some (some (.agg #[.int .i64 0, .int .i64 0]), 2, 16) := by kernel_rfl
theorem Try.infoMp : (Try.prog.info? 103).map (fun i => (i.zero, i.size, i.bytes)) = some (some (.agg #[.int .i64 0, .int .i64 0, .int .i64 0]), 3, 24) := by kernel_rfl

/-- the first k counters and posts of a line -/
def cLn (n k : Nat) : List (Int × Int) := (List.range k).map fun i => (lnF i, lnT n i)
def pLn (ap : Int) (k : Nat) : List (Int × Int × Int) := (List.range k).map fun (i : Nat) => (ap * ((i : Int) + 1), (i : Int), 1)
theorem cLn_len (n k : Nat) : (cLn n k).length = k := by simp [cLn]
theorem pLn_len (ap : Int) (k : Nat) : (pLn ap k).length = k := by simp [pLn]
theorem cLn_succ (n k : Nat) : cLn n (k + 1) = cLn n k ++ [((k : Int) - 1, lnT n k)] := by simp [cLn, List.range_succ, lnF]
theorem pLn_succ (ap : Int) (k : Nat) : pLn ap (k + 1) = pLn ap k ++ [(ap * ((k : Int) + 1), (k : Int), 1)] := by simp [pLn, List.range_succ]
theorem cLn_fst {n k i : Nat} (h : i < k) : fstF (cLn n k) i = lnF i ∧ sndF (cLn n k) i = lnT n i := by
  unfold fstF sndF cLn
  rw [List.getD_eq_getElem?_getD, List.getElem?_map, List.getElem?_range h]
  exact ⟨rfl, rfl⟩
theorem pLn_at {ap : Int} {k i : Nat} (h : i < k) (j : Nat) : trP (pLn ap k) i j = lnP ap i j := by
  unfold trP pLn lnP
  rw [List.getD_eq_getElem?_getD, List.getElem?_map, List.getElem?_range h]
  rfl

theorem PRow.of_own {w : World} {base n : Nat} {v : Value} {L : List (Int × Int × Int)} (h : w.ownsRow base 103 3 v n (trC L)) (hn : L.length = n) : ∃ g, v = .slice (gA g) n (gC g) ∧ PRow w g n (trP L) := by
  subst hn
  obtain ⟨ao, c, rfl, h0 | ⟨b, m, f, rfl, _, _, h2, h3, h4⟩⟩ := ow_slf (G := fun i j => .int .i64 (trP L i j)) h (fun i hi j hj => trC_get L i j hi hj)
  · rcases ao with _ | ⟨b, off, sp⟩
    · obtain ⟨g, e1, e2⟩ := gA_none c
      exact ⟨g, by rw [e1, e2], .inl h0⟩
    · rcases h.2 with ⟨e, _⟩ | ⟨g', cap, cur, e, _⟩
      · cases e
      · simp only [Value.slice.injEq] at e
        obtain ⟨e, _, rfl⟩ := e
        obtain ⟨g, e1, e2⟩ := gA_some g' c
        exact ⟨g, by rw [e, e1, e2], .inl h0⟩
  · obtain ⟨g, e1, e2⟩ := gA_some b c
    exact ⟨g, by rw [e1, e2], .inr ⟨b, m, f, e1, h2, h3, h4⟩⟩

/-- what stands ahead of a round -/
structure MlI (w wr : World) (q : Nat) (n : Nat) (ap : Int) (u u7 : Value) (k : Nat) : Prop where
  lay : Box2 wr q 25 (.int .i64 (n : Int)) u
  own : wr.ownsRow (q + 1) 51 2 u k (prC (cLn n k))
  res : Box2 wr w.heap.size 25 (.int .i64 0) (.slice none 0 0)
  pst : wr.ownsRow (q + 1) 103 3 u7 k (trC (pLn ap k))
  bel : Below w.heap.size w wr
  rq : w.heap.size < q

set_option maxRecDepth 100000 in
set_option maxHeartbeats 4000000 in
theorem madeLine_any (n : Nat) (ap : Int) (w : World) (h1 : 1 ≤ n) (h2 : n ≤ 8) (h3 : 0 ≤ ap) (h4 : ap ≤ 1000) :
    Calls Try.prog 21 #[.int .i64 (n : Int), .int .i64 ap] w fun e w' => ∃ g gp, e = .returned (.tuple #[.agg #[.int .i64 (n : Int), .slice (gA g) (n + 1) (gC g)], .slice (gA gp) (n + 1) (gC gp)]) ∧ CRow w' g (n + 1) lnF (lnT n) ∧ PRow w' gp (n + 1) (lnP ap) ∧ Below w.heap.size w w' := by
  obtain ⟨i0, hi, hz0, hz1, hz2⟩ := info_parts Try.infoMc
  obtain ⟨j0, gi, gz0, gz1, gz2⟩ := info_parts Try.infoMp
  have I0 : MlI w ((w.alloc (.cells #[.int .i64 0, .slice none 0 0] 25)).alloc (.cells #[.int .i64 (n : Int), .slice none 0 0] 25)) (w.heap.size + 1) n ap (.slice none 0 0) (.slice none 0 0) 0 := by
    refine ⟨?_, World.ownsRow_nil _ _ _ _, (Box2.lay w _ _ _).alloc _, World.ownsRow_nil _ _ _ _, (by repeat (first | exact Below.refl _ _ | assumption | refine below_alloc ?_ _ | refine Below.setCell ?_ (by first | omega | (simp; done) | (simp; omega)) _ | refine Below.alloc ?_ (by first | omega | (simp; done) | (simp; omega)) _ | refine Below.drew ?_)), by omega⟩
    have := Box2.lay (w.alloc (.cells #[.int .i64 0, .slice none 0 0] 25)) (.int .i64 (n : Int)) (.slice none 0 0) 25
    rwa [World.size_alloc] at this
  obtain ⟨q, eq⟩ : ∃ q, w.heap.size + 1 = q := ⟨_, rfl⟩
  rw [eq] at I0
  have EQ : Hid _ := eq
  clear eq
  go_enter Try.func21, Try.ntmps21
  go_wp2
  rw [EQ.out]
  go_loopw [7, 8] (fun u7 i wr => ∃ (k : Nat) (u : Value), k ≤ n + 1 ∧ i = .int .i64 k ∧ MlI w wr q n ap u u7 k) (fun _ i _ => n + 1 - (intOf i).toNat)
  case atStart => exact ⟨0, _, Nat.zero_le _, rfl, I0⟩
  case round =>
    clear I0 EQ
    obtain ⟨k, u, hk, rfl, I⟩ := hrel
    obtain ⟨b0, b1⟩ := I.lay.cells
    have lq := I.lay.lt
    have hrq := I.rq
    by_cases hlt : k ≤ n
    · have hi1 : (k : Int) ≤ (n : Int) := by omega
      obtain ⟨t, et, ht⟩ : ∃ t : Int, lnT n k = t ∧ (t = -1 ∧ k = n ∨ t = (k : Int) ∧ ¬ k = n) := by
        unfold lnT
        split
        · exact ⟨_, rfl, .inl ⟨rfl, by assumption⟩⟩
        · exact ⟨_, rfl, .inr ⟨rfl, by assumption⟩⟩
      have eC := cLn_succ n k
      rw [et] at eC
      have eP := pLn_succ ap k
      have EC : Hid _ := eC
      have EP : Hid _ := eP
      have bX : Below wr.heap.size wr ((wr.alloc (.cells #[.int .i64 ((k : Int) - 1), .int .i64 t] 51)).alloc (.cells #[.int .i64 ((k : Int) - 1), .int .i64 t] 51)) := (by repeat (first | exact Below.refl _ _ | assumption | refine below_alloc ?_ _ | refine Below.setCell ?_ (by first | omega | (simp; done) | (simp; omega)) _ | refine Below.alloc ?_ (by first | omega | (simp; done) | (simp; omega)) _ | refine Below.drew ?_))
      have ownU := ow_on I.own bX
      have pstU := ow_on I.pst bX
      have layU := I.lay.on bX
      have resU := I.res.on bX
      have belU := below_on I.bel bX
      have hnw := nw_cells2 (wr.alloc (.cells #[.int .i64 ((k : Int) - 1), .int .i64 t] 51)) (.int .i64 ((k : Int) - 1)) (.int .i64 t) 51
      rw [World.size_alloc] at hnw
      have h1c : ∀ x ∈ [Value.int .i64 ((k : Int) - 1), .int .i64 t], x.oneCell' = true := fun x hx => by
        simp only [List.mem_cons, List.not_mem_nil, or_false] at hx
        rcases hx with rfl | rfl <;> rfl
      have kq := fun w6 (hh : Nat) (tg : Turned ((wr.alloc (.cells #[.int .i64 ((k : Int) - 1), .int .i64 t] 51)).alloc (.cells #[.int .i64 ((k : Int) - 1), .int .i64 t] 51)) w6 (· = 51) (q + 1) hh) => layU.turned tg (.inl (by decide))
      have hbq : q + 1 ≤ ((wr.alloc (.cells #[.int .i64 ((k : Int) - 1), .int .i64 t] 51)).alloc (.cells #[.int .i64 ((k : Int) - 1), .int .i64 t] 51)).heap.size := by rw [World.size_alloc, World.size_alloc]; omega
      have PU : Hid _ := pstU
      have RU : Hid _ := resU
      have BU : Hid _ := belU
      have LU : Hid _ := layU
      have m1 : 0 ≤ ap * ((k : Int) + 1) ∧ ap * ((k : Int) + 1) ≤ 9000 := by
        have a1 : 0 ≤ ap * ((k : Int) + 1) := Int.mul_nonneg h3 (by omega)
        have a2 : ap * ((k : Int) + 1) ≤ 1000 * 9 := Int.mul_le_mul h4 (by omega) (by omega) (by omega)
        exact ⟨a1, by omega⟩
      obtain ⟨m1, m2⟩ := m1
      clear I bX pstU resU belU eC eP layU
      rcases ht with ⟨rfl, hkn⟩ | ⟨rfl, hkn⟩
      · subst hkn
        go_upto_region 10 with (first
          | (at_builtin; refine wpList_append_own _ rfl _ _ 23 rfl (q + 1) 51 i0 _ 2 16 Try.underlying23 hi hz0 hz1 hz2 rfl (by decide) _ _ _ rfl ownU ⟨wr.heap.size + 1, 0, none⟩ 1 1 [.int .i64 ((k : Int) - 1), .int .i64 (-1)] rfl rfl hnw h1c (by unfold maxLen; omega) (by omega) hbq ?_; intro v' w6 hown' hgrow hnil; obtain ⟨g6, cap6, rfl⟩ := ow_some hown' (by omega); have tg := ow_grown ownU hgrow; obtain ⟨n0, n1⟩ := (kq _ _ tg).cells; obtain ⟨m0', m1'⟩ := (kq _ _ tg).frozen))
        obtain ⟨v', ev'⟩ : ∃ v', Value.slice (some ⟨g6, 0, none⟩) (k + 1) cap6 = v' := ⟨_, rfl⟩
        rw [ev'] at hown' ⊢
        have s6 := tg.size
        rw [World.size_alloc, World.size_alloc] at s6
        have p6 : w6.ownsRow (q + 1) 103 3 u7 k (trC (pLn ap k)) := ow_turned PU.out tg (by decide)
        have l6 := (kq _ _ tg).set1 v'
        have r6 : Box2 (w6.setCell ⟨q, 1, none⟩ v') w.heap.size 25 _ _ := (Box2.turned RU.out tg (.inl (by decide))).set_other (show q ≠ w.heap.size by omega) v'
        have o6 : (w6.setCell ⟨q, 1, none⟩ v').ownsRow (q + 1) 51 2 v' (k + 1) (prC (cLn k k) ++ [.int .i64 ((k : Int) - 1), .int .i64 (-1)]) := ow_set hown' (show q < q + 1 by omega) v'
        have p6' := ow_set (a := ⟨q, 1, none⟩) p6 (show q < q + 1 by omega) v'
        have b6 : Below w.heap.size w (w6.setCell ⟨q, 1, none⟩ v') := (Below.trans BU.out (tg.below (show w.heap.size ≤ q + 1 by omega) (Below.size BU.out))).setCell (show w.heap.size ≤ q by omega) v'
        obtain ⟨Y, eY⟩ : ∃ Y, w6.setCell ⟨q, 1, none⟩ v' = Y := ⟨_, rfl⟩
        have sY : Y.heap.size = w6.heap.size := by rw [← eY]; simp [World.setCell]
        rw [eY] at l6 r6 o6 p6' b6 ⊢
        clear eY n0 n1 m0' m1' p6 hgrow hown' tg hnil b0 b1 kq ownU hnw h1c
        have bP : Below Y.heap.size Y (Y.alloc (.cells #[.int .i64 (ap * ((k : Int) + 1)), .int .i64 (k : Int), .int .i64 1] 103)) := (by repeat (first | exact Below.refl _ _ | assumption | refine below_alloc ?_ _ | refine Below.setCell ?_ (by first | omega | (simp; done) | (simp; omega)) _ | refine Below.alloc ?_ (by first | omega | (simp; done) | (simp; omega)) _ | refine Below.drew ?_))
        have pU := ow_on p6' bP
        have hnp := nw_cells3 Y (.int .i64 (ap * ((k : Int) + 1))) (.int .i64 (k : Int)) (.int .i64 1) 103
        have hpc : ∀ x ∈ [Value.int .i64 (ap * ((k : Int) + 1)), .int .i64 (k : Int), .int .i64 1], x.oneCell' = true := fun x hx => by
          simp only [List.mem_cons, List.not_mem_nil, or_false] at hx
          rcases hx with rfl | rfl | rfl <;> rfl
        have hbp : q + 1 ≤ (Y.alloc (.cells #[.int .i64 (ap * ((k : Int) + 1)), .int .i64 (k : Int), .int .i64 1] 103)).heap.size := by rw [World.size_alloc]; omega
        have L7 : Hid _ := l6.on bP
        have R7 : Hid _ := r6.on bP
        have O7 : Hid _ := ow_on o6 bP
        have B7 : Hid _ := below_on b6 bP
        clear l6 r6 o6 b6 p6' bP sY s6
        go_wp2_with (first
          | (at_builtin; refine wpList_append_own _ rfl _ _ 53 rfl (q + 1) 103 j0 _ 3 24 Try.underlying53 gi gz0 gz1 gz2 rfl (by decide) _ _ _ rfl pU ⟨Y.heap.size, 0, none⟩ 1 1 [.int .i64 (ap * ((k : Int) + 1)), .int .i64 (k : Int), .int .i64 1] rfl rfl hnp hpc (by unfold maxLen; omega) (by omega) hbp ?_; intro v7 w7 hown7 hgrow7 hnil7; obtain ⟨g7, cap7, rfl⟩ := ow_some hown7 (by omega); have tp := ow_grown pU hgrow7))
        go_roundw
        case rel => exact ⟨k + 1, v', by omega, by go_num, ⟨Box2.turned L7.out tp (.inl (by decide)), by rw [EC.out, prC_snoc]; exact ow_turned O7.out tp (by decide), Box2.turned R7.out tp (.inl (by decide)), by rw [EP.out, trC_snoc]; exact hown7, Below.trans B7.out (tp.below (show w.heap.size ≤ q + 1 by omega) (Below.size B7.out)), hrq⟩⟩
        case measure => simp [intOf] <;> omega
      · have hkn' : ¬ (k : Int) = (n : Int) := by omega
        go_upto_region 10 with (first
          | (at_builtin; refine wpList_append_own _ rfl _ _ 23 rfl (q + 1) 51 i0 _ 2 16 Try.underlying23 hi hz0 hz1 hz2 rfl (by decide) _ _ _ rfl ownU ⟨wr.heap.size + 1, 0, none⟩ 1 1 [.int .i64 ((k : Int) - 1), .int .i64 (k : Int)] rfl rfl hnw h1c (by unfold maxLen; omega) (by omega) hbq ?_; intro v' w6 hown' hgrow hnil; obtain ⟨g6, cap6, rfl⟩ := ow_some hown' (by omega); have tg := ow_grown ownU hgrow; obtain ⟨n0, n1⟩ := (kq _ _ tg).cells; obtain ⟨m0', m1'⟩ := (kq _ _ tg).frozen))
        obtain ⟨v', ev'⟩ : ∃ v', Value.slice (some ⟨g6, 0, none⟩) (k + 1) cap6 = v' := ⟨_, rfl⟩
        rw [ev'] at hown' ⊢
        have s6 := tg.size
        rw [World.size_alloc, World.size_alloc] at s6
        have p6 : w6.ownsRow (q + 1) 103 3 u7 k (trC (pLn ap k)) := ow_turned PU.out tg (by decide)
        have l6 := (kq _ _ tg).set1 v'
        have r6 : Box2 (w6.setCell ⟨q, 1, none⟩ v') w.heap.size 25 _ _ := (Box2.turned RU.out tg (.inl (by decide))).set_other (show q ≠ w.heap.size by omega) v'
        have o6 : (w6.setCell ⟨q, 1, none⟩ v').ownsRow (q + 1) 51 2 v' (k + 1) (prC (cLn n k) ++ [.int .i64 ((k : Int) - 1), .int .i64 (k : Int)]) := ow_set hown' (show q < q + 1 by omega) v'
        have p6' := ow_set (a := ⟨q, 1, none⟩) p6 (show q < q + 1 by omega) v'
        have b6 : Below w.heap.size w (w6.setCell ⟨q, 1, none⟩ v') := (Below.trans BU.out (tg.below (show w.heap.size ≤ q + 1 by omega) (Below.size BU.out))).setCell (show w.heap.size ≤ q by omega) v'
        obtain ⟨Y, eY⟩ : ∃ Y, w6.setCell ⟨q, 1, none⟩ v' = Y := ⟨_, rfl⟩
        have sY : Y.heap.size = w6.heap.size := by rw [← eY]; simp [World.setCell]
        rw [eY] at l6 r6 o6 p6' b6 ⊢
        clear eY n0 n1 m0' m1' p6 hgrow hown' tg hnil b0 b1 kq ownU hnw h1c
        have bP : Below Y.heap.size Y (Y.alloc (.cells #[.int .i64 (ap * ((k : Int) + 1)), .int .i64 (k : Int), .int .i64 1] 103)) := (by repeat (first | exact Below.refl _ _ | assumption | refine below_alloc ?_ _ | refine Below.setCell ?_ (by first | omega | (simp; done) | (simp; omega)) _ | refine Below.alloc ?_ (by first | omega | (simp; done) | (simp; omega)) _ | refine Below.drew ?_))
        have pU := ow_on p6' bP
        have hnp := nw_cells3 Y (.int .i64 (ap * ((k : Int) + 1))) (.int .i64 (k : Int)) (.int .i64 1) 103
        have hpc : ∀ x ∈ [Value.int .i64 (ap * ((k : Int) + 1)), .int .i64 (k : Int), .int .i64 1], x.oneCell' = true := fun x hx => by
          simp only [List.mem_cons, List.not_mem_nil, or_false] at hx
          rcases hx with rfl | rfl | rfl <;> rfl
        have hbp : q + 1 ≤ (Y.alloc (.cells #[.int .i64 (ap * ((k : Int) + 1)), .int .i64 (k : Int), .int .i64 1] 103)).heap.size := by rw [World.size_alloc]; omega
        have L7 : Hid _ := l6.on bP
        have R7 : Hid _ := r6.on bP
        have O7 : Hid _ := ow_on o6 bP
        have B7 : Hid _ := below_on b6 bP
        clear l6 r6 o6 b6 p6' bP sY s6
        go_wp2_with (first
          | (at_builtin; refine wpList_append_own _ rfl _ _ 53 rfl (q + 1) 103 j0 _ 3 24 Try.underlying53 gi gz0 gz1 gz2 rfl (by decide) _ _ _ rfl pU ⟨Y.heap.size, 0, none⟩ 1 1 [.int .i64 (ap * ((k : Int) + 1)), .int .i64 (k : Int), .int .i64 1] rfl rfl hnp hpc (by unfold maxLen; omega) (by omega) hbp ?_; intro v7 w7 hown7 hgrow7 hnil7; obtain ⟨g7, cap7, rfl⟩ := ow_some hown7 (by omega); have tp := ow_grown pU hgrow7))
        go_roundw
        case rel => exact ⟨k + 1, v', by omega, by go_num, ⟨Box2.turned L7.out tp (.inl (by decide)), by rw [EC.out, prC_snoc]; exact ow_turned O7.out tp (by decide), Box2.turned R7.out tp (.inl (by decide)), by rw [EP.out, trC_snoc]; exact hown7, Below.trans B7.out (tp.below (show w.heap.size ≤ q + 1 by omega) (Below.size B7.out)), hrq⟩⟩
        case measure => simp [intOf] <;> omega
    · have hkS : k = n + 1 := by omega
      subst hkS
      have hi1 : ¬ ((n + 1 : Nat) : Int) ≤ (n : Int) := by omega
      have own := I.own
      have hl := cLn_len n (n + 1)
      obtain ⟨L, eL⟩ : ∃ L, cLn n (n + 1) = L := ⟨_, rfl⟩
      rw [eL] at own hl
      rw [← hl] at own
      obtain ⟨g, rfl, hC⟩ := CRow.of_own own
      obtain ⟨gp, rfl, hP⟩ := PRow.of_own I.pst (pLn_len ap (n + 1))
      rw [hl] at hC b1
      have hC' : CRow wr g (n + 1) lnF (lnT n) := by
        rcases hC with hC | ⟨b, m, f, c1, c2, c3, c4⟩
        · exact .inl hC
        · refine .inr ⟨b, m, f, c1, c2, c3, fun i hi j hj => (c4 i hi j hj).trans ?_⟩
          unfold two
          rw [← eL, (cLn_fst hi).1, (cLn_fst hi).2]
      have hP' : PRow wr gp (n + 1) (lnP ap) := by
        rcases hP with hP | ⟨b, m, f, c1, c2, c3, c4⟩
        · exact .inl hP
        · exact .inr ⟨b, m, f, c1, c2, c3, fun i hi j hj => (c4 i hi j hj).trans (by rw [pLn_at hi])⟩
      obtain ⟨r0, r1⟩ := I.res.cells
      obtain ⟨r2, r3⟩ := I.res.frozen
      have lr := I.res.lt
      have hne : ¬ w.heap.size = q := by omega
      have hne' : ¬ q = w.heap.size := by omega
      have fin : Below w.heap.size w ((wr.setCell ⟨w.heap.size, 0, none⟩ (.int .i64 (n : Int))).setCell ⟨w.heap.size, 1, none⟩ (.slice (gA g) (n + 1) (gC g))) := (I.bel.setCell (show w.heap.size ≤ (⟨w.heap.size, 0, none⟩ : Addr).block from Nat.le_refl _) _).setCell (show w.heap.size ≤ (⟨w.heap.size, 1, none⟩ : Addr).block from Nat.le_refl _) _
      have ts := Turned.of_set2 I.res (.int .i64 (n : Int)) (.slice (gA g) (n + 1) (gC g))
      have hCf := hC'.turned ts (by decide)
      have hPf : PRow ((wr.setCell ⟨w.heap.size, 0, none⟩ (.int .i64 (n : Int))).setCell ⟨w.heap.size, 1, none⟩ (.slice (gA g) (n + 1) (gC g))) gp (n + 1) (lnP ap) := by
        rcases hP' with hP | ⟨b, m, f, c1, c2, c3, c4⟩
        · exact .inl hP
        · exact .inr ⟨b, m, f, c1, c2, c3.turned ts (.inl (by decide)), c4⟩
      have CF : Hid _ := hCf
      have PF : Hid _ := hPf
      have FI : Hid _ := fin
      clear I hC hC' hP hP' hCf hPf fin ts own
      go_wp2
      exact bodyPost_ret (v := .tuple #[.agg #[.int .i64 (n : Int), .slice (gA g) (n + 1) (gC g)], .slice (gA gp) (n + 1) (gC gp)]) (by simp [results, Try.results21, go_sem, r0, r1]) rfl ⟨g, gp, rfl, CF.out, PF.out, FI.out⟩

end Go.Proofs.Ytlpopfhaephfaaa.Ps

namespace Go.Proofs.Ytlpopfhaephfaaa.Ps
open Go.RowKit

def z3 (a : Nat) : Int := 3 * (a : Int)
def z9 (a : Nat) : Int := if a = 0 then 0 else if a = 1 then 9 else 12

/-- what touches section i: the train till 120, from there on, and the second train -/
def q1 (nA i : Nat) : List (Int × Int × Int) := (srt (twoP 50 nA z3 i 0 120)).map evT
def q2 (nA i : Nat) : List (Int × Int × Int) := (srt (twoP 50 nA z3 i 120 1000)).map evT
def q3 (i : Nat) : List (Int × Int × Int) := (srt (twoP 50 3 z9 i 0 1000)).map evT

/-- the section, where counter c of its two died and lives again -/
def bro (nA i : Nat) (c : Int) : S1 := (q1 nA i ++ [(3, c, 0)] ++ q2 nA i ++ [(4, c, 0)]).foldl (stp i) s10
def rst (nA i : Nat) (c : Int) : S1 := stp i (bro nA i c) (5, (i : Int), 0)
def swOk (nA i : Nat) (c : Int) : Bool :=
  decide (((q3 i).foldl (stp i) (bro nA i c)).x.told = 1) && !(bro nA i c).dl && !(bro nA i c).dr &&
  (if (bro nA i c).x.last = 1 then decide (((q3 i).foldl (stp i) (rst nA i c)).x.told = 1) else decide ((rst nA i c).x.told = 2) && decide (((q3 i).foldl (stp i) (rst nA i c)).x.told = 0))
def swAll (nA i : Nat) : Bool := !decide (((q1 nA i ++ q2 nA i ++ q3 i).foldl (stp i) s10).x.told = 1) && swOk nA i (i : Int) && swOk nA i ((i : Int) + 1)

set_option maxRecDepth 100000 in
theorem sw_all : ((List.range 6).all fun i => (List.range 30).all fun a => swAll (a + 1) i) = true := by decide +kernel

theorem sw_at {nA i : Nat} (h1 : 1 ≤ nA) (h2 : nA ≤ 30) (hi : i < 6) : swAll nA i = true := by
  have h := sw_all
  rw [List.all_eq_true] at h
  have h3 := h i (List.mem_range.2 hi)
  rw [List.all_eq_true] at h3
  have h4 := h3 (nA - 1) (List.mem_range.2 (by omega))
  rwa [show nA - 1 + 1 = nA by omega] at h4

end Go.Proofs.Ytlpopfhaephfaaa.Ps

namespace Go.Proofs.Ytlpopfhaephfaaa.Ps
open Go.RowKit

/-- the events of the law -/
structure SwL (n k a : Nat) (L1 L2 L3 Lb Lr LL LG : List (Int × Int × Int)) : Prop where
  n1 : 2 ≤ n
  n2 : n ≤ 6
  k1 : 1 ≤ k
  k2 : k < n
  a1 : 1 ≤ a
  a2 : a ≤ 30
  e1 : ∀ e ∈ L1, lnE n e
  e2 : ∀ e ∈ L2, lnE n e
  e3 : ∀ e ∈ L3, lnE n e
  t1 : ∀ i, i < n → L1.filter (tch i) = q1 a i
  t2 : ∀ i, i < n → L2.filter (tch i) = q2 a i
  t3 : ∀ i, i < n → L3.filter (tch i) = q3 i
  eb : L1 ++ [(3, (k : Int), 0)] ++ L2 ++ [(4, (k : Int), 0)] = Lb
  er : Lb ++ [(5, (k : Int) - 1, 0), (5, (k : Int), 0)] = Lr
  el : Lb ++ L3 = LL
  eg : Lr ++ L3 = LG

section
variable {n k a : Nat} {L1 L2 L3 Lb Lr LL LG : List (Int × Int × Int)}

theorem SwL.eB (h : SwL n k a L1 L2 L3 Lb Lr LL LG) : ∀ e ∈ Lb, lnE n e := by
  have := h.k2
  rw [← h.eb]
  intro e he
  simp only [List.mem_append, List.mem_singleton] at he
  rcases he with ((he | rfl) | he) | rfl
  · exact h.e1 e he
  · exact .inr (.inl ⟨.inl rfl, by show (0 : Int) ≤ (k : Int); omega, by show (k : Int) ≤ (n : Int); omega, rfl⟩)
  · exact h.e2 e he
  · exact .inr (.inl ⟨.inr rfl, by show (0 : Int) ≤ (k : Int); omega, by show (k : Int) ≤ (n : Int); omega, rfl⟩)
theorem SwL.eL (h : SwL n k a L1 L2 L3 Lb Lr LL LG) : ∀ e ∈ LL, lnE n e := by
  rw [← h.el]
  intro e he
  rcases List.mem_append.1 he with he | he
  · exact h.eB e he
  · exact h.e3 e he
theorem SwL.eG (h : SwL n k a L1 L2 L3 Lb Lr LL LG) : ∀ e ∈ LG, lnE n e := by
  have k1 := h.k1
  have k2 := h.k2
  rw [← h.eg, ← h.er]
  intro e he
  simp only [List.mem_append, List.mem_cons, List.not_mem_nil, or_false] at he
  rcases he with (he | rfl | rfl) | he
  · exact h.eB e he
  · exact .inr (.inr ⟨rfl, by show (0 : Int) ≤ (k : Int) - 1; omega, by show (k : Int) - 1 < (n : Int); omega, rfl⟩)
  · exact .inr (.inr ⟨rfl, by show (0 : Int) ≤ (k : Int); omega, by show (k : Int) < (n : Int); omega, rfl⟩)
  · exact h.e3 e he

/-- the section i behind the broken train: mode by the counter's side -/
theorem SwL.bB (h : SwL n k a L1 L2 L3 Lb Lr LL LG) {i : Nat} (hi : i < n) (hk : i = k ∨ i + 1 = k) (s : S1) (hs : s = s10) : Lb.foldl (stp i) s = bro a i (k : Int) := by
  subst hs
  rw [fold_tch, ← h.eb]
  have c3 : tch i (3, (k : Int), 0) = true := by unfold tch; simp; omega
  have c4 : tch i (4, (k : Int), 0) = true := by unfold tch; simp; omega
  simp only [List.filter_append, h.t1 i hi, h.t2 i hi, List.filter_cons, c3, c4, if_true, List.filter_nil]
  rfl
theorem SwL.bN (h : SwL n k a L1 L2 L3 Lb Lr LL LG) {i : Nat} (hi : i < n) (hk : ¬ (i = k ∨ i + 1 = k)) : Lb.foldl (stp i) s10 = (q1 a i ++ q2 a i).foldl (stp i) s10 := by
  rw [fold_tch, ← h.eb]
  have c3 : tch i (3, (k : Int), 0) = false := by unfold tch; simp; omega
  have c4 : tch i (4, (k : Int), 0) = false := by unfold tch; simp; omega
  simp only [List.filter_append, h.t1 i hi, h.t2 i hi, List.filter_cons, c3, c4, List.filter_nil, List.append_nil, Bool.false_eq_true, if_false]

theorem SwL.sec (h : SwL n k a L1 L2 L3 Lb Lr LL LG) (L : List (Int × Int × Int)) (hL : ∀ e ∈ L, lnE n e) {i K : Nat} (hi : i < n) (hK : K ≤ L.length) : runX (n : Int) (n + 1) lnF (lnT n) (trP L) K i = ((L.take K).foldl (stp i) s10).x ∧ deadB (n + 1) lnF (lnT n) (runD (n : Int) (n + 1) lnF (lnT n) (trP L) K) (i : Int) = (((L.take K).foldl (stp i) s10).dl || ((L.take K).foldl (stp i) s10).dr) := by
  have := ln_run (n := n) (by have := h.n1; omega) (by have := h.n2; omega) L hL i hi K hK
  rw [← this]
  exact ⟨rfl, ln_dead _ hi⟩

/-- of the run without the resets: which sections are told occupied -/
theorem SwL.left (h : SwL n k a L1 L2 L3 Lb Lr LL LG) {i : Nat} (hi : i < n) : (runX (n : Int) (n + 1) lnF (lnT n) (trP LL) LL.length i).told = 1 ↔ (i = k ∨ i + 1 = k) := by
  have a1 := sw_at h.a1 h.a2 (i := i) (by have := h.n2; omega)
  rw [(h.sec LL h.eL hi (Nat.le_refl _)).1, List.take_length, ← h.el, List.foldl_append]
  unfold swAll swOk at a1
  simp only [Bool.and_eq_true, Bool.not_eq_true', decide_eq_true_eq, decide_eq_false_iff_not] at a1
  by_cases hk : i = k ∨ i + 1 = k
  · rw [h.bB hi hk s10 rfl, fold_tch, h.t3 i hi]
    refine ⟨fun _ => hk, fun _ => ?_⟩
    rcases hk with rfl | rfl
    · exact a1.1.2.1.1.1
    · have := a1.2.1.1.1
      rwa [show (i : Int) + 1 = ((i + 1 : Nat) : Int) by omega] at this
  · rw [h.bN hi hk, fold_tch, h.t3 i hi, ← List.foldl_append]
    exact ⟨fun e => absurd e a1.1.1, fun e => absurd e hk⟩

theorem SwL.take0 (h : SwL n k a L1 L2 L3 Lb Lr LL LG) : LG.take Lb.length = Lb ∧ LG.take (Lb.length + 1) = Lb ++ [(5, (k : Int) - 1, 0)] ∧ LG.take (Lb.length + 1 + 1) = Lr ∧ Lb.length + 1 + 1 ≤ LG.length := by
  rw [← h.eg, ← h.er]
  refine ⟨?_, ?_, ?_, by simp only [List.length_append, List.length_cons, List.length_nil]; omega⟩
  · simp
  · rw [List.append_assoc, List.take_append, List.take_of_length_le (by omega), show Lb.length + 1 - Lb.length = 1 by omega]
    rfl
  · rw [List.append_assoc, List.take_append, List.take_of_length_le (by omega), show Lb.length + 1 + 1 - Lb.length = 2 by omega]
    rfl

/-- what becomes of the two sections: told by what the first code is -/
def swP (c : Int) (mid fin : Int) : Prop := (c = 0 ∧ mid = 2 ∧ fin = 0) ∨ (c = 4 ∧ fin = 1)

theorem SwL.two (h : SwL n k a L1 L2 L3 Lb Lr LL LG) {i : Nat} (hi : i < n) (hk : i = k ∨ i + 1 = k) :
    swP (if (bro a i (k : Int)).x.last = 1 then 4 else 0) (runX (n : Int) (n + 1) lnF (lnT n) (trP LG) (Lb.length + 1 + 1) i).told (runX (n : Int) (n + 1) lnF (lnT n) (trP LG) LG.length i).told ∧ (bro a i (k : Int)).dl = false ∧ (bro a i (k : Int)).dr = false := by
  have a1 := sw_at h.a1 h.a2 (i := i) (by have := h.n2; omega)
  obtain ⟨_, _, t2, t3⟩ := h.take0
  have hr : Lr.foldl (stp i) s10 = rst a i (k : Int) := by
    rw [← h.er, List.foldl_append, h.bB hi hk s10 rfl]
    unfold rst
    rcases hk with rfl | rfl
    · have n1 : stp i (bro a i (i : Int)) (5, (i : Int) - 1, 0) = bro a i (i : Int) := by
        unfold stp
        rw [if_pos (by unfold tch; simp; omega)]
      rw [List.foldl_cons, n1]
      rfl
    · have e : (((i + 1 : Nat) : Int)) - 1 = (i : Int) := by omega
      rw [e, List.foldl_cons, List.foldl_cons, List.foldl_nil]
      have n1 : ∀ s, stp i s (5, ((i + 1 : Nat) : Int), 0) = s := fun s => by
        unfold stp
        rw [if_pos (by unfold tch; simp; omega)]
      rw [n1]
  rw [(h.sec LG h.eG hi t3).1, (h.sec LG h.eG hi (Nat.le_refl _)).1, t2, List.take_length, hr]
  have hg : LG.foldl (stp i) s10 = (q3 i).foldl (stp i) (rst a i (k : Int)) := by
    rw [← h.eg, List.foldl_append, hr, fold_tch, h.t3 i hi]
  rw [hg]
  unfold swAll swOk at a1
  simp only [Bool.and_eq_true, Bool.not_eq_true', decide_eq_true_eq, decide_eq_false_iff_not] at a1
  have key : ((bro a i (k : Int)).dl = false ∧ (bro a i (k : Int)).dr = false) ∧ ((if (bro a i (k : Int)).x.last = 1 then decide (((q3 i).foldl (stp i) (rst a i (k : Int))).x.told = 1) else decide ((rst a i (k : Int)).x.told = 2) && decide (((q3 i).foldl (stp i) (rst a i (k : Int))).x.told = 0)) = true) := by
    rcases hk with rfl | rfl
    · exact ⟨⟨a1.1.2.1.1.2, a1.1.2.1.2⟩, a1.1.2.2⟩
    · have := a1.2
      rw [show (i : Int) + 1 = ((i + 1 : Nat) : Int) by omega] at this
      exact ⟨⟨this.1.1.2, this.1.2⟩, this.2⟩
  refine ⟨?_, key.1⟩
  have k2 := key.2
  unfold swP
  split at k2
  · rename_i hl
    rw [if_pos hl]
    exact .inr ⟨rfl, of_decide_eq_true k2⟩
  · rename_i hl
    rw [if_neg hl]
    simp only [Bool.and_eq_true, decide_eq_true_eq] at k2
    exact .inl ⟨rfl, k2.1, k2.2⟩

theorem SwL.code (h : SwL n k a L1 L2 L3 Lb Lr LL LG) : runC (n : Int) (n + 1) lnF (lnT n) (trP LG) Lb.length = (if (bro a (k - 1) (k : Int)).x.last = 1 then 4 else 0) ∧ runC (n : Int) (n + 1) lnF (lnT n) (trP LG) (Lb.length + 1) = (if (bro a k (k : Int)).x.last = 1 then 4 else 0) := by
  have k1 := h.k1
  have k2 := h.k2
  obtain ⟨t0, t1, t2, t3⟩ := h.take0
  have hL : LG = Lb ++ [(5, (k : Int) - 1, 0), (5, (k : Int), 0)] ++ L3 := by rw [h.er, h.eg]
  have p0 : ∀ j, trP LG Lb.length j = (if j = 0 then 5 else if j = 1 then (k : Int) - 1 else 0) := fun j => by unfold trP; rw [hL]; simp [List.getD]
  have p1 : ∀ j, trP LG (Lb.length + 1) j = (if j = 0 then 5 else if j = 1 then (k : Int) else 0) := fun j => by unfold trP; rw [hL]; simp [List.getD]
  obtain ⟨_, d1, d2⟩ := h.two (i := k - 1) (by omega) (.inr (by omega))
  obtain ⟨_, d3, d4⟩ := h.two (i := k) k2 (.inl rfl)
  have s0 := h.sec LG h.eG (i := k - 1) (K := Lb.length) (by omega) (by omega)
  have s1 := h.sec LG h.eG (i := k) (K := Lb.length + 1) k2 (by omega)
  rw [t0, h.bB (i := k - 1) (by omega) (.inr (by omega)) s10 rfl, d1, d2] at s0
  have n1 : stp k (bro a k (k : Int)) (5, (k : Int) - 1, 0) = bro a k (k : Int) := by
    unfold stp
    rw [if_pos (by unfold tch; simp; omega)]
  rw [t1, List.foldl_append, h.bB (i := k) k2 (.inl rfl) s10 rfl, List.foldl_cons, List.foldl_nil, n1, d3, d4] at s1
  constructor
  · unfold runC bhC
    rw [p0 0, p0 1, p0 2]
    simp only [if_true, Nat.one_ne_zero, if_false, show ¬ (2 = 0) by omega, show ¬ (2 = 1) by omega]
    have ev : evB (n : Int) (n + 1) 5 ((k : Int) - 1) 0 = true := lnE_ev (e := (5, (k : Int) - 1, 0)) (.inr (.inr ⟨rfl, by show (0 : Int) ≤ (k : Int) - 1; omega, by show (k : Int) - 1 < (n : Int); omega, rfl⟩))
    rw [ev]
    simp only [if_true]
    unfold effC rstC
    have e : ((k : Int) - 1).toNat = k - 1 := by omega
    rw [if_neg (by omega), if_pos rfl, e, s0.2, s0.1]
    rfl
  · unfold runC bhC
    rw [p1 0, p1 1, p1 2]
    simp only [if_true, Nat.one_ne_zero, if_false, show ¬ (2 = 0) by omega, show ¬ (2 = 1) by omega]
    have ev : evB (n : Int) (n + 1) 5 (k : Int) 0 = true := lnE_ev (e := (5, (k : Int), 0)) (.inr (.inr ⟨rfl, by show (0 : Int) ≤ (k : Int); omega, by show (k : Int) < (n : Int); omega, rfl⟩))
    rw [ev]
    simp only [if_true]
    unfold effC rstC
    rw [if_neg (by omega), if_pos rfl, Int.toNat_natCast, s1.2, s1.1]
    rfl

end

end Go.Proofs.Ytlpopfhaephfaaa.Ps
