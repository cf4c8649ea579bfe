import Derived.Test.YtlpopfhaephfaaaDoorQP
import Derived.Test.YtlpopfhaephfaaaDoorFS0
import Derived.Test.YtlpopfhaephfaaaDoorOW
import Derived.Test.YtlpopfhaephfaaaDoorQR
import Derived.Test.YtlpopfhaephfaaaDoorQT
import Derived.Test.YtlpopfhaephfaaaDoorCU2
import Derived.Test.YtlpopfhaephfaaaDoorRE1
import Derived.BigQuiet
import Derived.Lib.QuietBelow
import Derived.Deep.RegionWith
import Derived.Deep.QuietTactic
import Derived.Test.YtlpopfhaephfaaaDoorCR
import Derived.Test.YtlpopfhaephfaaaDoorRN4
import Derived.Test.YtlpopfhaephfaaaDoorRN2
import Derived.Test.YtlpopfhaephfaaaDoorCU1
import Derived.Test.YtlpopfhaephfaaaDoorRows
import Derived.ChangeSlices
import Derived.ProofKit
import Derived.Lib.SmallJoins
import Derived.Deep.SlicePairs
import Derived.Test.YtlpopfhaephfaaaDoorCards
import Derived.Test.YtlpopfhaephfaaaDoorTie
import Derived.ChangeSame
import Derived.ChangeVars
import Derived.JoinedOf
import Derived.RowKitTokens
import Derived.LaidLaws
import Derived.LaidHandle
import Derived.Stop.LaidErr
import Derived.Stop.LaidTwo
import Derived.Stop.Joined
import Derived.SevenTiedAt
import Derived.WalkSmall
namespace Go.Proofs.YtlpopfhaephfaaaDoor.Ps
open Go.RowKit

/-- a row of n sections, with a counter at each end and between each two; the posts of a way through all -/
def lnF (i : Nat) : Int := (i : Int) - 1
def lnT (n i : Nat) : Int := if i = n then -1 else (i : Int)
def lnP (ap : Int) (i j : Nat) : Int := if j = 0 then ap * ((i : Int) + 1) else if j = 1 then (i : Int) else 1

theorem ln_ok {n : Nat} (h1 : 1 ≤ n) (h2 : n ≤ 60) : lokZ (n : Int) (n + 1) lnF (lnT n) = 0 := by
  refine lokZ_zero (by omega) (fun i hi => ?_)
  unfold lnF lnT
  split
  · exact bad_not _ _ _ (by omega) (by omega) (by omega) (by omega) (by omega)
  · exact bad_not _ _ _ (by omega) (by omega) (by omega) (by omega) (by omega)

theorem ln_dead {n i : Nat} (D : Nat → Bool) (hi : i < n) : deadB (n + 1) lnF (lnT n) D (i : Int) = (D i || D (i + 1)) := by
  have key : ∀ c, c < n + 1 → ((lnF c = (i : Int) ∨ lnT n c = (i : Int)) ↔ (c = i + 1 ∨ c = i)) := by
    intro c hc
    unfold lnF lnT
    split <;> omega
  cases h : (D i || D (i + 1))
  · simp only [Bool.or_eq_false_iff] at h
    unfold deadB
    rw [List.any_eq_false]
    intro z hz
    obtain ⟨m, hm, rfl, hs⟩ := zs_side hz
    rcases (key m hm).1 hs with rfl | rfl
    · simp [h.2]
    · simp [h.1]
  · rw [Bool.or_eq_true] at h
    rcases h with h | h
    · exact dead_of (show i < n + 1 by omega) h ((key i (by omega)).2 (.inr rfl))
    · exact dead_of (show i + 1 < n + 1 by omega) h ((key (i + 1) (by omega)).2 (.inl rfl))
  where
  dead_of {n : Nat} {F T : Nat → Int} {D : Nat → Bool} {f : Nat} {s : Int} (hf : f < n) (hd : D f = true) (hs : F f = s ∨ T f = s) : deadB n F T D s = true := by
    unfold deadB
    refine List.any_eq_true.2 ⟨(f : Int), ?_, by simpa using hd⟩
    unfold zsAt
    simp only [List.mem_map, List.mem_filter, List.mem_range]
    exact ⟨f, ⟨hf, by simpa using hs⟩, rfl⟩

/-- whether an event touches a section -/
def tch (i : Nat) (e : Int × Int × Int) : Bool := if e.1 = 5 then decide (e.2.1 = (i : Int)) else decide (e.2.1 = (i : Int)) || decide (e.2.1 = (i : Int) + 1)

/-- one section alone: how it stands, and whether the counters at its two sides are dead -/
structure S1 where
  x : Sec
  dl : Bool
  dr : Bool
def s10 : S1 := ⟨sec0, false, false⟩

def tls (dl dr : Bool) (x : Sec) : S1 := ⟨tlS (dl || dr) x, dl, dr⟩
def stp (i : Nat) (s : S1) (e : Int × Int × Int) : S1 :=
  if tch i e = false then s
  else if e.1 = 1 then tls s.dl s.dr (if e.2.1 = (i : Int) then (if s.dl then s.x else cnt s.x 1) else if s.dr then s.x else cnt s.x (-1))
  else if e.1 = 3 then tls (if e.2.1 = (i : Int) then true else s.dl) (if e.2.1 = (i : Int) then s.dr else true) ⟨s.x.told, s.x.count, true, s.x.sweep, s.x.last⟩
  else if e.1 = 4 then tls (if e.2.1 = (i : Int) then false else s.dl) (if e.2.1 = (i : Int) then s.dr else false) s.x
  else tls s.dl s.dr (if s.dl || s.dr then s.x else if s.x.last = 1 then s.x else ⟨0, 0, false, true, 0⟩)

/-- the events that a line knows here -/
def lnE (n : Nat) (e : Int × Int × Int) : Prop := (e.1 = 1 ∧ 0 ≤ e.2.1 ∧ e.2.1 ≤ (n : Int) ∧ e.2.2 = 1) ∨ ((e.1 = 3 ∨ e.1 = 4) ∧ 0 ≤ e.2.1 ∧ e.2.1 ≤ (n : Int) ∧ e.2.2 = 0) ∨ (e.1 = 5 ∧ 0 ≤ e.2.1 ∧ e.2.1 < (n : Int) ∧ e.2.2 = 0)

theorem lnE_ev {n : Nat} {e : Int × Int × Int} (h : lnE n e) : evB (n : Int) (n + 1) e.1 e.2.1 e.2.2 = true := by
  obtain ⟨op, f, d⟩ := e
  unfold lnE at h
  unfold evB
  simp only at h ⊢
  rcases h with ⟨rfl, a, b, c⟩ | ⟨h, a, b, c⟩ | ⟨rfl, a, b, c⟩
  · rw [if_pos (.inl rfl)]; exact decide_eq_true ⟨a, by omega, .inl c⟩
  · rw [if_neg (by omega), if_pos h]; exact decide_eq_true ⟨a, by omega, c⟩
  · rw [if_neg (by omega), if_neg (by omega), if_pos rfl]; exact decide_eq_true ⟨a, by omega, c⟩

theorem sec_told {S : Int} {n ns i : Nat} {F T : Nat → Int} {X : Nat → Sec} {D : Nat → Bool} (h : stOk S n F T true ns n X D = true) (hi : i < ns) : X i = tlS (deadB n F T D (i : Int)) (X i) := by
  obtain ⟨_, _, _, _, hsec⟩ := stOk_parts h
  have h1 := hsec i hi
  unfold secOk at h1
  simp only [Bool.and_eq_true, beq_iff_eq] at h1
  unfold tlS
  rw [← h1.1.2]

theorem stp_ok {n i : Nat} {X : Nat → Sec} {D : Nat → Bool} {e : Int × Int × Int} (hn : i < n) (he : lnE n e) (h : stOk (n : Int) (n + 1) lnF (lnT n) true n (n + 1) X D = true) :
    (⟨nxtX (n : Int) (n + 1) lnF (lnT n) X D e.1 e.2.1 e.2.2 i, bhD (n : Int) (n + 1) D e.1 e.2.1 e.2.2 i, bhD (n : Int) (n + 1) D e.1 e.2.1 e.2.2 (i + 1)⟩ : S1) = stp i ⟨X i, D i, D (i + 1)⟩ e := by
  have hev := lnE_ev he
  have htold := sec_told h hn
  rw [ln_dead D hn] at htold
  obtain ⟨op, f, d⟩ := e
  unfold lnE at he
  simp only at he hev ⊢
  have nx : nxtX (n : Int) (n + 1) lnF (lnT n) X D op f d i = tlS (bhD (n : Int) (n + 1) D op f d i || bhD (n : Int) (n + 1) D op f d (i + 1)) (effX (n + 1) lnF (lnT n) X D op f d i) := by
    unfold nxtX told1
    rw [ln_dead _ hn]
    unfold bhX
    rw [hev]
    rfl
  have bd : bhD (n : Int) (n + 1) D op f d = effD D op f := by unfold bhD; rw [hev]; rfl
  rw [bd] at nx ⊢
  rw [nx]
  unfold stp tch
  simp only
  rcases he with ⟨rfl, a, b, rfl⟩ | ⟨h34, a, b, rfl⟩ | ⟨rfl, a, b, rfl⟩
  · obtain ⟨c, rfl⟩ : ∃ c : Nat, f = (c : Int) := ⟨f.toNat, by omega⟩
    have e1 : effD D 1 (c : Int) = D := by simp [effD]
    have e2 : effX (n + 1) lnF (lnT n) X D 1 (c : Int) 1 i = if D c then X i else pwS (lnF c) (lnT n c) i (X i) := by
      have : effX (n + 1) lnF (lnT n) X D 1 (c : Int) 1 = passY lnF (lnT n) X D c 1 true := by simp [effX]
      rw [this]
      unfold passY
      split
      · rfl
      · unfold passX pwS
        rw [cntSide_at]
        simp only [if_true]
        rw [cntSide_at]
        rfl
    rw [e1, e2]
    simp only [show ¬ ((1 : Int) = 5) by omega, if_false, if_true]
    by_cases c1 : c = i
    · subst c1
      have t1 : lnT n c = (c : Int) := by unfold lnT; rw [if_neg (by omega)]
      have f1 : ¬ lnF c = (c : Int) := by unfold lnF; omega
      unfold pwS
      rw [if_pos t1, if_neg f1]
      simp [tls]
    · by_cases c2 : c = i + 1
      · subst c2
        have t1 : ¬ lnT n (i + 1) = (i : Int) := by unfold lnT; split <;> omega
        have f1 : lnF (i + 1) = (i : Int) := by unfold lnF; omega
        unfold pwS
        rw [if_neg t1, if_pos f1]
        have c3 : ¬ (((i + 1 : Nat) : Int)) = (i : Int) := by omega
        have c4 : (((i + 1 : Nat) : Int)) = (i : Int) + 1 := by omega
        simp only [c4, decide_true, decide_false, Bool.false_or, Bool.true_eq_false, if_false, tls, show ¬ ((i : Int) + 1 = (i : Int)) by omega]
      · have t1 : ¬ lnT n c = (i : Int) := by unfold lnT; split <;> omega
        have f1 : ¬ lnF c = (i : Int) := by unfold lnF; omega
        rw [pw_off _ f1 t1]
        have c3 : ¬ (c : Int) = (i : Int) := by omega
        have c4 : ¬ (c : Int) = (i : Int) + 1 := by omega
        simp only [c3, c4, decide_false, Bool.or_false, if_true]
        rw [show (if D c = true then X i else X i) = X i by split <;> rfl, ← htold]
  · obtain ⟨c, rfl⟩ : ∃ c : Nat, f = (c : Int) := ⟨f.toNat, by omega⟩
    rcases h34 with rfl | rfl
    · have e1 : effD D 3 (c : Int) = setB D c true := by simp [effD]
      have e2 : effX (n + 1) lnF (lnT n) X D 3 (c : Int) 0 = lostSide (lostSide X (lnF c)) (lnT n c) := by simp [effX]
      rw [e1, e2]
      simp only [show ¬ ((3 : Int) = 5) by omega, show ¬ ((3 : Int) = 1) by omega, if_false, if_true]
      unfold setB
      by_cases c1 : c = i
      · subst c1
        have t1 : lnT n c = (c : Int) := by unfold lnT; rw [if_neg (by omega)]
        have f1 : lnF c ≠ (c : Int) := by unfold lnF; omega
        rw [t1, lost_same, lost_other f1]
        simp [tls]
      · by_cases c2 : c = i + 1
        · subst c2
          have t1 : lnT n (i + 1) ≠ (i : Int) := by unfold lnT; split <;> omega
          have f1 : lnF (i + 1) = (i : Int) := by unfold lnF; omega
          rw [lost_other t1, f1, lost_same]
          have c3 : ¬ (((i + 1 : Nat) : Int)) = (i : Int) := by omega
          have c4 : (((i + 1 : Nat) : Int)) = (i : Int) + 1 := by omega
          simp only [c4, decide_true, decide_false, Bool.false_or, Bool.true_eq_false, if_false, if_true, tls, show ¬ ((i : Int) + 1 = (i : Int)) by omega, show ¬ (i = i + 1) by omega]
        · have t1 : lnT n c ≠ (i : Int) := by unfold lnT; split <;> omega
          have f1 : lnF c ≠ (i : Int) := by unfold lnF; omega
          rw [lost_other t1, lost_other f1]
          have c3 : ¬ (c : Int) = (i : Int) := by omega
          have c4 : ¬ (c : Int) = (i : Int) + 1 := by omega
          have c5 : ¬ i = c := by omega
          have c6 : ¬ i + 1 = c := by omega
          simp only [c3, c4, c5, c6, decide_false, Bool.or_false, if_true, if_false]
          rw [← htold]
    · have e1 : effD D 4 (c : Int) = setB D c false := by simp [effD]
      have e2 : effX (n + 1) lnF (lnT n) X D 4 (c : Int) 0 = X := by simp [effX]
      rw [e1, e2]
      simp only [show ¬ ((4 : Int) = 5) by omega, show ¬ ((4 : Int) = 1) by omega, show ¬ ((4 : Int) = 3) by omega, if_false, if_true]
      unfold setB
      by_cases c1 : c = i
      · subst c1
        simp [tls]
      · by_cases c2 : c = i + 1
        · subst c2
          have c4 : (((i + 1 : Nat) : Int)) = (i : Int) + 1 := by omega
          simp only [c4, decide_true, decide_false, Bool.false_or, Bool.true_eq_false, if_false, if_true, tls, show ¬ ((i : Int) + 1 = (i : Int)) by omega, show ¬ (i = i + 1) by omega]
        · have c3 : ¬ (c : Int) = (i : Int) := by omega
          have c4 : ¬ (c : Int) = (i : Int) + 1 := by omega
          have c5 : ¬ i = c := by omega
          have c6 : ¬ i + 1 = c := by omega
          simp only [c3, c4, c5, c6, decide_false, Bool.or_false, if_true, if_false]
          rw [← htold]
  · obtain ⟨c, rfl⟩ : ∃ c : Nat, f = (c : Int) := ⟨f.toNat, by omega⟩
    have hc : c < n := by omega
    have e1 : effD D 5 (c : Int) = D := by simp [effD]
    have e2 : effX (n + 1) lnF (lnT n) X D 5 (c : Int) 0 = rstY (n + 1) lnF (lnT n) X D c := by simp [effX]
    rw [e1, e2]
    simp only [show ¬ ((5 : Int) = 1) by omega, show ¬ ((5 : Int) = 3) by omega, show ¬ ((5 : Int) = 4) by omega, if_false, if_true]
    unfold rstY
    rw [ln_dead D hc]
    by_cases c1 : c = i
    · subst c1
      simp only [decide_true, Bool.true_eq_false, if_false]
      unfold tls
      simp only [S1.mk.injEq, and_self, and_true]
      congr 1
      split
      · rfl
      · split
        · rfl
        · unfold resetAt; rw [if_pos rfl]
    · have c3 : ¬ (c : Int) = (i : Int) := by omega
      simp only [c3, decide_false, if_true]
      have : (if (D c || D (c + 1)) = true then X else if (X c).last = 1 then X else resetAt X c) i = X i := by
        split
        · rfl
        · split
          · rfl
          · unfold resetAt; rw [if_neg (by omega)]
      rw [this, ← htold]

/-- a section of a line is told by the events that touch it -/
theorem ln_run {n : Nat} (h1 : 1 ≤ n) (h2 : n ≤ 60) (L : List (Int × Int × Int)) (hL : ∀ e ∈ L, lnE n e) (i : Nat) (hi : i < n) (k : Nat) (hk : k ≤ L.length) :
    (⟨runX (n : Int) (n + 1) lnF (lnT n) (trP L) k i, runD (n : Int) (n + 1) lnF (lnT n) (trP L) k i, runD (n : Int) (n + 1) lnF (lnT n) (trP L) k (i + 1)⟩ : S1) = (L.take k).foldl (stp i) s10 := by
  induction k with
  | zero => rfl
  | succ k ih =>
    have hk' : k < L.length := hk
    have e1 : L.take (k + 1) = L.take k ++ [L[k]] := by rw [List.take_add_one, List.getElem?_eq_getElem hk']; rfl
    have e2 : L.getD k (0, 0, 0) = L[k] := by rw [List.getD_eq_getElem?_getD, List.getElem?_eq_getElem hk']; rfl
    rw [e1, List.foldl_append, List.foldl_cons, List.foldl_nil, ← ih (by omega), runX_succ, runD_succ]
    have hp : ∀ j, trP L k j = (if j = 0 then L[k].1 else if j = 1 then L[k].2.1 else L[k].2.2) := fun j => by unfold trP; rw [e2]
    rw [hp 0, hp 1, hp 2]
    exact stp_ok hi (hL _ (List.getElem_mem hk')) (run_ok (ln_ok h1 h2) rfl k)

theorem fold_tch (i : Nat) (L : List (Int × Int × Int)) (s : S1) : L.foldl (stp i) s = (L.filter (tch i)).foldl (stp i) s := by
  induction L generalizing s with
  | nil => rfl
  | cons e L ih =>
    cases h : tch i e
    · have hs : stp i s e = s := by unfold stp; rw [if_pos h]
      rw [List.foldl_cons, hs, List.filter_cons_of_neg (by simp [h])]
      exact ih s
    · rw [List.foldl_cons, List.filter_cons_of_pos h, List.foldl_cons]
      exact ih _

theorem ln_all {n : Nat} (h1 : 1 ≤ n) (h2 : n ≤ 60) (L : List (Int × Int × Int)) (hL : ∀ e ∈ L, lnE n e) (i : Nat) (hi : i < n) :
    (⟨runX (n : Int) (n + 1) lnF (lnT n) (trP L) L.length i, runD (n : Int) (n + 1) lnF (lnT n) (trP L) L.length i, runD (n : Int) (n + 1) lnF (lnT n) (trP L) L.length (i + 1)⟩ : S1) = (L.filter (tch i)).foldl (stp i) s10 := by
  rw [ln_run h1 h2 L hL i hi L.length (Nat.le_refl _), List.take_length, fold_tch]

/-- meetings as events -/
def evT (z : M3) : Int × Int × Int := (1, z.p, 1)

/-- sorting, plainly -/
def ltB (x y : M3) : Bool := decide (x.f < y.f) || (decide (x.f = y.f) && (decide (x.a < y.a) || (decide (x.a = y.a) && decide (x.p < y.p))))
theorem ltB_iff {x y : M3} : ltB x y = true ↔ lt3 x y := by unfold ltB lt3; simp
def ins (z : M3) : List M3 → List M3
  | [] => [z]
  | y :: l => if ltB z y then z :: y :: l else y :: ins z l
def srt (l : List M3) : List M3 := l.foldr ins []
theorem mem_ins {z x : M3} : ∀ {l : List M3}, x ∈ ins z l ↔ x = z ∨ x ∈ l
  | [] => by simp [ins]
  | y :: l => by
    unfold ins
    split
    · simp
    · rw [List.mem_cons, mem_ins, List.mem_cons]
      constructor
      · rintro (h | h | h)
        · exact .inr (.inl h)
        · exact .inl h
        · exact .inr (.inr h)
      · rintro (h | h | h)
        · exact .inr (.inl h)
        · exact .inl h
        · exact .inr (.inr h)
theorem mem_srt {x : M3} : ∀ {l : List M3}, x ∈ srt l ↔ x ∈ l
  | [] => by simp [srt]
  | y :: l => by
    have : srt (y :: l) = ins y (srt l) := rfl
    rw [this, mem_ins, mem_srt, List.mem_cons]
theorem ins_pw {z : M3} : ∀ {l : List M3}, l.Pairwise lt3 → z ∉ l → (ins z l).Pairwise lt3
  | [], _, _ => by simp [ins]
  | y :: l, h, hz => by
    unfold ins
    split
    · rename_i hlt
      rw [ltB_iff] at hlt
      refine List.pairwise_cons.2 ⟨fun x hx => ?_, h⟩
      rcases List.mem_cons.1 hx with rfl | hx
      · exact hlt
      · exact lt3_trans hlt ((List.pairwise_cons.1 h).1 x hx)
    · rename_i hlt
      rw [ltB_iff] at hlt
      refine List.pairwise_cons.2 ⟨fun x hx => ?_, ins_pw (List.pairwise_cons.1 h).2 (fun hm => hz (List.mem_cons_of_mem _ hm))⟩
      rcases mem_ins.1 hx with rfl | hx
      · have hne : x ≠ y := fun e => hz (by rw [e]; exact List.mem_cons_self ..)
        obtain ⟨f, a, p⟩ := x
        obtain ⟨f', a', p'⟩ := y
        simp only [ne_eq, M3.mk.injEq, not_and] at hne
        unfold lt3 at hlt ⊢
        simp only at hlt ⊢
        omega
      · exact (List.pairwise_cons.1 h).1 x hx
theorem srt_pw : ∀ {l : List M3}, l.Nodup → (srt l).Pairwise lt3
  | [], _ => by simp [srt]
  | y :: l, h => by
    rw [List.nodup_cons] at h
    exact ins_pw (srt_pw h.2) (fun hm => h.1 (mem_srt.1 hm))

/-- the meetings at two posts -/
def twoP (ap : Int) (nA : Nat) (Z : Nat → Int) (i : Nat) (fr tt : Int) : List M3 :=
  ((List.range nA).flatMap fun a => [⟨ap * ((i : Int) + 1) + Z a, (a : Int), (i : Int)⟩, ⟨ap * ((i : Int) + 2) + Z a, (a : Int), (i : Int) + 1⟩]).filter fun z => decide (fr < z.f) && decide (z.f ≤ tt)

theorem twoP_nodup (ap : Int) (nA : Nat) (Z : Nat → Int) (i : Nat) (fr tt : Int) : (twoP ap nA Z i fr tt).Nodup := by
  unfold twoP
  refine List.Nodup.sublist List.filter_sublist ?_
  unfold List.Nodup
  rw [List.pairwise_flatMap]
  refine ⟨fun a _ => ?_, ?_⟩
  · refine List.pairwise_cons.2 ⟨fun x hx => ?_, List.pairwise_singleton _ _⟩
    simp only [List.mem_singleton] at hx
    subst hx
    simp only [ne_eq, M3.mk.injEq, not_and]
    omega
  · refine List.Pairwise.imp ?_ List.nodup_range
    intro a b hab x hx y hy
    simp only [List.mem_cons, List.not_mem_nil, or_false] at hx hy
    rcases hx with rfl | rfl <;> rcases hy with rfl | rfl <;> (simp only [ne_eq, M3.mk.injEq, not_and]; omega)

theorem mem_twoP {ap : Int} {nA nP : Nat} {Z : Nat → Int} {i : Nat} {fr tt : Int} (hi : i + 1 < nP) (z : M3) : z ∈ twoP ap nA Z i fr tt ↔ InR nA nP (lnP ap) Z fr tt z ∧ (z.p = (i : Int) ∨ z.p = (i : Int) + 1) := by
  unfold twoP InR
  simp only [List.mem_filter, List.mem_flatMap, List.mem_range, List.mem_cons, List.not_mem_nil, or_false, Bool.and_eq_true, decide_eq_true_eq]
  constructor
  · rintro ⟨⟨a, ha, rfl | rfl⟩, h1, h2⟩
    · exact ⟨⟨a, ha, i, by omega, by simp [item, lnP], h1, h2⟩, .inl rfl⟩
    · refine ⟨⟨a, ha, i + 1, hi, ?_, h1, h2⟩, .inr rfl⟩
      simp only [item, lnP, if_true, M3.mk.injEq]
      refine ⟨?_, trivial, by omega⟩
      rw [show (((i + 1 : Nat) : Int)) + 1 = (i : Int) + 2 by omega]
  · rintro ⟨⟨a, ha, j, hj, rfl, h1, h2⟩, hp⟩
    refine ⟨⟨a, ha, ?_⟩, h1, h2⟩
    simp only [item, lnP, if_true] at hp ⊢
    rcases hp with hp | hp
    · left
      obtain rfl : j = i := by omega
      rfl
    · right
      obtain rfl : j = i + 1 := by omega
      simp only [M3.mk.injEq]
      refine ⟨?_, trivial, by omega⟩
      rw [show (((i + 1 : Nat) : Int)) + 1 = (i : Int) + 2 by omega]

/-- what of a passing touches a section -/
theorem pas_tch {ap : Int} {nA nP : Nat} {Z : Nat → Int} {fr tt : Int} {E : List M3} (h1 : E.Pairwise lt3) (h2 : ∀ z, z ∈ E ↔ InR nA nP (lnP ap) Z fr tt z) (i : Nat) (hi : i + 1 < nP) :
    (E.map evT).filter (tch i) = (srt (twoP ap nA Z i fr tt)).map evT := by
  have e1 : (E.map evT).filter (tch i) = (E.filter (fun z => decide (z.p = (i : Int)) || decide (z.p = (i : Int) + 1))).map evT := by
    rw [List.filter_map]
    congr 1
  rw [e1]
  congr 1
  refine sorted_unique (List.Pairwise.sublist List.filter_sublist h1) (srt_pw (twoP_nodup ..)) (fun z => ?_)
  rw [mem_srt, mem_twoP hi, List.mem_filter, h2]
  simp

end Go.Proofs.YtlpopfhaephfaaaDoor.Ps

namespace Go.Proofs.YtlpopfhaephfaaaDoor
open Go.RowKit

theorem trZ_congr (S : Int) (n : Nat) (F T : Nat → Int) (P P' : Nat → Nat → Int) (k : Nat) (h : ∀ j, j < k → ∀ i, i < 3 → P j i = P' j i) : trZ S n F T P k = trZ S n F T P' k := by
  induction k with
  | zero => rfl
  | succ k ih =>
    simp only [trZ]
    rw [ih (fun j hj i hi => h j (by omega) i hi), h k (by omega) 0 (by omega), h k (by omega) 1 (by omega), h k (by omega) 2 (by omega)]
theorem trZ_left (S : Int) (n : Nat) (F T : Nat → Int) (l m : List (Int × Int × Int)) (k : Nat) (h : k ≤ l.length) : trZ S n F T (trP (l ++ m)) k = trZ S n F T (trP l) k :=
  trZ_congr _ _ _ _ _ _ _ (fun j hj i _ => trP_left l m j (by omega) i)
theorem trP_last (l : List (Int × Int × Int)) (x : Int × Int × Int) (j : Nat) : trP (l ++ [x]) l.length j = (if j = 0 then x.1 else if j = 1 then x.2.1 else x.2.2) := by
  unfold trP
  simp [List.getD]
theorem trZ_snoc (S : Int) (n : Nat) (F T : Nat → Int) (l : List (Int × Int × Int)) (x : Int × Int × Int) : trZ S n F T (trP (l ++ [x])) (l.length + 1) = stepZ S n F T (trZ S n F T (trP l) l.length) x.1 x.2.1 x.2.2 := by
  simp only [trZ]
  rw [trZ_left _ _ _ _ _ _ _ (Nat.le_refl _), trP_last, trP_last, trP_last]
  rfl

/-- nobody lies, and th says who is where -/
structure HonL (S : Int) (n : Nat) (F T : Nat → Int) (L : List (Int × Int × Int)) (th : Int → Int) : Prop where
  th : ∀ s : Nat, th (s : Int) = trZ S n F T (trP L) L.length s
  nn : ∀ k, k ≤ L.length → ∀ s : Nat, 0 ≤ trZ S n F T (trP L) k s
  rs : ∀ k, k < L.length → trP L k 0 = 5 → trZ S n F T (trP L) k (trP L k 1).toNat = 0

theorem HonL.nil (S : Int) (n : Nat) (F T : Nat → Int) : HonL S n F T [] (fun _ => 0) :=
  ⟨fun s => rfl, fun k hk s => by cases Nat.le_zero.1 hk; exact Int.le_refl _, fun k hk => absurd hk (Nat.not_lt_zero _)⟩

theorem stepZ_other (S : Int) (n : Nat) (F T Z : Nat → Int) (op f d : Int) (h : op ≠ 1) : stepZ S n F T Z op f d = Z := by
  unfold stepZ
  rw [if_neg (fun x => h x.2)]

section
variable {S : Int} {n : Nat} {F T : Nat → Int} {L : List (Int × Int × Int)} {th : Int → Int}

theorem HonL.snoc_rs (h : HonL S n F T L th) (x : Int × Int × Int) (hx : x.1 = 5 → trZ S n F T (trP L) L.length x.2.1.toNat = 0) : ∀ k, k < (L ++ [x]).length → trP (L ++ [x]) k 0 = 5 → trZ S n F T (trP (L ++ [x])) k (trP (L ++ [x]) k 1).toNat = 0 := by
  intro k hk h5
  rw [List.length_append, List.length_singleton] at hk
  rcases Nat.lt_or_ge k L.length with hlt | hge
  · rw [trP_left L [x] k hlt 0] at h5
    rw [trP_left L [x] k hlt 1, trZ_left _ _ _ _ _ _ _ (by omega)]
    exact h.rs k hlt h5
  · obtain rfl : k = L.length := by omega
    rw [trP_last] at h5 ⊢
    rw [trZ_left _ _ _ _ _ _ _ (Nat.le_refl _)]
    exact hx h5

theorem HonL.other (h : HonL S n F T L th) (x : Int × Int × Int) (h1 : x.1 ≠ 1) (h5 : x.1 = 5 → 0 ≤ x.2.1 ∧ th x.2.1 = 0) : HonL S n F T (L ++ [x]) th := by
  have e : trZ S n F T (trP (L ++ [x])) (L ++ [x]).length = trZ S n F T (trP L) L.length := by
    rw [List.length_append, List.length_singleton, trZ_snoc, stepZ_other _ _ _ _ _ _ _ _ h1]
  refine ⟨fun s => by rw [e]; exact h.th s, fun k hk s => ?_, h.snoc_rs x fun hx => ?_⟩
  · rw [List.length_append, List.length_singleton] at hk
    rcases Nat.lt_or_ge k (L.length + 1) with hlt | hge
    · rw [trZ_left _ _ _ _ _ _ _ (by omega)]
      exact h.nn k (by omega) s
    · obtain rfl : k = L.length + 1 := by omega
      rw [trZ_snoc, stepZ_other _ _ _ _ _ _ _ _ h1]
      exact h.nn _ (Nat.le_refl _) s
  · obtain ⟨a, b⟩ := h5 hx
    rw [← h.th, Int.toNat_of_nonneg a]
    exact b

theorem es_ft {k d : Int} (hd : d = 1 ∨ d = -1) : esFr F T k d = fromZ F T k.toNat d ∧ esTo F T k d = toZ F T k.toNat d := by
  unfold esFr esTo fromZ toZ
  rcases hd with rfl | rfl <;> simp

theorem ev1 {k d : Int} (h : evB S n 1 k d = true) : 0 ≤ k ∧ k < (n : Int) ∧ (d = 1 ∨ d = -1) := by
  unfold evB at h
  rw [if_pos (.inl rfl)] at h
  exact of_decide_eq_true h

theorem HonL.pass (h : HonL S n F T L th) (k d : Int) (hev : evB S n 1 k d = true) (hp : esFr F T k d < 0 ∨ 0 < th (esFr F T k d)) : HonL S n F T (L ++ [(1, k, d)]) (thSt th (esFr F T k d) (esTo F T k d)) := by
  obtain ⟨_, _, hd⟩ := ev1 hev
  obtain ⟨e1, e2⟩ := es_ft (F := F) (T := T) (k := k) hd
  rw [e1] at hp ⊢
  rw [e2]
  obtain ⟨fr, ef⟩ : ∃ fr, fromZ F T k.toNat d = fr := ⟨_, rfl⟩
  obtain ⟨tt, et⟩ : ∃ tt, toZ F T k.toNat d = tt := ⟨_, rfl⟩
  have e : ∀ s : Nat, trZ S n F T (trP (L ++ [(1, k, d)])) (L.length + 1) s = th (s : Int) - (if fr = (s : Int) then 1 else 0) + (if tt = (s : Int) then 1 else 0) := by
    intro s
    rw [trZ_snoc]
    unfold stepZ
    rw [if_pos ⟨hev, rfl⟩, h.th s, ef, et]
  rw [ef] at hp ⊢
  rw [et]
  have n0 : ∀ s : Nat, 0 ≤ th (s : Int) := fun s => by rw [h.th s]; exact h.nn _ (Nat.le_refl _) s
  refine ⟨fun s => ?_, fun j hj s => ?_, h.snoc_rs _ fun hx => by cases hx⟩
  · rw [List.length_append, List.length_singleton, e s]
    unfold thSt
    by_cases a : fr = (s : Int)
    · rw [if_pos ⟨a.symm, by omega⟩, if_pos a]
      by_cases b : tt = (s : Int)
      · rw [if_pos ⟨b.symm, by omega⟩, if_pos b]
      · rw [if_neg (by omega), if_neg b]
    · rw [if_neg (by omega), if_neg a]
      by_cases b : tt = (s : Int)
      · rw [if_pos ⟨b.symm, by omega⟩, if_pos b]; omega
      · rw [if_neg (by omega), if_neg b]; omega
  · rw [List.length_append, List.length_singleton] at hj
    rcases Nat.lt_or_ge j (L.length + 1) with hlt | hge
    · rw [trZ_left _ _ _ _ _ _ _ (by omega)]
      exact h.nn j (by omega) s
    · obtain rfl : j = L.length + 1 := by omega
      rw [e s]
      have := n0 s
      by_cases a : fr = (s : Int)
      · subst a
        rw [if_pos rfl]
        split <;> omega
      · rw [if_neg a]
        split <;> omega
end

/-- whatever holds of what is drawn honestly, event by event -/
theorem esRun_inv (C : Nat → Int) (m : Nat) {S : Int} {n : Nat} (F T : Nat → Int) (c : Cu) (hS : 1 ≤ S) (hn : 0 < n) (Q : List (Int × Int × Int) → (Int → Int) → Prop) (h0 : Q [] (fun _ => 0))
    (ho : ∀ L th x, Q L th → evB S n x.1 x.2.1 x.2.2 = true → x.1 ≠ 1 → (x.1 = 5 → 0 ≤ x.2.1 ∧ th x.2.1 = 0) → Q (L ++ [x]) th)
    (hp : ∀ L th k d, Q L th → evB S n 1 k d = true → (esFr F T k d < 0 ∨ 0 < th (esFr F T k d)) → Q (L ++ [(1, k, d)]) (thSt th (esFr F T k d) (esTo F T k d))) (j : Nat) :
    Q (esRun C m S n F T true c j).out (esRun C m S n F T true c j).th := by
  induction j with
  | zero => exact h0
  | succ j ih =>
    have ok := (esRun_ok C m F T true c hS hn (j + 1)).ev
    simp only [esRun] at ok ⊢
    obtain ⟨e, ee⟩ : ∃ e, esRun C m S n F T true c j = e := ⟨_, rfl⟩
    rw [ee] at ih ok ⊢
    clear ee
    unfold esStep at ok ⊢
    obtain ⟨K, eK⟩ : ∃ K, pkV C m e.cu n = K := ⟨_, rfl⟩
    obtain ⟨c, ec⟩ : ∃ c, pkC C m (pkC C m e.cu n) 16 = c := ⟨_, rfl⟩
    obtain ⟨t, et⟩ : ∃ t, pkV C m (pkC C m e.cu n) 16 = t := ⟨_, rfl⟩
    rw [eK, ec, et] at ok ⊢
    have last : ∀ (l : List (Int × Int × Int)) (x : Int × Int × Int), x ∈ l ++ [x] := fun l x => by simp
    unfold esAct at ok ⊢
    by_cases t0 : t = 0
    · rw [if_pos t0] at ok ⊢
      exact ho _ _ _ ih (ok _ (last _ _)) (by simp) (fun h => by simp at h)
    rw [if_neg t0] at ok ⊢
    by_cases t1 : t = 1
    · rw [if_pos t1] at ok ⊢
      exact ho _ _ _ ih (ok _ (last _ _)) (by simp) (fun h => by simp at h)
    rw [if_neg t1] at ok ⊢
    by_cases t2 : t = 2 ∨ t = 3
    · rw [if_pos t2] at ok ⊢
      exact ho _ _ _ ih (ok _ (last _ _)) (by simp) (fun h => by simp at h)
    rw [if_neg t2] at ok ⊢
    by_cases t4 : t = 4 ∨ t = 5 ∨ t = 6
    · rw [if_pos t4] at ok ⊢
      unfold esReset at ok ⊢
      by_cases z : e.th (pkV C m c S) = 0
      · rw [if_pos z] at ok ⊢
        exact ho _ _ _ ih (ok _ (last _ _)) (by simp) (fun _ => ⟨(pk_range C m c S).1, z⟩)
      · rw [if_neg z, if_pos rfl]
        exact ih
    · rw [if_neg t4] at ok ⊢
      unfold esPass at ok ⊢
      by_cases z : esFr F T K (1 - 2 * pkV C m c 2) < 0 ∨ 0 < e.th (esFr F T K (1 - 2 * pkV C m c 2))
      · rw [if_pos z] at ok ⊢
        exact hp _ _ _ _ ih (ok _ (last _ _)) z
      · rw [if_neg z, if_pos rfl]
        exact ih

def op1 (x : Int × Int × Int) : Bool := decide (x.1 = 1)

theorem drE_hon (C : Nat → Int) (m : Nat) : ∃ th, HonL (drS C m : Int) (drL C m).length (fstF (drL C m)) (sndF (drL C m)) (drE C m true) th := by
  have hS := drS_range C m
  unfold drE
  generalize (lyZ C m ⟨0, 0⟩).1 = c
  unfold evL
  split
  · split
    · refine ⟨fun _ => 0, (HonL.nil _ _ _ _).other _ (by simp) fun _ => ⟨(pk_range C m _ _).1, rfl⟩⟩
    · exact ⟨_, HonL.nil _ _ _ _⟩
  · exact ⟨_, esRun_inv C m (fstF (drL C m)) (sndF (drL C m)) _ (by omega) (by omega) (HonL _ _ _ _) (HonL.nil _ _ _ _) (fun L th x h _ h1 h5 => h.other x h1 h5) (fun L th k d h hev hp => h.pass k d hev hp) _⟩

theorem drE_jus (C : Nat → Int) (m : Nat) : ∃ th, HonL (drS C m : Int) (drL C m).length (fstF (drL C m)) (sndF (drL C m)) ((drE C m true).filter op1) th := by
  have hS := drS_range C m
  unfold drE
  generalize (lyZ C m ⟨0, 0⟩).1 = c
  unfold evL
  split
  · split
    · exact ⟨_, HonL.nil _ _ _ _⟩
    · exact ⟨_, HonL.nil _ _ _ _⟩
  · refine ⟨_, esRun_inv C m (fstF (drL C m)) (sndF (drL C m)) _ (by omega) (by omega) (fun L th => HonL _ _ _ _ (L.filter op1) th) (HonL.nil _ _ _ _) (fun L th x h _ h1 h5 => ?_) (fun L th k d h hev hp => ?_) _⟩
    · rw [List.filter_append, List.filter_cons_of_neg (by simp [op1, h1]), List.filter_nil, List.append_nil]
      exact h
    · rw [List.filter_append, List.filter_cons_of_pos (by simp [op1]), List.filter_nil]
      exact h.pass k d hev hp

/-- axles alone: how a section stands -/
def jusX (z : Int) (x : Sec) : Prop := x.count = z ∧ x.lost = false ∧ x.sweep = false ∧ x.told = if z = 0 then 0 else 1

theorem jus_cnt {z way : Int} {x : Sec} (h : x.count = z ∧ x.lost = false ∧ x.sweep = false) (h0 : 0 ≤ z + way) (h1 : z + way ≤ 1000000) : (cnt x way).count = z + way ∧ (cnt x way).lost = false ∧ (cnt x way).sweep = false := by
  obtain ⟨a, b, c⟩ := h
  have e : cntC x.count way = z + way := by
    unfold cntC inB
    rw [a, if_pos (by simp; omega)]
  unfold cnt
  simp only [e, b, c]
  refine ⟨trivial, by simp; omega, by simp⟩

theorem jus_told {z : Int} {x : Sec} (h : x.count = z ∧ x.lost = false ∧ x.sweep = false) : jusX z (tlS false x) := by
  obtain ⟨a, b, c⟩ := h
  refine ⟨a, b, c, ?_⟩
  show toldZ false x = _
  unfold toldZ
  rw [a, b, c]
  by_cases e : z = 0
  · simp [e]
  · simp [e]

theorem jus_run {S : Int} {n m : Nat} {F T : Nat → Int} {P : Nat → Nat → Int} (hl : lokZ S n F T = 0) (hm : m ≤ 2000) (hP : ∀ j, j < m → P j 0 = 1 ∧ evB S n 1 (P j 1) (P j 2) = true) (nn : ∀ k, k ≤ m → ∀ s : Nat, 0 ≤ trZ S n F T P k s) (k : Nat) (hk : k ≤ m) :
    (∀ s : Nat, jusX (trZ S n F T P k s) (runX S n F T P k s)) ∧ runD S n F T P k = fun _ => false := by
  induction k with
  | zero => exact ⟨fun s => ⟨rfl, rfl, rfl, rfl⟩, rfl⟩
  | succ k ih =>
    obtain ⟨hX, hD⟩ := ih (by omega)
    obtain ⟨p0, pe⟩ := hP k (by omega)
    obtain ⟨k1, k2, hd⟩ := ev1 pe
    obtain ⟨f, ef⟩ : ∃ f : Nat, P k 1 = (f : Int) := ⟨(P k 1).toNat, by omega⟩
    have hs := lok_sides hl f (by omega)
    rw [ef] at pe
    obtain ⟨d, ed⟩ : ∃ d, P k 2 = d := ⟨_, rfl⟩
    rw [ed] at pe hd
    have step : ∀ s : Nat, trZ S n F T P (k + 1) s = trZ S n F T P k s - (if fromZ F T f d = (s : Int) then 1 else 0) + (if toZ F T f d = (s : Int) then 1 else 0) := by
      intro s
      simp only [trZ]
      rw [p0, ef, ed]
      unfold stepZ
      rw [if_pos ⟨pe, rfl⟩]
      simp only [Int.toNat_natCast]
    constructor
    · intro s
      rw [runX_succ, p0, ef, ed, hD, (nxt_pass S n F T _ (fun _ => false) f d pe s).1, dead_none]
      refine jus_told ?_
      unfold pwD
      simp only [Bool.false_eq_true, if_false]
      obtain ⟨a, b, c, _⟩ := hX s
      have n1 := nn (k + 1) hk s
      have bd := trZ_bound S n F T P (k + 1) s
      rw [step s] at n1 bd ⊢
      have hne : fromZ F T f d ≠ toZ F T f d := by
        unfold fromZ toZ
        split <;> omega
      obtain ⟨fr, efr⟩ : ∃ fr, fromZ F T f d = fr := ⟨_, rfl⟩
      obtain ⟨tt, ett⟩ : ∃ tt, toZ F T f d = tt := ⟨_, rfl⟩
      rw [efr, ett] at n1 bd hne ⊢
      unfold pwS
      by_cases h1 : tt = (s : Int)
      · have h2 : ¬ fr = (s : Int) := by omega
        rw [if_pos h1, if_neg h2] at n1 bd ⊢
        rw [if_neg h2]
        have := jus_cnt (way := 1) ⟨a, b, c⟩ (by omega) (by omega)
        rw [if_pos h1]
        simpa using this
      · rw [if_neg h1]
        by_cases h2 : fr = (s : Int)
        · rw [if_pos h2, if_neg h1] at n1 bd
          rw [if_pos h2, if_pos h2, if_neg h1]
          have := jus_cnt (way := -1) ⟨a, b, c⟩ (by omega) (by omega)
          rw [show trZ S n F T P k s - 1 + 0 = trZ S n F T P k s + -1 by omega]
          exact this
        · rw [if_neg h2, if_neg h2, if_neg h1]
          simpa using ⟨a, b, c⟩
    · rw [runD_succ, p0, ef, ed, hD]
      exact (nxt_pass S n F T (fun _ => sec0) (fun _ => false) f d pe 0).2

theorem jus_code {S : Int} {n m : Nat} {F T : Nat → Int} {P : Nat → Nat → Int} (hl : lokZ S n F T = 0) (hm : m ≤ 2000) (hP : ∀ j, j < m → P j 0 = 1 ∧ evB S n 1 (P j 1) (P j 2) = true) (nn : ∀ k, k ≤ m → ∀ s : Nat, 0 ≤ trZ S n F T P k s) (k : Nat) (hk : k < m) : runC S n F T P k = 0 := by
  obtain ⟨_, hD⟩ := jus_run hl hm hP nn k (by omega)
  obtain ⟨p0, pe⟩ := hP k hk
  unfold runC bhC
  rw [p0, pe, hD]
  simp [effC, passC]

end Go.Proofs.YtlpopfhaephfaaaDoor

namespace Go.Proofs.YtlpopfhaephfaaaDoor.Ps
open Go.RowKit

/-- a sum over the first numbers -/
def sumZ (f : Nat → Int) : Nat → Int
  | 0 => 0
  | n + 1 => sumZ f n + f n
theorem sumZ_congr {f g : Nat → Int} {n : Nat} (h : ∀ i, i < n → f i = g i) : sumZ f n = sumZ g n := by
  induction n with
  | zero => rfl
  | succ n ih => simp only [sumZ]; rw [ih (fun i hi => h i (by omega)), h n (by omega)]
theorem sumZ_upd (f : Nat → Int) (a : Nat) (v : Int) {n : Nat} (h : a < n) : sumZ (fun x => if x = a then v else f x) n = sumZ f n - f a + v := by
  induction n with
  | zero => omega
  | succ n ih =>
    simp only [sumZ]
    by_cases e : a = n
    · subst e
      rw [sumZ_congr (g := f) (fun i hi => if_neg (by omega)), if_pos rfl]
      omega
    · rw [ih (by omega), if_neg (by omega)]
      omega
theorem sumZ_nonneg {f : Nat → Int} (h : ∀ i, 0 ≤ f i) (n : Nat) : 0 ≤ sumZ f n := by
  induction n with
  | zero => exact Int.le_refl _
  | succ n ih => have := h n; simp only [sumZ]; omega
theorem sumZ_const (c : Int) (n : Nat) : sumZ (fun _ => c) n = (n : Int) * c := by
  induction n with
  | zero => simp [sumZ]
  | succ n ih => simp only [sumZ]; rw [ih, Int.natCast_succ, Int.add_mul]; omega

def ind (nx : Nat → Nat) (s a : Nat) : Int := if nx a = s + 1 then 1 else 0

theorem sorted_at {E : List M3} (h : E.Pairwise lt3) {K : Nat} (hK : K < E.length) : E[K] ∉ E.take K ∧ ∀ y ∈ E, lt3 y E[K] → y ∈ E.take K := by
  have e : E = E.take K ++ E[K] :: E.drop (K + 1) := by
    rw [List.getElem_cons_drop, List.take_append_drop]
  have hp := h
  rw [e, List.pairwise_append] at hp
  obtain ⟨_, p2, p3⟩ := hp
  refine ⟨fun hm => lt3_irrefl _ (p3 _ hm _ (List.mem_cons_self ..)), fun y hy hlt => ?_⟩
  rw [e, List.mem_append, List.mem_cons] at hy
  rcases hy with hy | rfl | hy
  · exact hy
  · exact absurd hlt (lt3_irrefl _)
  · exact absurd hlt (lt3_asymm ((List.pairwise_cons.1 p2).1 y hy))

/-- how far each axle is behind the first K passings -/
structure Prg (n : Nat) (ap : Int) (nA : Nat) (Z : Nat → Int) (E : List M3) (K : Nat) (nx : Nat → Nat) : Prop where
  le : ∀ a, a < nA → nx a ≤ n + 1
  mem : ∀ z, z ∈ E.take K ↔ ∃ a, a < nA ∧ ∃ i, i < nx a ∧ z = item (lnP ap) Z a i
  tr : ∀ s, s < n → trZ (n : Int) (n + 1) lnF (lnT n) (trP (E.map evT)) K s = sumZ (ind nx s) nA
  len : (K : Int) = sumZ (fun a => (nx a : Int)) nA

theorem itm_inj {ap : Int} {Z : Nat → Int} {a i b j : Nat} (h : item (lnP ap) Z a i = item (lnP ap) Z b j) : a = b ∧ i = j := by
  unfold item at h
  simp only [M3.mk.injEq] at h
  omega

theorem item_lt {ap : Int} {Z : Nat → Int} {a i j : Nat} (hap : 1 ≤ ap) (h : i < j) : lt3 (item (lnP ap) Z a i) (item (lnP ap) Z a j) ∧ (item (lnP ap) Z a i).f < (item (lnP ap) Z a j).f := by
  have h1 : ap * ((i : Int) + 1) < ap * ((j : Int) + 1) := Int.mul_lt_mul_of_pos_left (by omega) (by omega)
  have h2 : (item (lnP ap) Z a i).f < (item (lnP ap) Z a j).f := by
    unfold item lnP
    simp only [if_true]
    omega
  exact ⟨.inl h2, h2⟩

theorem item_pos {ap : Int} {Z : Nat → Int} {a i : Nat} (hap : 1 ≤ ap) (hz : 0 ≤ Z a) : 0 < (item (lnP ap) Z a i).f := by
  have : 0 < ap * ((i : Int) + 1) := Int.mul_pos (by omega) (by omega)
  unfold item lnP
  simp only [if_true]
  omega

theorem evT_at {E : List M3} {K : Nat} (hK : K < E.length) (j : Nat) : trP (E.map evT) K j = (if j = 0 then 1 else if j = 1 then E[K].p else 1) := by
  have hK' : K < (E.map evT).length := by simpa using hK
  have e2 : (E.map evT).getD K (0, 0, 0) = evT E[K] := by
    rw [List.getD_eq_getElem?_getD, List.getElem?_eq_getElem hK']
    simp
  unfold trP
  rw [e2]
  rfl

theorem prg_all {n : Nat} {ap : Int} {nA : Nat} {Z : Nat → Int} {tt : Int} {E : List M3} (hn : 1 ≤ n) (hap : 1 ≤ ap) (hZ : ∀ a, a < nA → 0 ≤ Z a) (h1 : E.Pairwise lt3) (h2 : ∀ z, z ∈ E ↔ InR nA (n + 1) (lnP ap) Z 0 tt z) (K : Nat) (hK : K ≤ E.length) :
    ∃ nx, Prg n ap nA Z E K nx := by
  induction K with
  | zero =>
    refine ⟨fun _ => 0, fun _ _ => by omega, fun z => ?_, fun s _ => ?_, ?_⟩
    · simp
    · simp only [trZ]
      rw [sumZ_congr (g := fun _ => 0) (fun i _ => by unfold ind; exact if_neg (by simp)), sumZ_const]
      omega
    · have := sumZ_const 0 nA
      show (0 : Int) = sumZ (fun _ => 0) nA
      rw [this]; simp
  | succ K ih =>
    obtain ⟨nx, hle, hmem, htr, hlen⟩ := ih (by omega)
    have hK' : K < E.length := hK
    obtain ⟨n1, n2⟩ := sorted_at h1 hK'
    have hz := (h2 _).1 (List.getElem_mem hK')
    obtain ⟨a, ha, i, hi, ez, f1, f2⟩ := hz
    have ei : i = nx a := by
      rcases Nat.lt_trichotomy i (nx a) with h | h | h
      · exact absurd ((hmem _).2 ⟨a, ha, i, h, ez⟩) n1
      · exact h
      · have hl := item_lt (Z := Z) (a := a) hap h
        have hin : item (lnP ap) Z a (nx a) ∈ E := (h2 _).2 ⟨a, ha, nx a, by omega, rfl, item_pos hap (hZ a ha), by rw [ez] at f2; omega⟩
        have := n2 _ hin (by rw [ez]; exact hl.1)
        obtain ⟨b, _, j, hj, e⟩ := (hmem _).1 this
        obtain ⟨rfl, rfl⟩ := itm_inj e
        omega
    subst ei
    have e1 : E.take (K + 1) = E.take K ++ [E[K]] := by rw [List.take_add_one, List.getElem?_eq_getElem hK']; rfl
    refine ⟨fun x => if x = a then nx a + 1 else nx x, fun b hb => ?_, fun z => ?_, fun s hs => ?_, ?_⟩
    · split
      · omega
      · exact hle b hb
    · rw [e1, List.mem_append, List.mem_singleton, hmem]
      constructor
      · rintro (⟨b, hb, j, hj, rfl⟩ | rfl)
        · refine ⟨b, hb, j, ?_, rfl⟩
          split
          · rename_i e; subst e; omega
          · exact hj
        · exact ⟨a, ha, nx a, by rw [if_pos rfl]; omega, ez⟩
      · rintro ⟨b, hb, j, hj, rfl⟩
        by_cases e : b = a
        · subst e
          rw [if_pos rfl] at hj
          rcases Nat.lt_or_ge j (nx b) with h | h
          · exact .inl ⟨b, hb, j, h, rfl⟩
          · obtain rfl : j = nx b := by omega
            exact .inr ez.symm
        · rw [if_neg e] at hj
          exact .inl ⟨b, hb, j, hj, rfl⟩
    · have ep : E[K].p = (nx a : Int) := by rw [ez]; rfl
      have hev : evB (n : Int) (n + 1) 1 (nx a : Int) 1 = true := lnE_ev (e := (1, (nx a : Int), 1)) (.inl ⟨rfl, by show (0 : Int) ≤ (nx a : Int); omega, by show (nx a : Int) ≤ (n : Int); omega, rfl⟩)
      simp only [trZ]
      rw [evT_at hK', evT_at hK', evT_at hK', ep]
      simp only [if_true, Nat.one_ne_zero, if_false, show ¬ (2 = 0) by omega, show ¬ (2 = 1) by omega]
      unfold stepZ
      rw [if_pos ⟨hev, rfl⟩, htr s hs, Int.toNat_natCast]
      have e2 : sumZ (ind (fun x => if x = a then nx a + 1 else nx x) s) nA = sumZ (fun x => if x = a then (if nx a + 1 = s + 1 then 1 else 0) else ind nx s x) nA := sumZ_congr fun x _ => by
        unfold ind
        by_cases e : x = a
        · simp only [if_pos e]
        · simp only [if_neg e]
      rw [e2, sumZ_upd _ _ _ ha]
      have ef : fromZ lnF (lnT n) (nx a) 1 = (nx a : Int) - 1 := by unfold fromZ lnF; rfl
      have et : toZ lnF (lnT n) (nx a) 1 = lnT n (nx a) := rfl
      rw [ef, et]
      have ind_a : ind nx s a = if nx a = s + 1 then 1 else 0 := rfl
      rw [ind_a]
      by_cases c1 : nx a = s + 1
      · have t1 : ¬ lnT n (nx a) = (s : Int) := by unfold lnT; split <;> omega
        rw [if_pos (show (nx a : Int) - 1 = (s : Int) by omega), if_neg t1, if_pos c1, if_neg (by omega)]
      · rw [if_neg (show ¬ (nx a : Int) - 1 = (s : Int) by omega), if_neg c1]
        by_cases c2 : nx a = s
        · have t1 : lnT n (nx a) = (s : Int) := by unfold lnT; rw [if_neg (by omega)]; omega
          rw [if_pos t1, if_pos (by omega)]
        · have t1 : ¬ lnT n (nx a) = (s : Int) := by unfold lnT; split <;> omega
          rw [if_neg t1, if_neg (by omega)]
    · have e2 : sumZ (fun x => (((if x = a then nx a + 1 else nx x) : Nat) : Int)) nA = sumZ (fun x => if x = a then ((nx a : Int) + 1) else (nx x : Int)) nA := sumZ_congr fun x _ => by
        by_cases e : x = a
        · rw [if_pos e, if_pos e]; omega
        · rw [if_neg e, if_neg e]
      rw [e2, sumZ_upd _ _ _ ha, Int.natCast_succ, hlen]
      omega

/-- the axles in a section when the front is at tt -/
def inS (ap tt : Int) (Z : Nat → Int) (s a : Nat) : Int := if ap * ((s : Int) + 1) ≤ tt - Z a ∧ tt - Z a < ap * ((s : Int) + 2) then 1 else 0

theorem prg_end {n : Nat} {ap : Int} {nA : Nat} {Z : Nat → Int} {tt : Int} {E : List M3} (hap : 1 ≤ ap) (hZ : ∀ a, a < nA → 0 ≤ Z a) (h2 : ∀ z, z ∈ E ↔ InR nA (n + 1) (lnP ap) Z 0 tt z) {nx : Nat → Nat} (h : Prg n ap nA Z E E.length nx) {a i : Nat} (ha : a < nA) (hi : i < n + 1) : i < nx a ↔ ap * ((i : Int) + 1) + Z a ≤ tt := by
  have h3 := h.mem (item (lnP ap) Z a i)
  rw [List.take_length, h2] at h3
  have ef : (item (lnP ap) Z a i).f = ap * ((i : Int) + 1) + Z a := by simp [item, lnP]
  constructor
  · intro hlt
    obtain ⟨_, _, _, _, _, _, f2⟩ := h3.2 ⟨a, ha, i, hlt, rfl⟩
    rw [ef] at f2
    exact f2
  · intro hf
    obtain ⟨b, _, j, hj, e⟩ := h3.1 ⟨a, ha, i, hi, rfl, item_pos hap (hZ a ha), by rw [ef]; exact hf⟩
    obtain ⟨rfl, rfl⟩ := itm_inj e
    exact hj

theorem prg_in {n : Nat} {ap : Int} {nA : Nat} {Z : Nat → Int} {tt : Int} {E : List M3} (hap : 1 ≤ ap) (hZ : ∀ a, a < nA → 0 ≤ Z a) (h2 : ∀ z, z ∈ E ↔ InR nA (n + 1) (lnP ap) Z 0 tt z) {nx : Nat → Nat} (h : Prg n ap nA Z E E.length nx) {s : Nat} (hs : s < n) : trZ (n : Int) (n + 1) lnF (lnT n) (trP (E.map evT)) E.length s = sumZ (inS ap tt Z s) nA := by
  rw [h.tr s hs]
  refine sumZ_congr fun a ha => ?_
  unfold ind inS
  have c1 := prg_end hap hZ h2 h ha (i := s) (by omega)
  have c2 := prg_end hap hZ h2 h ha (i := s + 1) (by omega)
  have e : (((s + 1 : Nat) : Int)) + 1 = (s : Int) + 2 := by omega
  rw [e] at c2
  by_cases hx : nx a = s + 1
  · rw [if_pos hx, if_pos]
    have d1 := c1.1 (by omega)
    have d2 : ¬ (ap * ((s : Int) + 2) + Z a ≤ tt) := fun hc => by have := c2.2 hc; omega
    omega
  · rw [if_neg hx, if_neg]
    rintro ⟨d1, d2⟩
    have d3 := c1.2 (by omega)
    have d4 : ¬ (s + 1 < nx a) := fun hc => by have := c2.1 hc; omega
    omega

/-- a passing in two pieces is one -/
theorem pas_cat {nA nP : Nat} {P : Nat → Nat → Int} {Z : Nat → Int} {mid tt : Int} {E1 E2 E : List M3} (m0 : 0 ≤ mid) (m1 : mid ≤ tt) (h1 : E1.Pairwise lt3) (e1 : ∀ z, z ∈ E1 ↔ InR nA nP P Z 0 mid z) (h2 : E2.Pairwise lt3) (e2 : ∀ z, z ∈ E2 ↔ InR nA nP P Z mid tt z) (h : E.Pairwise lt3) (e : ∀ z, z ∈ E ↔ InR nA nP P Z 0 tt z) : E1 ++ E2 = E := by
  refine sorted_unique ?_ h (fun z => ?_)
  · rw [List.pairwise_append]
    refine ⟨h1, h2, fun x hx y hy => .inl ?_⟩
    obtain ⟨_, _, _, _, _, _, a1⟩ := (e1 x).1 hx
    obtain ⟨_, _, _, _, _, a2, _⟩ := (e2 y).1 hy
    omega
  · rw [List.mem_append, e1, e2, e]
    constructor
    · rintro (⟨k, hk, i, hi, r, a, b⟩ | ⟨k, hk, i, hi, r, a, b⟩)
      · exact ⟨k, hk, i, hi, r, a, by omega⟩
      · exact ⟨k, hk, i, hi, r, by omega, b⟩
    · rintro ⟨k, hk, i, hi, r, a, b⟩
      by_cases c : z.f ≤ mid
      · exact .inl ⟨k, hk, i, hi, r, a, c⟩
      · exact .inr ⟨k, hk, i, hi, r, by omega, b⟩

end Go.Proofs.YtlpopfhaephfaaaDoor.Ps

namespace Go.Proofs.YtlpopfhaephfaaaDoor.Ps
open Go.RowKit

theorem flat_all : ∀ (k : Nat) (L : List M3), L.length = k → flat L = trC (L.map fun z => (z.f, z.a, z.p))
  | 0, L, h => by
    have : L = [] := List.length_eq_zero_iff.1 h
    subst this
    rfl
  | k + 1, L, h => by
    rcases List.eq_nil_or_concat L with rfl | ⟨L', z, rfl⟩
    · simp at h
    · rw [List.concat_eq_append] at h ⊢
      rw [flat_snoc, flat_all k L' (by simpa using h), List.map_append, List.map_cons, List.map_nil, trC_snoc]

theorem flat_ln (ap : Int) (E : List M3) (h : ∀ z ∈ E, 0 ≤ z.p) : flat (E.map (evM (lnP ap))) = trC (E.map evT) := by
  rw [flat_all _ _ rfl, List.map_map]
  congr 1
  refine List.map_congr_left fun z hz => ?_
  have := h z hz
  simp only [Function.comp, evM, evT, lnP]
  simp only [Nat.one_ne_zero, if_false, if_true, show ¬ (2 = 0) by omega, show ¬ (2 = 1) by omega]
  rw [Int.toNat_of_nonneg this]

theorem ln_posts {n : Nat} {ap : Int} (h2 : n ≤ 8) (a1 : 1 ≤ ap) (a2 : ap ≤ 1000) : PostsV (n + 1) (n + 1) (lnP ap) := by
  refine ⟨by omega, fun i hi => ⟨⟨?_, ?_⟩, ⟨?_, ?_⟩, ?_⟩⟩
  · unfold prevZ lnP
    split
    · exact Int.mul_nonneg (by omega) (by omega)
    · simp only [if_true]
      exact Int.mul_le_mul_of_nonneg_left (by omega) (by omega)
  · show lnP ap i 0 ≤ 1000000
    unfold lnP
    simp only [if_true]
    have : ap * ((i : Int) + 1) ≤ 1000 * 9 := Int.mul_le_mul a2 (by omega) (by omega) (by omega)
    omega
  · simp [lnP]
  · simp [lnP]; omega
  · simp [lnP]

theorem inR_p {ap : Int} {nA nP : Nat} {Z : Nat → Int} {fr tt : Int} {z : M3} (h : InR nA nP (lnP ap) Z fr tt z) : 0 ≤ z.p ∧ z.p < (nP : Int) := by
  obtain ⟨k, _, i, hi, rfl, _⟩ := h
  unfold item
  simp only
  omega

theorem passing_ln (n : Nat) (ap : Int) (g gp ga nA : Nat) (Z : Nat → Int) (fr tt : Int) (w : World) (h1 : 1 ≤ n) (h2 : n ≤ 8) (a1 : 1 ≤ ap) (a2 : ap ≤ 1000) (hL : CRow w g (n + 1) lnF (lnT n)) (hP : PRow w gp (n + 1) (lnP ap)) (hA : ARow w ga nA Z) (hAx : AxlesV nA Z) (f1 : 0 ≤ fr) (f2 : fr ≤ tt) (f3 : tt ≤ 1000000) :
    Calls Tryd.prog 13 #[.agg #[.int .i64 (n : Int), .slice (gA g) (n + 1) (gC g)], .slice (gA gp) (n + 1) (gC gp), .slice (gA ga) nA (gC ga), .int .i64 fr, .int .i64 tt] w fun e w' => ∃ (v : Value) (E : List M3), e = .returned v ∧ (E.Pairwise lt3 ∧ ∀ z, z ∈ E ↔ InR nA (n + 1) (lnP ap) Z fr tt z) ∧ E.length ≤ nA * (n + 1) ∧ w'.ownsRow w.heap.size 56 3 v (E.map evT).length (trC (E.map evT)) ∧ Below w.heap.size w w' := by
  refine (implPassing_good (n : Int) g (n + 1) gp (n + 1) ga nA lnF (lnT n) (lnP ap) Z fr tt w hL hP hA ⟨ln_ok h1 (by omega), ln_posts h2 a1 a2, hAx, by omega⟩ (by omega)).mono ?_
  rintro e w' ⟨v, E, rfl, hE, hl, own, hb⟩
  refine ⟨v, E, rfl, hE, hl, ?_, hb⟩
  rw [flat_ln ap E (fun z hz => (inR_p ((hE.2 z).1 hz)).1)] at own
  simpa using own

/-- numbers of the call's own, as axles -/
def inC (l : List Int) : List Value := l.map (.int .i64)
theorem ARow.of_own {w : World} {base n : Nat} {v : Value} {l : List Int} (h : w.ownsRow base 3 1 v n (inC l)) (hn : l.length = n) : ∃ g, v = .slice (gA g) n (gC g) ∧ ARow w g n (fun i => l.getD i 0) := by
  subst hn
  have hs := ow_slf (G := fun i _ => .int .i64 (l.getD i 0)) h (fun i hi j hj => by
    obtain rfl : j = 0 := by omega
    simp only [Nat.mul_one, Nat.add_zero]
    unfold inC
    rw [List.getElem?_map, List.getElem?_eq_getElem hi, List.getD_eq_getElem?_getD, List.getElem?_eq_getElem hi]
    rfl)
  obtain ⟨ao, c, rfl, h0 | ⟨b, m, f, rfl, _, _, h2, h3, h4⟩⟩ := hs
  · rcases ao with _ | ⟨b, off, sp⟩
    · obtain ⟨g, e1, e2⟩ := gA_none c
      exact ⟨g, by rw [e1, e2], .inl h0⟩
    · rcases h.2 with ⟨e, _⟩ | ⟨g', cap, cur, e, _⟩
      · cases e
      · simp only [Value.slice.injEq] at e
        obtain ⟨e, _, rfl⟩ := e
        obtain ⟨g, e1, e2⟩ := gA_some g' c
        exact ⟨g, by rw [e, e1, e2], .inl h0⟩
  · obtain ⟨g, e1, e2⟩ := gA_some b c
    refine ⟨g, by rw [e1, e2], .inr ⟨b, m, f, e1, by omega, h3, fun i hi => ?_⟩⟩
    have := h4 i hi 0 (by omega)
    simpa using this

theorem slf_grown {w w' : World} {e sz lo hi n : Nat} {v : Value} {G : Nat → Nat → Value} {ob : Option Nat} (h : SlF w e sz lo hi v n G) (hg : w.grownBy w' ob) (hne : ∀ b, ob = some b → b < lo ∨ hi ≤ b) : SlF w' e sz lo hi v n G := by
  refine h.of_block fun g m f h1 h2 h3 => hg.block g h1.lt fun e => ?_
  rcases hne g e.symm with h | h <;> omega

/-- one event more on a list of one's own -/
theorem tr_one (a b c : Int) : ∀ u ∈ [Value.int .i64 a, .int .i64 b, .int .i64 c], u.oneCell' = true := fun u hu => by
  simp only [List.mem_cons, List.not_mem_nil, or_false] at hu
  rcases hu with rfl | rfl | rfl <;> rfl

theorem own_block_lt {w : World} {base e sz n : Nat} {v : Value} {xs : List Value} (h : w.ownsRow base e sz v n xs) : ∀ b, v.ownBlock = some b → base ≤ b ∧ b < w.heap.size := by
  intro b hb
  rcases h.2 with ⟨rfl, _⟩ | ⟨g, cap, cur, rfl, h1, h2, _⟩
  · simp [Value.ownBlock] at hb
  · simp only [Value.ownBlock, Option.some.injEq] at hb
    subst hb
    exact ⟨h1, (Array.getElem?_eq_some_iff.1 h2).1⟩

end Go.Proofs.YtlpopfhaephfaaaDoor.Ps

namespace Go.Proofs.YtlpopfhaephfaaaDoor.Ps
open Go.RowKit

/-- the distances of the axles: each is 1 .. 20 further -/
def zT (A : Nat) (B : Nat → Int) : Nat → Int
  | 0 => 0
  | j + 1 => zT A B j + (1 + B (A - j))
theorem zT_range {A : Nat} {B : Nat → Int} (hB : ∀ q, 0 ≤ B q ∧ B q < 20) (j : Nat) : 0 ≤ zT A B j ∧ zT A B j ≤ 20 * (j : Int) := by
  induction j with
  | zero => exact ⟨Int.le_refl _, Int.le_refl _⟩
  | succ j ih =>
    have := hB (A - j)
    simp only [zT]
    omega
theorem zT_mono {A : Nat} {B : Nat → Int} (hB : ∀ q, 0 ≤ B q ∧ B q < 20) {i j : Nat} (h : i ≤ j) : zT A B i ≤ zT A B j := by
  induction h with
  | refl => exact Int.le_refl _
  | step _ ih =>
    rename_i k _
    have := hB (A - k)
    simp only [zT]
    omega
theorem zT_ax {A : Nat} {B : Nat → Int} (hB : ∀ q, 0 ≤ B q ∧ B q < 20) (hA : A ≤ 30) : AxlesV A (zT A B) := by
  refine ⟨by omega, fun i hi => ⟨?_, ?_⟩⟩
  · unfold prevZ
    split
    · exact (zT_range hB i).1
    · exact zT_mono hB (by omega)
  · have := (zT_range (A := A) hB i).2
    omega

def aT (Z : Nat → Int) (k : Nat) : List Int := (List.range k).map Z
theorem aT_succ (Z : Nat → Int) (k : Nat) : inC (aT Z (k + 1)) = inC (aT Z k) ++ [.int .i64 (Z k)] := by simp [aT, inC, List.range_succ]
theorem aT_len (Z : Nat → Int) (k : Nat) : (aT Z k).length = k := by simp [aT]
theorem aT_at {Z : Nat → Int} {k i : Nat} (h : i < k) : (aT Z k).getD i 0 = Z i := by
  unfold aT
  rw [List.getD_eq_getElem?_getD, List.getElem?_map, List.getElem?_range h]
  rfl

theorem tr_out {n : Nat} {ap : Int} {nA : Nat} {Z : Nat → Int} {tt : Int} {E : List M3} (h2 : ∀ z, z ∈ E ↔ InR nA (n + 1) (lnP ap) Z 0 tt z) (K : Nat) (hK : K ≤ E.length) {s : Nat} (hs : n ≤ s) : trZ (n : Int) (n + 1) lnF (lnT n) (trP (E.map evT)) K s = 0 := by
  induction K with
  | zero => rfl
  | succ K ih =>
    have hK' : K < E.length := hK
    have hp := inR_p ((h2 _).1 (List.getElem_mem hK'))
    obtain ⟨k, ep⟩ : ∃ k : Nat, E[K].p = (k : Int) := ⟨E[K].p.toNat, by omega⟩
    have hev : evB (n : Int) (n + 1) 1 (k : Int) 1 = true := lnE_ev (e := (1, (k : Int), 1)) (.inl ⟨rfl, by show (0 : Int) ≤ (k : Int); omega, by show (k : Int) ≤ (n : Int); omega, rfl⟩)
    simp only [trZ]
    rw [evT_at hK', evT_at hK', evT_at hK', ep]
    simp only [if_true, Nat.one_ne_zero, if_false, show ¬ (2 = 0) by omega, show ¬ (2 = 1) by omega]
    unfold stepZ
    rw [if_pos ⟨hev, rfl⟩, ih (by omega), Int.toNat_natCast]
    have ef : fromZ lnF (lnT n) k 1 = (k : Int) - 1 := by unfold fromZ lnF; rfl
    have et : toZ lnF (lnT n) k 1 = lnT n k := rfl
    rw [ef, et]
    have t1 : ¬ lnT n k = (s : Int) := by unfold lnT; split <;> omega
    rw [if_neg (show ¬ (k : Int) - 1 = (s : Int) by omega), if_neg t1]
    rfl

/-- what is to be said of a train's events -/
structure TrnF (n : Nat) (L : List (Int × Int × Int)) : Prop where
  op : ∀ j, j < L.length → trP L j 0 = 1 ∧ evB (n : Int) (n + 1) 1 (trP L j 1) (trP L j 2) = true
  nn : ∀ k, k ≤ L.length → ∀ s : Nat, 0 ≤ trZ (n : Int) (n + 1) lnF (lnT n) (trP L) k s

theorem trn_of {n : Nat} {ap : Int} {nA : Nat} {Z : Nat → Int} {tt : Int} {E : List M3} (hn : 1 ≤ n) (hap : 1 ≤ ap) (hZ : ∀ a, a < nA → 0 ≤ Z a) (h1 : E.Pairwise lt3) (h2 : ∀ z, z ∈ E ↔ InR nA (n + 1) (lnP ap) Z 0 tt z) : TrnF n (E.map evT) := by
  refine ⟨fun j hj => ?_, fun k hk s => ?_⟩
  · have hj' : j < E.length := by simpa using hj
    have hp := inR_p ((h2 _).1 (List.getElem_mem hj'))
    rw [evT_at hj', evT_at hj', evT_at hj']
    refine ⟨rfl, ?_⟩
    simp only [Nat.one_ne_zero, if_false, if_true, show ¬ (2 = 0) by omega, show ¬ (2 = 1) by omega]
    exact lnE_ev (e := (1, E[j].p, 1)) (.inl ⟨rfl, hp.1, by show E[j].p ≤ (n : Int); omega, rfl⟩)
  · have hk' : k ≤ E.length := by simpa using hk
    by_cases hs : s < n
    · obtain ⟨nx, hx⟩ := prg_all hn hap hZ h1 h2 k hk'
      rw [hx.tr s hs]
      refine sumZ_nonneg (fun i => ?_) _
      unfold ind
      split <;> omega
    · rw [tr_out h2 k hk' (by omega)]
      exact Int.le_refl _

theorem trn_hon {n : Nat} {L : List (Int × Int × Int)} (h : TrnF n L) : honP (n : Int) (n + 1) n lnF (lnT n) (trP L) L.length := by
  intro k hk
  obtain ⟨o1, o2⟩ := h.op k hk
  unfold lieE
  rw [if_neg (by rw [o1, o2]; decide)]
  rw [if_neg (by rw [o1]; rintro ⟨h5, _⟩; omega), if_neg]
  intro hh
  obtain ⟨s, _, hs⟩ := List.any_eq_true.1 hh
  have h1 := h.nn (k + 1) (by omega) s
  have h2 := of_decide_eq_true hs
  omega

/-- the whole train has passed -/
theorem full_nx {n : Nat} {ap : Int} {nA : Nat} {Z : Nat → Int} {tt at' : Int} {E : List M3} (hap : 1 ≤ ap) (hZ : ∀ a, a < nA → 0 ≤ Z a ∧ Z a ≤ at') (ht : ap * ((n : Int) + 1) + at' = tt) (h2 : ∀ z, z ∈ E ↔ InR nA (n + 1) (lnP ap) Z 0 tt z) {nx : Nat → Nat} (h : Prg n ap nA Z E E.length nx) {a : Nat} (ha : a < nA) : nx a = n + 1 := by
  have h3 := (prg_end hap (fun a ha => (hZ a ha).1) h2 h ha (i := n) (by omega)).2 (by have := hZ a ha; omega)
  have h4 := h.le a ha
  omega

theorem full_len {n : Nat} {ap : Int} {nA : Nat} {Z : Nat → Int} {tt at' : Int} {E : List M3} (hn : 1 ≤ n) (hap : 1 ≤ ap) (hZ : ∀ a, a < nA → 0 ≤ Z a ∧ Z a ≤ at') (ht : ap * ((n : Int) + 1) + at' = tt) (h1 : E.Pairwise lt3) (h2 : ∀ z, z ∈ E ↔ InR nA (n + 1) (lnP ap) Z 0 tt z) : (nA : Int) * ((n : Int) + 1) = ((E.map evT).length : Int) := by
  obtain ⟨nx, hx⟩ := prg_all hn hap (fun a ha => (hZ a ha).1) h1 h2 E.length (Nat.le_refl _)
  have := hx.len
  rw [sumZ_congr (g := fun _ => (n : Int) + 1) (fun a ha => by rw [full_nx hap hZ ht h2 hx ha]; omega), sumZ_const] at this
  rw [List.length_map]
  omega

theorem full_zero {n : Nat} {ap : Int} {nA : Nat} {Z : Nat → Int} {tt at' : Int} {E : List M3} (hn : 1 ≤ n) (hap : 1 ≤ ap) (hZ : ∀ a, a < nA → 0 ≤ Z a ∧ Z a ≤ at') (ht : ap * ((n : Int) + 1) + at' = tt) (h1 : E.Pairwise lt3) (h2 : ∀ z, z ∈ E ↔ InR nA (n + 1) (lnP ap) Z 0 tt z) {s : Nat} (hs : s < n) : trZ (n : Int) (n + 1) lnF (lnT n) (trP (E.map evT)) (E.map evT).length s = 0 := by
  obtain ⟨nx, hx⟩ := prg_all hn hap (fun a ha => (hZ a ha).1) h1 h2 E.length (Nat.le_refl _)
  rw [List.length_map, hx.tr s hs, sumZ_congr (g := fun _ => 0) (fun a ha => by unfold ind; rw [full_nx hap hZ ht h2 hx ha, if_neg (by omega)]), sumZ_const]
  omega

theorem mid_in {n : Nat} {ap : Int} {nA : Nat} {Z : Nat → Int} {tt : Int} {E : List M3} (hn : 1 ≤ n) (hap : 1 ≤ ap) (hZ : ∀ a, a < nA → 0 ≤ Z a) (h1 : E.Pairwise lt3) (h2 : ∀ z, z ∈ E ↔ InR nA (n + 1) (lnP ap) Z 0 tt z) {s : Nat} (hs : s < n) : trZ (n : Int) (n + 1) lnF (lnT n) (trP (E.map evT)) (E.map evT).length s = sumZ (inS ap tt Z s) nA := by
  obtain ⟨nx, hx⟩ := prg_all hn hap hZ h1 h2 E.length (Nat.le_refl _)
  rw [List.length_map]
  exact prg_in hap hZ h2 hx hs

theorem inS_range (ap tt : Int) (Z : Nat → Int) (s k : Nat) : 0 ≤ sumZ (inS ap tt Z s) k ∧ sumZ (inS ap tt Z s) k ≤ (k : Int) := by
  induction k with
  | zero => exact ⟨Int.le_refl _, Int.le_refl _⟩
  | succ k ih =>
    simp only [sumZ]
    have : 0 ≤ inS ap tt Z s k ∧ inS ap tt Z s k ≤ 1 := by unfold inS; split <;> omega
    omega

end Go.Proofs.YtlpopfhaephfaaaDoor.Ps

namespace Go.Proofs.YtlpopfhaephfaaaDoor.Ps
open Go.RowKit

theorem Tryd.infoMc : (Tryd.prog.info? 74).map (fun i => (i.zero, i.size, i.bytes)) = some (some (.agg #[.int .i64 0, .int .i64 0]), 2, 16) := by kernel_rfl
theorem Tryd.infoMp : (Tryd.prog.info? 81).map (fun i => (i.zero, i.size, i.bytes)) = some (some (.agg #[.int .i64 0, .int .i64 0, .int .i64 0]), 3, 24) := by kernel_rfl

/-- the first k counters and posts of a line -/
def cLn (n k : Nat) : List (Int × Int) := (List.range k).map fun i => (lnF i, lnT n i)
def pLn (ap : Int) (k : Nat) : List (Int × Int × Int) := (List.range k).map fun (i : Nat) => (ap * ((i : Int) + 1), (i : Int), 1)
theorem cLn_len (n k : Nat) : (cLn n k).length = k := by simp [cLn]
theorem pLn_len (ap : Int) (k : Nat) : (pLn ap k).length = k := by simp [pLn]
theorem cLn_succ (n k : Nat) : cLn n (k + 1) = cLn n k ++ [((k : Int) - 1, lnT n k)] := by simp [cLn, List.range_succ, lnF]
theorem pLn_succ (ap : Int) (k : Nat) : pLn ap (k + 1) = pLn ap k ++ [(ap * ((k : Int) + 1), (k : Int), 1)] := by simp [pLn, List.range_succ]
theorem cLn_fst {n k i : Nat} (h : i < k) : fstF (cLn n k) i = lnF i ∧ sndF (cLn n k) i = lnT n i := by
  unfold fstF sndF cLn
  rw [List.getD_eq_getElem?_getD, List.getElem?_map, List.getElem?_range h]
  exact ⟨rfl, rfl⟩
theorem pLn_at {ap : Int} {k i : Nat} (h : i < k) (j : Nat) : trP (pLn ap k) i j = lnP ap i j := by
  unfold trP pLn lnP
  rw [List.getD_eq_getElem?_getD, List.getElem?_map, List.getElem?_range h]
  rfl

theorem PRow.of_own {w : World} {base n : Nat} {v : Value} {L : List (Int × Int × Int)} (h : w.ownsRow base 81 3 v n (trC L)) (hn : L.length = n) : ∃ g, v = .slice (gA g) n (gC g) ∧ PRow w g n (trP L) := by
  subst hn
  obtain ⟨ao, c, rfl, h0 | ⟨b, m, f, rfl, _, _, h2, h3, h4⟩⟩ := ow_slf (G := fun i j => .int .i64 (trP L i j)) h (fun i hi j hj => trC_get L i j hi hj)
  · rcases ao with _ | ⟨b, off, sp⟩
    · obtain ⟨g, e1, e2⟩ := gA_none c
      exact ⟨g, by rw [e1, e2], .inl h0⟩
    · rcases h.2 with ⟨e, _⟩ | ⟨g', cap, cur, e, _⟩
      · cases e
      · simp only [Value.slice.injEq] at e
        obtain ⟨e, _, rfl⟩ := e
        obtain ⟨g, e1, e2⟩ := gA_some g' c
        exact ⟨g, by rw [e, e1, e2], .inl h0⟩
  · obtain ⟨g, e1, e2⟩ := gA_some b c
    exact ⟨g, by rw [e1, e2], .inr ⟨b, m, f, e1, h2, h3, h4⟩⟩

/-- what stands ahead of a round -/
structure MlI (w wr : World) (q : Nat) (n : Nat) (ap : Int) (u u7 : Value) (k : Nat) : Prop where
  lay : Box2 wr q 25 (.int .i64 (n : Int)) u
  own : wr.ownsRow (q + 1) 74 2 u k (prC (cLn n k))
  res : Box2 wr w.heap.size 25 (.int .i64 0) (.slice none 0 0)
  pst : wr.ownsRow (q + 1) 81 3 u7 k (trC (pLn ap k))
  bel : Below w.heap.size w wr
  rq : w.heap.size < q

set_option maxRecDepth 100000 in
set_option maxHeartbeats 4000000 in
theorem madeLine_any (n : Nat) (ap : Int) (w : World) (h1 : 1 ≤ n) (h2 : n ≤ 8) (h3 : 0 ≤ ap) (h4 : ap ≤ 1000) :
    Calls Tryd.prog 12 #[.int .i64 (n : Int), .int .i64 ap] w fun e w' => ∃ g gp, e = .returned (.tuple #[.agg #[.int .i64 (n : Int), .slice (gA g) (n + 1) (gC g)], .slice (gA gp) (n + 1) (gC gp)]) ∧ CRow w' g (n + 1) lnF (lnT n) ∧ PRow w' gp (n + 1) (lnP ap) ∧ Below w.heap.size w w' := by
  obtain ⟨i0, hi, hz0, hz1, hz2⟩ := info_parts Tryd.infoMc
  obtain ⟨j0, gi, gz0, gz1, gz2⟩ := info_parts Tryd.infoMp
  have I0 : MlI w ((w.alloc (.cells #[.int .i64 0, .slice none 0 0] 25)).alloc (.cells #[.int .i64 (n : Int), .slice none 0 0] 25)) (w.heap.size + 1) n ap (.slice none 0 0) (.slice none 0 0) 0 := by
    refine ⟨?_, World.ownsRow_nil _ _ _ _, (Box2.lay w _ _ _).alloc _, World.ownsRow_nil _ _ _ _, (by repeat (first | exact Below.refl _ _ | assumption | refine below_alloc ?_ _ | refine Below.setCell ?_ (by first | omega | (simp; done) | (simp; omega)) _ | refine Below.alloc ?_ (by first | omega | (simp; done) | (simp; omega)) _ | refine Below.drew ?_)), by omega⟩
    have := Box2.lay (w.alloc (.cells #[.int .i64 0, .slice none 0 0] 25)) (.int .i64 (n : Int)) (.slice none 0 0) 25
    rwa [World.size_alloc] at this
  obtain ⟨q, eq⟩ : ∃ q, w.heap.size + 1 = q := ⟨_, rfl⟩
  rw [eq] at I0
  have EQ : Hid _ := eq
  clear eq
  go_enter Tryd.func12, Tryd.ntmps12
  go_wp2
  rw [EQ.out]
  go_loopw [7, 8] (fun u7 i wr => ∃ (k : Nat) (u : Value), k ≤ n + 1 ∧ i = .int .i64 k ∧ MlI w wr q n ap u u7 k) (fun _ i _ => n + 1 - (intOf i).toNat)
  case atStart => exact ⟨0, _, Nat.zero_le _, rfl, I0⟩
  case round =>
    clear I0 EQ
    obtain ⟨k, u, hk, rfl, I⟩ := hrel
    obtain ⟨b0, b1⟩ := I.lay.cells
    have lq := I.lay.lt
    have hrq := I.rq
    by_cases hlt : k ≤ n
    · have hi1 : (k : Int) ≤ (n : Int) := by omega
      obtain ⟨t, et, ht⟩ : ∃ t : Int, lnT n k = t ∧ (t = -1 ∧ k = n ∨ t = (k : Int) ∧ ¬ k = n) := by
        unfold lnT
        split
        · exact ⟨_, rfl, .inl ⟨rfl, by assumption⟩⟩
        · exact ⟨_, rfl, .inr ⟨rfl, by assumption⟩⟩
      have eC := cLn_succ n k
      rw [et] at eC
      have eP := pLn_succ ap k
      have EC : Hid _ := eC
      have EP : Hid _ := eP
      have bX : Below wr.heap.size wr ((wr.alloc (.cells #[.int .i64 ((k : Int) - 1), .int .i64 t] 74)).alloc (.cells #[.int .i64 ((k : Int) - 1), .int .i64 t] 74)) := (by repeat (first | exact Below.refl _ _ | assumption | refine below_alloc ?_ _ | refine Below.setCell ?_ (by first | omega | (simp; done) | (simp; omega)) _ | refine Below.alloc ?_ (by first | omega | (simp; done) | (simp; omega)) _ | refine Below.drew ?_))
      have ownU := ow_on I.own bX
      have pstU := ow_on I.pst bX
      have layU := I.lay.on bX
      have resU := I.res.on bX
      have belU := below_on I.bel bX
      have hnw := nw_cells2 (wr.alloc (.cells #[.int .i64 ((k : Int) - 1), .int .i64 t] 74)) (.int .i64 ((k : Int) - 1)) (.int .i64 t) 74
      rw [World.size_alloc] at hnw
      have h1c : ∀ x ∈ [Value.int .i64 ((k : Int) - 1), .int .i64 t], x.oneCell' = true := fun x hx => by
        simp only [List.mem_cons, List.not_mem_nil, or_false] at hx
        rcases hx with rfl | rfl <;> rfl
      have kq := fun w6 (hh : Nat) (tg : Turned ((wr.alloc (.cells #[.int .i64 ((k : Int) - 1), .int .i64 t] 74)).alloc (.cells #[.int .i64 ((k : Int) - 1), .int .i64 t] 74)) w6 (· = 74) (q + 1) hh) => layU.turned tg (.inl (by decide))
      have hbq : q + 1 ≤ ((wr.alloc (.cells #[.int .i64 ((k : Int) - 1), .int .i64 t] 74)).alloc (.cells #[.int .i64 ((k : Int) - 1), .int .i64 t] 74)).heap.size := by rw [World.size_alloc, World.size_alloc]; omega
      have PU : Hid _ := pstU
      have RU : Hid _ := resU
      have BU : Hid _ := belU
      have LU : Hid _ := layU
      have m1 : 0 ≤ ap * ((k : Int) + 1) ∧ ap * ((k : Int) + 1) ≤ 9000 := by
        have a1 : 0 ≤ ap * ((k : Int) + 1) := Int.mul_nonneg h3 (by omega)
        have a2 : ap * ((k : Int) + 1) ≤ 1000 * 9 := Int.mul_le_mul h4 (by omega) (by omega) (by omega)
        exact ⟨a1, by omega⟩
      obtain ⟨m1, m2⟩ := m1
      clear I bX pstU resU belU eC eP layU
      rcases ht with ⟨rfl, hkn⟩ | ⟨rfl, hkn⟩
      · subst hkn
        go_upto_region 10 with (first
          | (at_builtin; refine wpList_append_own _ rfl _ _ 23 rfl (q + 1) 74 i0 _ 2 16 Tryd.underlying23 hi hz0 hz1 hz2 rfl (by decide) _ _ _ rfl ownU ⟨wr.heap.size + 1, 0, none⟩ 1 1 [.int .i64 ((k : Int) - 1), .int .i64 (-1)] rfl rfl hnw h1c (by unfold maxLen; omega) (by omega) hbq ?_; intro v' w6 hown' hgrow hnil; obtain ⟨g6, cap6, rfl⟩ := ow_some hown' (by omega); have tg := ow_grown ownU hgrow; obtain ⟨n0, n1⟩ := (kq _ _ tg).cells; obtain ⟨m0', m1'⟩ := (kq _ _ tg).frozen))
        obtain ⟨v', ev'⟩ : ∃ v', Value.slice (some ⟨g6, 0, none⟩) (k + 1) cap6 = v' := ⟨_, rfl⟩
        rw [ev'] at hown' ⊢
        have s6 := tg.size
        rw [World.size_alloc, World.size_alloc] at s6
        have p6 : w6.ownsRow (q + 1) 81 3 u7 k (trC (pLn ap k)) := ow_turned PU.out tg (by decide)
        have l6 := (kq _ _ tg).set1 v'
        have r6 : Box2 (w6.setCell ⟨q, 1, none⟩ v') w.heap.size 25 _ _ := (Box2.turned RU.out tg (.inl (by decide))).set_other (show q ≠ w.heap.size by omega) v'
        have o6 : (w6.setCell ⟨q, 1, none⟩ v').ownsRow (q + 1) 74 2 v' (k + 1) (prC (cLn k k) ++ [.int .i64 ((k : Int) - 1), .int .i64 (-1)]) := ow_set hown' (show q < q + 1 by omega) v'
        have p6' := ow_set (a := ⟨q, 1, none⟩) p6 (show q < q + 1 by omega) v'
        have b6 : Below w.heap.size w (w6.setCell ⟨q, 1, none⟩ v') := (Below.trans BU.out (tg.below (show w.heap.size ≤ q + 1 by omega) (Below.size BU.out))).setCell (show w.heap.size ≤ q by omega) v'
        obtain ⟨Y, eY⟩ : ∃ Y, w6.setCell ⟨q, 1, none⟩ v' = Y := ⟨_, rfl⟩
        have sY : Y.heap.size = w6.heap.size := by rw [← eY]; simp [World.setCell]
        rw [eY] at l6 r6 o6 p6' b6 ⊢
        clear eY n0 n1 m0' m1' p6 hgrow hown' tg hnil b0 b1 kq ownU hnw h1c
        have bP : Below Y.heap.size Y (Y.alloc (.cells #[.int .i64 (ap * ((k : Int) + 1)), .int .i64 (k : Int), .int .i64 1] 81)) := (by repeat (first | exact Below.refl _ _ | assumption | refine below_alloc ?_ _ | refine Below.setCell ?_ (by first | omega | (simp; done) | (simp; omega)) _ | refine Below.alloc ?_ (by first | omega | (simp; done) | (simp; omega)) _ | refine Below.drew ?_))
        have pU := ow_on p6' bP
        have hnp := nw_cells3 Y (.int .i64 (ap * ((k : Int) + 1))) (.int .i64 (k : Int)) (.int .i64 1) 81
        have hpc : ∀ x ∈ [Value.int .i64 (ap * ((k : Int) + 1)), .int .i64 (k : Int), .int .i64 1], x.oneCell' = true := fun x hx => by
          simp only [List.mem_cons, List.not_mem_nil, or_false] at hx
          rcases hx with rfl | rfl | rfl <;> rfl
        have hbp : q + 1 ≤ (Y.alloc (.cells #[.int .i64 (ap * ((k : Int) + 1)), .int .i64 (k : Int), .int .i64 1] 81)).heap.size := by rw [World.size_alloc]; omega
        have L7 : Hid _ := l6.on bP
        have R7 : Hid _ := r6.on bP
        have O7 : Hid _ := ow_on o6 bP
        have B7 : Hid _ := below_on b6 bP
        clear l6 r6 o6 b6 p6' bP sY s6
        go_wp2_with (first
          | (at_builtin; refine wpList_append_own _ rfl _ _ 47 rfl (q + 1) 81 j0 _ 3 24 Tryd.underlying47 gi gz0 gz1 gz2 rfl (by decide) _ _ _ rfl pU ⟨Y.heap.size, 0, none⟩ 1 1 [.int .i64 (ap * ((k : Int) + 1)), .int .i64 (k : Int), .int .i64 1] rfl rfl hnp hpc (by unfold maxLen; omega) (by omega) hbp ?_; intro v7 w7 hown7 hgrow7 hnil7; obtain ⟨g7, cap7, rfl⟩ := ow_some hown7 (by omega); have tp := ow_grown pU hgrow7))
        go_roundw
        case rel => exact ⟨k + 1, v', by omega, by go_num, ⟨Box2.turned L7.out tp (.inl (by decide)), by rw [EC.out, prC_snoc]; exact ow_turned O7.out tp (by decide), Box2.turned R7.out tp (.inl (by decide)), by rw [EP.out, trC_snoc]; exact hown7, Below.trans B7.out (tp.below (show w.heap.size ≤ q + 1 by omega) (Below.size B7.out)), hrq⟩⟩
        case measure => simp [intOf] <;> omega
      · have hkn' : ¬ (k : Int) = (n : Int) := by omega
        go_upto_region 10 with (first
          | (at_builtin; refine wpList_append_own _ rfl _ _ 23 rfl (q + 1) 74 i0 _ 2 16 Tryd.underlying23 hi hz0 hz1 hz2 rfl (by decide) _ _ _ rfl ownU ⟨wr.heap.size + 1, 0, none⟩ 1 1 [.int .i64 ((k : Int) - 1), .int .i64 (k : Int)] rfl rfl hnw h1c (by unfold maxLen; omega) (by omega) hbq ?_; intro v' w6 hown' hgrow hnil; obtain ⟨g6, cap6, rfl⟩ := ow_some hown' (by omega); have tg := ow_grown ownU hgrow; obtain ⟨n0, n1⟩ := (kq _ _ tg).cells; obtain ⟨m0', m1'⟩ := (kq _ _ tg).frozen))
        obtain ⟨v', ev'⟩ : ∃ v', Value.slice (some ⟨g6, 0, none⟩) (k + 1) cap6 = v' := ⟨_, rfl⟩
        rw [ev'] at hown' ⊢
        have s6 := tg.size
        rw [World.size_alloc, World.size_alloc] at s6
        have p6 : w6.ownsRow (q + 1) 81 3 u7 k (trC (pLn ap k)) := ow_turned PU.out tg (by decide)
        have l6 := (kq _ _ tg).set1 v'
        have r6 : Box2 (w6.setCell ⟨q, 1, none⟩ v') w.heap.size 25 _ _ := (Box2.turned RU.out tg (.inl (by decide))).set_other (show q ≠ w.heap.size by omega) v'
        have o6 : (w6.setCell ⟨q, 1, none⟩ v').ownsRow (q + 1) 74 2 v' (k + 1) (prC (cLn n k) ++ [.int .i64 ((k : Int) - 1), .int .i64 (k : Int)]) := ow_set hown' (show q < q + 1 by omega) v'
        have p6' := ow_set (a := ⟨q, 1, none⟩) p6 (show q < q + 1 by omega) v'
        have b6 : Below w.heap.size w (w6.setCell ⟨q, 1, none⟩ v') := (Below.trans BU.out (tg.below (show w.heap.size ≤ q + 1 by omega) (Below.size BU.out))).setCell (show w.heap.size ≤ q by omega) v'
        obtain ⟨Y, eY⟩ : ∃ Y, w6.setCell ⟨q, 1, none⟩ v' = Y := ⟨_, rfl⟩
        have sY : Y.heap.size = w6.heap.size := by rw [← eY]; simp [World.setCell]
        rw [eY] at l6 r6 o6 p6' b6 ⊢
        clear eY n0 n1 m0' m1' p6 hgrow hown' tg hnil b0 b1 kq ownU hnw h1c
        have bP : Below Y.heap.size Y (Y.alloc (.cells #[.int .i64 (ap * ((k : Int) + 1)), .int .i64 (k : Int), .int .i64 1] 81)) := (by repeat (first | exact Below.refl _ _ | assumption | refine below_alloc ?_ _ | refine Below.setCell ?_ (by first | omega | (simp; done) | (simp; omega)) _ | refine Below.alloc ?_ (by first | omega | (simp; done) | (simp; omega)) _ | refine Below.drew ?_))
        have pU := ow_on p6' bP
        have hnp := nw_cells3 Y (.int .i64 (ap * ((k : Int) + 1))) (.int .i64 (k : Int)) (.int .i64 1) 81
        have hpc : ∀ x ∈ [Value.int .i64 (ap * ((k : Int) + 1)), .int .i64 (k : Int), .int .i64 1], x.oneCell' = true := fun x hx => by
          simp only [List.mem_cons, List.not_mem_nil, or_false] at hx
          rcases hx with rfl | rfl | rfl <;> rfl
        have hbp : q + 1 ≤ (Y.alloc (.cells #[.int .i64 (ap * ((k : Int) + 1)), .int .i64 (k : Int), .int .i64 1] 81)).heap.size := by rw [World.size_alloc]; omega
        have L7 : Hid _ := l6.on bP
        have R7 : Hid _ := r6.on bP
        have O7 : Hid _ := ow_on o6 bP
        have B7 : Hid _ := below_on b6 bP
        clear l6 r6 o6 b6 p6' bP sY s6
        go_wp2_with (first
          | (at_builtin; refine wpList_append_own _ rfl _ _ 47 rfl (q + 1) 81 j0 _ 3 24 Tryd.underlying47 gi gz0 gz1 gz2 rfl (by decide) _ _ _ rfl pU ⟨Y.heap.size, 0, none⟩ 1 1 [.int .i64 (ap * ((k : Int) + 1)), .int .i64 (k : Int), .int .i64 1] rfl rfl hnp hpc (by unfold maxLen; omega) (by omega) hbp ?_; intro v7 w7 hown7 hgrow7 hnil7; obtain ⟨g7, cap7, rfl⟩ := ow_some hown7 (by omega); have tp := ow_grown pU hgrow7))
        go_roundw
        case rel => exact ⟨k + 1, v', by omega, by go_num, ⟨Box2.turned L7.out tp (.inl (by decide)), by rw [EC.out, prC_snoc]; exact ow_turned O7.out tp (by decide), Box2.turned R7.out tp (.inl (by decide)), by rw [EP.out, trC_snoc]; exact hown7, Below.trans B7.out (tp.below (show w.heap.size ≤ q + 1 by omega) (Below.size B7.out)), hrq⟩⟩
        case measure => simp [intOf] <;> omega
    · have hkS : k = n + 1 := by omega
      subst hkS
      have hi1 : ¬ ((n + 1 : Nat) : Int) ≤ (n : Int) := by omega
      have own := I.own
      have hl := cLn_len n (n + 1)
      obtain ⟨L, eL⟩ : ∃ L, cLn n (n + 1) = L := ⟨_, rfl⟩
      rw [eL] at own hl
      rw [← hl] at own
      obtain ⟨g, rfl, hC⟩ := CRow.of_own own
      obtain ⟨gp, rfl, hP⟩ := PRow.of_own I.pst (pLn_len ap (n + 1))
      rw [hl] at hC b1
      have hC' : CRow wr g (n + 1) lnF (lnT n) := by
        rcases hC with hC | ⟨b, m, f, c1, c2, c3, c4⟩
        · exact .inl hC
        · refine .inr ⟨b, m, f, c1, c2, c3, fun i hi j hj => (c4 i hi j hj).trans ?_⟩
          unfold two
          rw [← eL, (cLn_fst hi).1, (cLn_fst hi).2]
      have hP' : PRow wr gp (n + 1) (lnP ap) := by
        rcases hP with hP | ⟨b, m, f, c1, c2, c3, c4⟩
        · exact .inl hP
        · exact .inr ⟨b, m, f, c1, c2, c3, fun i hi j hj => (c4 i hi j hj).trans (by rw [pLn_at hi])⟩
      obtain ⟨r0, r1⟩ := I.res.cells
      obtain ⟨r2, r3⟩ := I.res.frozen
      have lr := I.res.lt
      have hne : ¬ w.heap.size = q := by omega
      have hne' : ¬ q = w.heap.size := by omega
      have fin : Below w.heap.size w ((wr.setCell ⟨w.heap.size, 0, none⟩ (.int .i64 (n : Int))).setCell ⟨w.heap.size, 1, none⟩ (.slice (gA g) (n + 1) (gC g))) := (I.bel.setCell (show w.heap.size ≤ (⟨w.heap.size, 0, none⟩ : Addr).block from Nat.le_refl _) _).setCell (show w.heap.size ≤ (⟨w.heap.size, 1, none⟩ : Addr).block from Nat.le_refl _) _
      have ts := Turned.of_set2 I.res (.int .i64 (n : Int)) (.slice (gA g) (n + 1) (gC g))
      have hCf := hC'.turned ts (by decide)
      have hPf : PRow ((wr.setCell ⟨w.heap.size, 0, none⟩ (.int .i64 (n : Int))).setCell ⟨w.heap.size, 1, none⟩ (.slice (gA g) (n + 1) (gC g))) gp (n + 1) (lnP ap) := by
        rcases hP' with hP | ⟨b, m, f, c1, c2, c3, c4⟩
        · exact .inl hP
        · exact .inr ⟨b, m, f, c1, c2, c3.turned ts (.inl (by decide)), c4⟩
      have CF : Hid _ := hCf
      have PF : Hid _ := hPf
      have FI : Hid _ := fin
      clear I hC hC' hP hP' hCf hPf fin ts own
      go_wp2
      exact bodyPost_ret (v := .tuple #[.agg #[.int .i64 (n : Int), .slice (gA g) (n + 1) (gC g)], .slice (gA gp) (n + 1) (gC gp)]) (by simp [results, Tryd.results12, go_sem, r0, r1]) rfl ⟨g, gp, rfl, CF.out, PF.out, FI.out⟩

end Go.Proofs.YtlpopfhaephfaaaDoor.Ps

namespace Go.Proofs.YtlpopfhaephfaaaDoor
open Go.RowKit

theorem tri {w : World} {g e m n k : Nat} {f : Nat → Value} {P : Nat → Nat → Int} (h : Blk w g e m f) (hm : n * 3 ≤ m) (hk : k < n) (hf : ∀ i, i < n → ∀ j, j < 3 → f (i * 3 + j) = evs P i j) :
    w.cell? ⟨g, k * 3, none⟩ = some (.int .i64 (P k 0)) ∧ w.cell? ⟨g, k * 3 + 1, none⟩ = some (.int .i64 (P k 1)) ∧ w.cell? ⟨g, k * 3 + 2, none⟩ = some (.int .i64 (P k 2)) :=
  ⟨by rw [h.cell (by omega)]; exact congrArg some (hf k hk 0 (by omega)), by rw [h.cell (by omega), hf k hk 1 (by omega)]; rfl, by rw [h.cell (by omega), hf k hk 2 (by omega)]; rfl⟩

set_option maxRecDepth 100000 in
set_option maxHeartbeats 4000000 in
theorem wEvents_same (lo hi lo' hi' m : Nat) (v v' : Value) (P : Nat → Nat → Int) (w : World) (hm : m ≤ 1048576) (h : SlF w 56 3 lo hi v m (evs P)) (h' : SlF w 56 3 lo' hi' v' m (evs P)) :
    Calls Tryd.prog 14 #[v, v'] w fun e w' => e = .returned (.bool true) ∧ Below w.heap.size w w' := by
  obtain ⟨ao, cap, rfl, h0⟩ := h
  obtain ⟨ao', cap', rfl, h0'⟩ := h'
  go_enter Tryd.func14, Tryd.ntmps14
  go_wp2
  go_loopw [13] (fun i wr => ∃ k : Nat, k ≤ m ∧ i = .int .i64 k ∧ Below w.heap.size w wr) (fun i _ => m - (intOf i).toNat)
  case atStart => exact ⟨0, Nat.zero_le _, rfl, Below.refl _ _⟩
  case round =>
    obtain ⟨k, hk, rfl, hbel⟩ := hrel
    by_cases hlt : k < m
    · have hi1 : (k : Int) < (m : Int) := by omega
      rcases h0 with h0 | ⟨g, mm, f, rfl, _, _, h2, h3, h4⟩
      · omega
      rcases h0' with h0' | ⟨g', mm', f', rfl, _, _, h2', h3', h4'⟩
      · omega
      obtain ⟨f0, f1, f2⟩ := tri (h3.below hbel h3.lt) h2 hlt h4
      obtain ⟨g0, g1, g2⟩ := tri (h3'.below hbel h3'.lt) h2' hlt h4'
      have HB : Hid (Below w.heap.size w wr) := hbel
      clear h3 h3' h4 h4' hbel
      go_wp2
      go_region
      go_wp2
      go_roundw
      case rel => exact ⟨k + 1, by omega, by go_num, HB.out.drew⟩
      case measure => simp [intOf]; omega
    · have hkn : k = m := by omega
      subst hkn
      go_wp2
      go_ret
      exact ⟨rfl, hbel⟩

end Go.Proofs.YtlpopfhaephfaaaDoor

namespace Go.Proofs.YtlpopfhaephfaaaDoor
open Go.RowKit

/-- append of whatever slice, in a region that goes straight on -/
theorem wpList_append_any {P : Program} {w : World} {ops : Array Oper} {rest : List Oper} {o : Oper} {a : Act} {Q : Exit → Act → World → Prop} (hgd : o.guard = none) (s x : Operand) (t : TypeId)
    (ho : o.op = .call { callee := .builtin .append, args := #[s, x], argTypes := #[t, t] })
    (base : Nat) (e : TypeId) (i : TypeInfo) (z : Value) (size bytes : Nat) (ht : P.underlying t = some (.slice e)) (hi : P.info? e = some i) (hz : i.zero = some z)
    (hsize : i.size = size) (hby : i.bytes = bytes) (hzs : z.cells.size = size) (hsz : 0 < size)
    (v : Value) (n : Nat) (xs : List Value) (hs : a.eval s = v) (hown : w.ownsRow base e size v n xs)
    (ao : Option Addr) (m c : Nat) (news : List Value) (hx : a.eval x = .slice ao m c) (hl : news.length = m * size) (hsrc : m = 0 ∨ ∃ ad, ao = some ad ∧ ∀ j u, news[j]? = some u → w.cell? (ad.add j) = some u) (h1 : ∀ u ∈ news, u.oneCell' = true)
    (h63 : n + m ≤ maxLen) (hbytes : (n + m) * bytes ≤ 140737488355328) (hbase : base ≤ w.heap.size)
    (h : ∀ v' w', w'.ownsRow base e size v' (n + m) (xs ++ news) → w.grownBy w' v.ownBlock → wpList P ops Q rest (a.put o.dst v') w') : wpList P ops Q (o :: rest) a w := by
  rcases hsrc with rfl | ⟨ad, rfl, hnews⟩
  · have hn : news = [] := List.eq_nil_of_length_eq_zero (by rw [hl]; omega)
    subst hn
    refine wpList_plain hgd fun _ hK => ?_
    have hr := run_append_zero (P := P) (w := w) base t o.type e i size ht hi v n xs hown ao c
    unfold Oper.wp execOp
    simp only [ho, resolve, invoke, builtin, Sem.run_bind, Sem.run_pure, Result.andThen_ok, List.map_toArray, List.map_cons, List.map_nil, hs, hx, hr]
    exact hK _ _ (h v w (by simpa using hown) (World.grownBy.refl _ _))
  · exact wpList_append_own w hgd s x t ho base e i z size bytes ht hi hz hsize hby hzs hsz v n xs hs hown ad m c news hx hl hnews h1 h63 hbytes hbase (fun v' w' a b _ => h v' w' a b)

end Go.Proofs.YtlpopfhaephfaaaDoor

namespace Go.Proofs.YtlpopfhaephfaaaDoor
open Go.RowKit Go.Maps Go.Sort

theorem hnewo (w : World) (o : Obj) : (w.alloc o).heap[w.heap.size]? = some o := by
  unfold World.alloc
  simp

theorem implRun_bad (S : Int) (g n m ce : Nat) (ae : Option Addr) (F T : Nat → Int) (w : World) (hm : m ≤ 1048576) (hrow : CRow w g n F T) (hb : ¬ (lokZ S n F T = 0 ∧ m ≤ 2000)) :
    Calls Tryd.prog 10 #[.agg #[.int .i64 S, .slice (gA g) n (gC g)], .slice ae m ce] w fun e w' => e = .returned (.slice none 0 0) ∧ Below w.heap.size w w' := by
  have kc := fun o => runOk_any S g n m ce ae F T _ hm (hrow.alloc o)
  have e0 : (lokZ S n F T == 0 && decide (m ≤ 2000)) = false := by
    cases h1 : (lokZ S n F T == 0)
    · rfl
    · simp only [beq_iff_eq] at h1
      simp only [Bool.true_and, decide_eq_false_iff_not]
      exact fun h => hb ⟨h1, h⟩
  rw [e0] at kc
  go_enter Tryd.func10, Tryd.ntmps10
  go_wp2_with fail
  refine (kc _).mono ?_
  rintro e w1 ⟨rfl, hb1⟩
  have B1 := below_on (show Below w.heap.size w _ from (by repeat (first | exact Below.refl _ _ | assumption | refine below_alloc ?_ _ | refine Below.setCell ?_ (by first | omega | (simp; done) | (simp; omega)) _ | refine Below.alloc ?_ (by first | omega | (simp; done) | (simp; omega)) _ | refine Below.drew ?_))) hb1
  go_wp2
  go_ret
  exact ⟨rfl, B1⟩

theorem implBegin_nice (S : Int) (g n ns : Nat) (F T : Nat → Int) (w : World) (hrow : CRow w g n F T) (hl : lokZ S n F T = 0) (hS : (ns : Int) = S) :
    Calls Tryd.prog 15 #[.agg #[.int .i64 S, .slice (gA g) n (gC g)]] w fun e w' => ∃ a1 c1 a2 c2, e = .returned (.agg #[.bool true, .slice a1 ns c1, .slice a2 n c2]) ∧ Lst w' w.heap.size w'.heap.size (.slice a1 ns c1) ns (fun _ => sec0) (.slice a2 n c2) n (fun _ => false) ∧ Below w.heap.size w w' := by
  refine (implBegin_ok S g n F T w hrow hl).mono ?_
  rintro e w' ⟨v, rfl, hB, hb⟩
  unfold BegF at hB
  simp only [if_true] at hB
  rw [show S.toNat = ns by omega] at hB
  obtain ⟨_, _, rfl, h1, h2⟩ := hB
  obtain ⟨a1, c1, rfl, _⟩ := id h1
  obtain ⟨a2, c2, rfl, _⟩ := id h2
  exact ⟨a1, c1, a2, c2, rfl, ⟨h1, h2⟩, hb⟩

/-- a board's box as it is laid -/
theorem bd_box (W : World) : Blk (W.alloc (.cells #[.int .i64 0, .slice none 0 0, .map none, .bool false, .slice none 0 0, .slice none 0 0] 78)) W.heap.size 78 6 (fun i => #[.int .i64 0, .slice none 0 0, .map none, .bool false, .slice none 0 0, .slice none 0 0][i]!) :=
  Blk.new W #[.int .i64 0, .slice none 0 0, .map none, .bool false, .slice none 0 0, .slice none 0 0] _ _ (fun i hi => by simp at hi; match i, hi with | 0, _ => rfl | 1, _ => rfl | 2, _ => rfl | 3, _ => rfl | 4, _ => rfl | 5, _ => rfl)

theorem bd_end {w2 W : World} {bb : Nat} {f : Nat → Value} {S : Int} {g n B ns lo hi : Nat} {F T : Nat → Int} {X : Nat → Sec} {D : Nat → Bool} {v1 v2 : Value} (hZ : Blk W bb 78 6 f) (hb : Below w2.heap.size w2 W) (h1 : w2.heap.size ≤ bb) (gB : Grp W B (2 * n) (zsAt F T n)) (hL : Lst W lo hi v1 ns X v2 n D) (hlo : w2.heap.size ≤ lo) (hlh : lo ≤ hi) (hhi : hi ≤ W.heap.size) :
    ∀ U, U = ((((((W.setCell ⟨bb, 0, none⟩ (.int .i64 S)).setCell ⟨bb, 1, none⟩ (.slice (gA g) n (gC g))).setCell ⟨bb, 2, none⟩ (.map (some B))).setCell ⟨bb, 3, none⟩ (.bool true)).setCell ⟨bb, 4, none⟩ v1).setCell ⟨bb, 5, none⟩ v2) →
    ∃ bb' B' v1' v2' lo' hi', Value.pointer (some ⟨bb, 0, none⟩) = .pointer (some ⟨bb', 0, none⟩) ∧ w2.heap.size ≤ bb' ∧ Bd6 U bb' S g n B' true v1' v2' ∧ Grp U B' (2 * n) (zsAt F T n) ∧ Lst U lo' hi' v1' ns X v2' n D ∧ w2.heap.size ≤ lo' ∧ lo' ≤ hi' ∧ hi' ≤ U.heap.size ∧ Below w2.heap.size w2 U := by
  rintro U rfl
  obtain ⟨k1, k2⟩ := bd6_sets hZ S g n B true v1 v2
  exact ⟨bb, B, v1, v2, lo, hi, rfl, h1, k1, gB.turned k2 (by decide), ⟨hL.1.turned k2 (.inl (by decide)), hL.2.turned k2 (.inl (by decide))⟩, hlo, hlh, Nat.le_trans hhi k2.size, hb.trans (k2.below h1 hb.size)⟩

set_option maxRecDepth 100000 in
set_option maxHeartbeats 4000000 in
theorem implRun_ok (S : Int) (g n le he m ns : Nat) (F T : Nat → Int) (P : Nat → Nat → Int) (ve : Value) (w : World) (hrow : CRow w g n F T) (hev : SlF w 56 3 le he ve m (evs P)) (hl : lokZ S n F T = 0) (hS : (ns : Int) = S) (hm : m ≤ 2000) :
    Calls Tryd.prog 10 #[.agg #[.int .i64 S, .slice (gA g) n (gC g)], ve] w fun e w' => ∃ u, e = .returned u ∧ DnF w' w.heap.size w'.heap.size u m ns n (runC S n F T P) (fun _ => true) (fun k => runX S n F T P (k + 1)) (fun k => runD S n F T P (k + 1)) ∧ Below w.heap.size w w' := by
  obtain ⟨r1, r2, r3⟩ := lok_range hl
  obtain ⟨f1, f2, f3⟩ := lok_wf hl
  have hp : 0 < ns := by omega
  have hm' : m ≤ 1048576 := by omega
  obtain ⟨ae, ce, rfl, he0⟩ := id hev
  obtain ⟨i0, hi, hz0, hz1, hz2⟩ := info_parts Tryd.infoDn
  obtain ⟨Cs, zs, mk0⟩ := made_dones m
  have mk := fun W => mk0 W hm
  have cb := fun W hr => bySide_any S g n F T W hr r3 f1 f2 f3
  have cg := fun W hr => implBegin_nice S g n ns F T W hr hl hS
  have kc := fun o => runOk_any S g n m ce ae F T _ hm' (hrow.alloc o)
  have e0 : (lokZ S n F T == 0 && decide (m ≤ 2000)) = true := by simp [hl, hm]
  rw [e0] at kc
  clear e0 f1 f2 f3 mk0
  obtain ⟨V, eV⟩ : ∃ V, w.alloc (.cells #[.int .i64 S, .slice (gA g) n (gC g)] 25) = V := ⟨_, rfl⟩
  have sV : V.heap.size = w.heap.size + 1 := by rw [← eV]; simp
  have bV : Below w.heap.size w V := by rw [← eV]; exact (by repeat (first | exact Below.refl _ _ | assumption | refine below_alloc ?_ _ | refine Below.setCell ?_ (by first | omega | (simp; done) | (simp; omega)) _ | refine Below.alloc ?_ (by first | omega | (simp; done) | (simp; omega)) _ | refine Below.drew ?_))
  have bL : Blk V w.heap.size 25 2 (fun i => if i = 0 then .int .i64 S else .slice (gA g) n (gC g)) := by
    rw [← eV]
    exact Blk.new w #[.int .i64 S, .slice (gA g) n (gC g)] 25 _ (fun i hi => by simp at hi; match i, hi with | 0, _ => rfl | 1, _ => rfl)
  have P0 : ∀ W, Below V.heap.size V W → W.cell? ⟨w.heap.size, 0, none⟩ = some (.int .i64 S) ∧ W.cell? ⟨w.heap.size, 1, none⟩ = some (.slice (gA g) n (gC g)) := fun W hb => ⟨(bL.on hb).cell (i := 0) (by omega), (bL.on hb).cell (i := 1) (by omega)⟩
  have kc' := kc (.cells #[.int .i64 S, .slice (gA g) n (gC g)] 25)
  rw [eV] at kc'
  have EV : Hid _ := eV
  clear eV bL kc
  go_enter Tryd.func10, Tryd.ntmps10
  go_wp2_with fail
  rw [EV.out]
  refine kc'.mono ?_
  clear kc'
  rintro e w1 ⟨rfl, B1⟩
  have z1 : w.heap.size + 1 ≤ w1.heap.size := by have := B1.size; omega
  go_upto_region 4 with fail
  have O2 : (w1.alloc (.cells Cs 41)).ownsRow w.heap.size 41 4 (.slice (some ⟨w1.heap.size, 0, none⟩) 0 m) 0 [] := ⟨rfl, .inr ⟨w1.heap.size, m, Cs, rfl, by omega, hnewo w1 _, by omega, by unfold maxLen; omega, by rw [zs], by simp⟩⟩
  obtain ⟨w2, e2⟩ : ∃ w2, w1.alloc (.cells Cs 41) = w2 := ⟨_, rfl⟩
  have B2 : Below V.heap.size V w2 := by rw [← e2]; exact below_alloc B1 _
  have z2 : w1.heap.size < w2.heap.size := by rw [← e2]; simp
  rw [e2] at O2 ⊢
  clear e2 mk
  have R2 := hrow.on (below_on bV B2)
  go_cut [6] from 23 (fun q wc => ∃ bb B v1 v2 lo hi, q = .pointer (some ⟨bb, 0, none⟩) ∧ w2.heap.size ≤ bb ∧ Bd6 wc bb S g n B true v1 v2 ∧ Grp wc B (2 * n) (zsAt F T n) ∧ Lst wc lo hi v1 ns (fun _ => sec0) v2 n (fun _ => false) ∧ w2.heap.size ≤ lo ∧ lo ≤ hi ∧ hi ≤ wc.heap.size ∧ Below w2.heap.size w2 wc)
  case first =>
    have P1 : Hid (∀ W, Below w2.heap.size w2 W → _) := fun W hb => P0 W (below_on B2 hb)
    refine wp_region_any (by kernel_rfl) ?_
    refine InC.any (C := fun W => Below w2.heap.size w2 W) _ _ _ _ ?_
    have C0 : Below w2.heap.size w2 w2.drew := (Below.refl _ _).drew
    refine InC.take (i := 0) (v := .agg #[.int .i64 S, .slice (gA g) n (gC g)]) rfl (by kernel_rfl) (by kernel_rfl) (by kernel_rfl) (fun _ _ _ h => h) C0 (Or.inl ⟨by rfl, ?_⟩) ?_
    · intro W hW
      obtain ⟨k0, k1⟩ := P1.out W hW
      go_simp
    refine InC.take (i := 1) (v := .agg #[.int .i64 S, .slice (gA g) n (gC g)]) rfl (by kernel_rfl) (by kernel_rfl) (by kernel_rfl) (fun _ _ _ h => h) C0 (Or.inl ⟨by rfl, ?_⟩) ?_
    · intro W hW
      obtain ⟨k0, k1⟩ := P1.out W hW
      go_simp
    refine InC.take (i := 3) (v := .agg #[.int .i64 S, .slice (gA g) n (gC g)]) rfl (by kernel_rfl) (by kernel_rfl) (by kernel_rfl) (fun _ _ _ h => h) C0 (Or.inl ⟨by rfl, ?_⟩) ?_
    · intro W hW
      obtain ⟨k0, k1⟩ := P1.out W hW
      go_simp
    refine InC.next2 (i := 2) (j := 6) (by kernel_rfl) (InC.one rfl fun K hK => ?_) (InC.one rfl fun K hK => ?_)
    · go_simp
      refine (cb _ R2.drew).mono ?_
      rintro e wB ⟨B, rfl, hB0, gB, hbB⟩
      have CB : Below w2.heap.size w2 wB := below_on C0 hbB
      refine hK _ _ CB ?_
      clear hK K
      refine InC.next2 (i := 4) (j := 6) (by kernel_rfl) (InC.one rfl fun K hK => ?_) (InC.one rfl fun K hK => ?_)
      · go_simp
        refine (cg _ (R2.on CB)).mono ?_
        rintro e wG ⟨a1, c1, a2, c2, rfl, LG, hbG⟩
        have CG := below_on CB hbG
        have zG := hbG.size
        have zB := CB.size
        refine hK _ _ CG ?_
        clear hK K
        refine InC.take (i := 5) (v := .agg #[.int .i64 S, .slice (gA g) n (gC g), .map (some B), .bool true, .slice a1 ns c1, .slice a2 n c2]) rfl (by kernel_rfl) (by kernel_rfl) (by kernel_rfl) (fun _ _ _ h => h) CG (Or.inl ⟨by rfl, ?_⟩) ?_
        · intro W hW
          go_simp
        refine InC.next1 (i := 6) (by kernel_rfl) (InC.one rfl fun K hK => ?_)
        go_simp
        refine hK _ _ (below_alloc CG _) ?_
        clear hK K
        refine InC.next1 (i := 7) (by kernel_rfl) (InC.one rfl fun K hK => ?_)
        go_simp
        refine hK _ _ (below_alloc CG _) ?_
        clear hK K
        refine InC.done (by kernel_rfl) ?_
        go_wp2_with fail
        go_meet
        case rel => exact ⟨wG.heap.size, B, _, _, wB.heap.size, wG.heap.size, rfl, by omega, Bd6.lay _ _ _ _ _ _ _ _, (gB.on hbG).alloc _, LG.on (below_alloc (Below.refl _ _) _), by omega, by omega, by simp, below_alloc CG _⟩
      · go_simp
        have CA := below_alloc CB (.cells #[.int .i64 0, .slice none 0 0, .map none, .bool false, .slice none 0 0, .slice none 0 0] 78)
        refine hK _ _ CA ?_
        clear hK K
        refine InC.next1 (i := 4) (by kernel_rfl) (InC.one rfl fun K hK => ?_)
        go_simp
        refine (cg _ (R2.on CA)).mono ?_
        rintro e wG ⟨a1, c1, a2, c2, rfl, LG, hbG⟩
        have CG := below_on CA hbG
        have zG := hbG.size
        have zB := CB.size
        rw [World.size_alloc] at zG
        have hZ := (bd_box wB).on hbG
        have y0 := hZ.cell (i := 0) (by omega)
        have y1 := hZ.cell (i := 1) (by omega)
        have y2 := hZ.cell (i := 2) (by omega)
        have y3 := hZ.cell (i := 3) (by omega)
        have y4 := hZ.cell (i := 4) (by omega)
        have y5 := hZ.cell (i := 5) (by omega)
        have x0 := hZ.frozen 0
        have x1 := hZ.frozen 1
        have x2 := hZ.frozen 2
        have x3 := hZ.frozen 3
        have x4 := hZ.frozen 4
        have x5 := hZ.frozen 5
        refine hK _ _ CG ?_
        clear hK K
        refine InC.next1 (i := 5) (by kernel_rfl) (InC.one rfl fun K hK => ?_)
        go_simp
        refine hK _ _ CG ?_
        clear hK K
        refine InC.next1 (i := 7) (by kernel_rfl) (InC.one rfl fun K hK => ?_)
        go_simp
        have E := bd_end (S := S) (g := g) hZ CG (by omega) ((gB.alloc _).on hbG) LG (by simp; omega) (by simpa using zG) (Nat.le_refl _) _ rfl
        refine hK _ _ (by obtain ⟨_, _, _, _, _, _, _, _, _, _, _, _, _, _, h⟩ := E; exact h) ?_
        clear hK K
        refine InC.done (by kernel_rfl) ?_
        go_wp2_with fail
        go_meet
        case rel => exact E
    · go_simp
      have CA : Below w2.heap.size w2 (w2.alloc (.cells #[.int .i64 0, .slice none 0 0, .map none, .bool false, .slice none 0 0, .slice none 0 0] 78)).drew := (below_alloc (Below.refl _ _) _).drew
      refine hK _ _ CA ?_
      clear hK K
      refine InC.next1 (i := 2) (by kernel_rfl) (InC.one rfl fun K hK => ?_)
      go_simp
      refine (cb _ (R2.on CA)).mono ?_
      rintro e wB ⟨B, rfl, hB0, gB, hbB⟩
      have CB : Below w2.heap.size w2 wB := below_on CA hbB
      have zB := hbB.size
      refine hK _ _ CB ?_
      clear hK K
      refine InC.next1 (i := 4) (by kernel_rfl) (InC.one rfl fun K hK => ?_)
      go_simp
      refine (cg _ (R2.on CB)).mono ?_
      rintro e wG ⟨a1, c1, a2, c2, rfl, LG, hbG⟩
      have CG := below_on CB hbG
      have zG := hbG.size
      have zC := CB.size
      have hZ := ((bd_box w2).drew.on hbB).on hbG
      have y0 := hZ.cell (i := 0) (by omega)
      have y1 := hZ.cell (i := 1) (by omega)
      have y2 := hZ.cell (i := 2) (by omega)
      have y3 := hZ.cell (i := 3) (by omega)
      have y4 := hZ.cell (i := 4) (by omega)
      have y5 := hZ.cell (i := 5) (by omega)
      have x0 := hZ.frozen 0
      have x1 := hZ.frozen 1
      have x2 := hZ.frozen 2
      have x3 := hZ.frozen 3
      have x4 := hZ.frozen 4
      have x5 := hZ.frozen 5
      refine hK _ _ CG ?_
      clear hK K
      refine InC.next1 (i := 5) (by kernel_rfl) (InC.one rfl fun K hK => ?_)
      go_simp
      refine hK _ _ CG ?_
      clear hK K
      refine InC.next1 (i := 7) (by kernel_rfl) (InC.one rfl fun K hK => ?_)
      go_simp
      have E := bd_end (S := S) (g := g) hZ CG (Nat.le_refl _) (gB.on hbG) LG zC zG (Nat.le_refl _) _ rfl
      refine hK _ _ (by obtain ⟨_, _, _, _, _, _, _, _, _, _, _, _, _, _, h⟩ := E; exact h) ?_
      clear hK K
      refine InC.done (by kernel_rfl) ?_
      go_wp2_with fail
      go_meet
      case rel => exact E
  case rest =>
    obtain ⟨bb, B, u1, u2, lo, hi', rfl, hbb, hbd, gB, LB, hlo, hlh, hhi, hbc⟩ := hcut
    have Bc := below_on bV (below_on B2 hbc)
    have zw : w.heap.size < w2.heap.size := by omega
    have I0 : RunI wc w.heap.size w2.heap.size (.slice (some ⟨w1.heap.size, 0, none⟩) 0 m) 0 ns n (runC S n F T P) (fun k => runX S n F T P (k + 1)) (fun k => runD S n F T P (k + 1)) := ⟨fun _ => .slice none 0 0, fun _ => .slice none 0 0, fun _ => w2.heap.size, own_on O2 hbc, Nat.le_of_lt zw, Nat.le_refl _, fun i hi => by omega⟩
    have zc : w2.heap.size ≤ wc.heap.size := hbc.size
    clear O2 B2 B1 R2 P0 cb cg hbc EV bV
    go_wp2
    go_loopw [5, 25] (fun q i wr => ∃ (k : Nat) (u1 u2 : Value) (lo hi top : Nat), k ≤ m ∧ i = .int .i64 k ∧ Bd6 wr bb S g n B true u1 u2 ∧ Grp wr B (2 * n) (zsAt F T n) ∧ Lst wr lo hi u1 ns (runX S n F T P k) u2 n (runD S n F T P k) ∧ RunI wr w.heap.size top q k ns n (runC S n F T P) (fun k => runX S n F T P (k + 1)) (fun k => runD S n F T P (k + 1)) ∧ top ≤ wr.heap.size ∧ Below w.heap.size w wr) (fun _ i _ => m - (intOf i).toNat)
    case atStart => exact ⟨0, u1, u2, lo, hi', w2.heap.size, Nat.zero_le _, rfl, hbd, gB, LB, I0, zc, Bc⟩
    case round =>
      clear hbd gB LB I0 Bc hlo hlh hhi
      obtain ⟨k, u1, u2, lo, hi', top, hk, rfl, hbd, gB, LB, hI, htop, Bw⟩ := hrel
      by_cases hlt : k < m
      · rcases he0 with he0 | ⟨ge, me, fe, rfl, _, _, h2, h3, h4⟩
        · omega
        obtain ⟨c0, c1, c2⟩ := three (h3.on Bw) h2 hlt h4
        have hst := run_ok (P := P) hl hS k
        have hc := fun j hj => secOk_count ((stOk_parts hst).2.2.2.2 j hj)
        obtain ⟨a1, d1, rfl, _⟩ := id LB.1
        obtain ⟨a2, d2, rfl, _⟩ := id LB.2
        obtain ⟨gs, rfl⟩ := LB.1.addr hp
        have eX : runX S n F T P (k + 1) = nxtX S n F T (runX S n F T P k) (runD S n F T P k) (P k 0) (P k 1) (P k 2) := rfl
        have eD : runD S n F T P (k + 1) = bhD S n (runD S n F T P k) (P k 0) (P k 1) (P k 2) := rfl
        have eC : runC S n F T P k = bhC S n F T (runX S n F T P k) (runD S n F T P k) (P k 0) (P k 1) (P k 2) := rfl
        obtain ⟨op, eop⟩ : ∃ op, P k 0 = op := ⟨_, rfl⟩
        obtain ⟨f, ef⟩ : ∃ f, P k 1 = f := ⟨_, rfl⟩
        obtain ⟨d, ed⟩ : ∃ d, P k 2 = d := ⟨_, rfl⟩
        rw [eop] at c0 eX eD eC
        rw [ef] at c1 eX eD eC
        rw [ed] at c2 eX eD eC
        have kb := behind_any S op f d g n B lo hi' F T true gs d1 ns a2 d2 _ _ (wr.alloc (.cells #[.int .i64 op, .int .i64 f, .int .i64 d] 56)) hl hS hc ((hrow.on Bw).alloc _) (gB.alloc _) (LB.on (below_alloc (Below.refl _ _) _))
        unfold brdV at kb
        rw [← eC, ← eX, ← eD] at kb
        obtain ⟨C, eC'⟩ : ∃ C, runC S n F T P k = C := ⟨_, rfl⟩
        rw [eC'] at kb
        have EC : Hid _ := eC'
        obtain ⟨A1, A2, L, q1, q2, q3, q4⟩ := hI
        obtain ⟨y0, y1, y2, y3, y4, y5⟩ := hbd.cells
        have hbb' := Blk.lt hbd
        have hi1 : (k : Int) < (m : Int) := by omega
        clear eX eD eC eC' eop ef ed h3 h4 hst hc
        go_wp2_with fail
        refine kb.mono ?_
        clear kb
        rintro e w3 ⟨g', k1, a', k2, rfl, L3, hb3⟩
        have zU : wr.heap.size + 1 ≤ w3.heap.size := by have := hb3.size; simpa using this
        have hbU : Below wr.heap.size wr w3 := below_on (below_alloc (Below.refl _ _) _) hb3
        have bx := (Box4.lay w3 C true (.slice (some ⟨g', 0, none⟩) ns k1) (.slice a' n k2)).alloc (.cells #[.int .i64 C, .bool true, .slice (some ⟨g', 0, none⟩) ns k1, .slice a' n k2] 41)
        have hnw := new_cells4 (w3.alloc (.cells #[.int .i64 C, .bool true, .slice (some ⟨g', 0, none⟩) ns k1, .slice a' n k2] 41)) (.int .i64 C) (.bool true) (.slice (some ⟨g', 0, none⟩) ns k1) (.slice a' n k2) 41
        rw [World.size_alloc] at hnw
        have h1c : ∀ u ∈ [Value.int .i64 C, .bool true, .slice (some ⟨g', 0, none⟩) ns k1, .slice a' n k2], u.oneCell' = true := fun u hu => by
          simp only [List.mem_cons, List.not_mem_nil, or_false] at hu
          rcases hu with rfl | rfl | rfl | rfl <;> rfl
        obtain ⟨U, eU⟩ : ∃ U, (w3.alloc (.cells #[.int .i64 C, .bool true, .slice (some ⟨g', 0, none⟩) ns k1, .slice a' n k2] 41)).alloc (.cells #[.int .i64 C, .bool true, .slice (some ⟨g', 0, none⟩) ns k1, .slice a' n k2] 41) = U := ⟨_, rfl⟩
        have hb3U : Below w3.heap.size w3 U := by rw [← eU]; exact (by repeat (first | exact Below.refl _ _ | assumption | refine below_alloc ?_ _ | refine Below.setCell ?_ (by first | omega | (simp; done) | (simp; omega)) _ | refine Below.alloc ?_ (by first | omega | (simp; done) | (simp; omega)) _ | refine Below.drew ?_))
        have szU : U.heap.size = w3.heap.size + 1 + 1 := by rw [← eU]; simp
        rw [eU] at bx hnw
        have hU := below_on hbU hb3U
        have own3 := own_on q1 hU
        have EU : Hid _ := eU
        have q4' : ∀ i, i < k → L i ≤ L (i + 1) ∧ SlF U 43 5 (L i) (L (i + 1)) (A1 i) ns (secs (runX S n F T P (i + 1))) ∧ SlF U 4 1 (L i) (L (i + 1)) (A2 i) n (bools (runD S n F T P (i + 1))) := fun i hi => ⟨(q4 i hi).1, (q4 i hi).2.1.on hU, (q4 i hi).2.2.on hU⟩
        have L3' := L3.on hb3U
        have bd3 := hbd.on hU
        have gB3 := gB.on hU
        have BU := below_on Bw hU
        have Q4 : Hid _ := q4'
        have post : ∀ w4, U.grownBy w4 (Value.ownBlock _) → Box4 w4 w3.heap.size C true (.slice (some ⟨g', 0, none⟩) ns k1) (.slice a' n k2) := fun w4 hg => Blk.grown bx hg (fun e => by have := (q1.lt _ e).2; omega)
        have HP : Hid _ := post
        clear q4 q4' eU L3 hbd gB LB bx post hU hb3U
        go_wp2_with (first
          | (at_builtin; rw [EU.out]; refine wpList_append_own _ rfl _ _ 34 rfl w.heap.size 41 i0 _ 4 64 Tryd.underlying34 hi hz0 hz1 hz2 rfl (by decide) _ _ _ rfl own3 ⟨w3.heap.size + 1, 0, none⟩ 1 1 [.int .i64 C, .bool true, .slice (some ⟨g', 0, none⟩) ns k1, .slice a' n k2] rfl rfl hnw h1c (by unfold maxLen; omega) (by omega) (by have := BU.size; omega) ?_; intro v' w4 hown' hgrow hnil; obtain ⟨g5, cap5, rfl⟩ := own_some hown' (by omega); have b4 := HP.out w4 hgrow; obtain ⟨t0, t1, t2, t3⟩ := b4.cells; have tg := own_grown own3 hgrow; have bd4 := bd3.turned tg (by decide); obtain ⟨s0, s1, s2, s3, s4, s5⟩ := bd4.cells; have x3 := Blk.frozen bd4 3; have x4 := Blk.frozen bd4 4; have x5 := Blk.frozen bd4 5))
        obtain ⟨n1, n2⟩ := bd6_state (ok' := true) (v1' := .slice (some ⟨g', 0, none⟩) ns k1) (v2' := .slice a' n k2) bd4
        have I5 := RunI.step (X := fun k => runX S n F T P (k + 1)) (D := fun k => runD S n F T P (k + 1)) own3 q2 q3 Q4.out EC.out.symm L3' (by simp; omega) (by simpa using zU) hown' hgrow
        have B5 : Below w.heap.size w _ := (BU.trans (tg.below (Nat.le_refl _) BU.size)).trans (n2.below (B := w.heap.size) (by omega) (by have := BU.size; have := tg.size; omega))
        have z5 : w3.heap.size ≤ (((w4.setCell ⟨bb, 3, none⟩ (.bool true)).setCell ⟨bb, 4, none⟩ (.slice (some ⟨g', 0, none⟩) ns k1)).setCell ⟨bb, 5, none⟩ (.slice a' n k2)).heap.size := by have h1 := n2.size; have h2 := tg.size; omega
        go_roundw
        case rel => exact ⟨k + 1, _, _, _, _, _, by omega, by go_num, n1, (gB3.turned tg (by decide)).turned n2 (by decide), ⟨(L3'.1.turned tg (.inl (by decide))).turned n2 (.inl (by decide)), (L3'.2.turned tg (.inl (by decide))).turned n2 (.inl (by decide))⟩, I5.turned n2 (by decide) (by decide) (by decide), z5, B5⟩
        case measure => simp [intOf]; omega
      · have hkm : k = m := by omega
        subst hkm
        go_wp2
        go_ret
        exact ⟨_, rfl, hI.dones htop, Bw⟩

end Go.Proofs.YtlpopfhaephfaaaDoor

namespace Go.Proofs.YtlpopfhaephfaaaDoor
open Go.RowKit

theorem dnAt {w : World} {lo hi : Nat} {v : Value} {m ns nd k : Nat} {C : Nat → Int} {B : Nat → Bool} {X : Nat → Nat → Sec} {D : Nat → Nat → Bool} (h : DnF w lo hi v m ns nd C B X D) (hk : k < m) : ∃ g c u1 u2 lo' hi', v = .slice (some ⟨g, 0, none⟩) m c ∧ w.cell? ⟨g, k * 4, none⟩ = some (.int .i64 (C k)) ∧ w.cell? ⟨g, k * 4 + 1, none⟩ = some (.bool (B k)) ∧ w.cell? ⟨g, k * 4 + 2, none⟩ = some u1 ∧ w.cell? ⟨g, k * 4 + 3, none⟩ = some u2 ∧ SlF w 43 5 lo' hi' u1 ns (secs (X k)) ∧ SlF w 4 1 lo' hi' u2 nd (bools (D k)) := by
  obtain ⟨A1, A2, L, ⟨ao, c, rfl, h0 | ⟨g, m', f, rfl, _, _, h2, h3, h4⟩⟩, _, _, hh⟩ := h
  · omega
  · obtain ⟨c0, c1, c2, c3⟩ := four h3 h2 hk h4
    exact ⟨g, c, _, _, _, _, rfl, c0, c1, c2, c3, (hh k hk).2.1, (hh k hk).2.2⟩

theorem seAt {w : World} {lo hi : Nat} {u : Value} {n k : Nat} {X : Nat → Sec} (h : SlF w 43 5 lo hi u n (secs X)) (hk : k < n) : ∃ g c, u = .slice (some ⟨g, 0, none⟩) n c ∧ w.cell? ⟨g, k * 5, none⟩ = some (.int .i64 (X k).told) ∧ w.cell? ⟨g, k * 5 + 1, none⟩ = some (.int .i64 (X k).count) ∧ w.cell? ⟨g, k * 5 + 2, none⟩ = some (.bool (X k).lost) ∧ w.cell? ⟨g, k * 5 + 3, none⟩ = some (.bool (X k).sweep) ∧ w.cell? ⟨g, k * 5 + 4, none⟩ = some (.int .i64 (X k).last) := by
  obtain ⟨ao, c, rfl, h0 | ⟨g, m, f, rfl, _, _, h2, h3, h4⟩⟩ := h
  · omega
  · exact ⟨g, c, rfl, five h3 h2 hk h4⟩

end Go.Proofs.YtlpopfhaephfaaaDoor

namespace Go.Proofs.YtlpopfhaephfaaaDoor.Ps
open Go.RowKit

theorem Tryd.infoTi : (Tryd.prog.info? 3).map (fun i => (i.zero, i.size, i.bytes)) = some (some (.int .i64 0), 1, 8) := by kernel_rfl
theorem Tryd.infoTe : (Tryd.prog.info? 56).map (fun i => (i.zero, i.size, i.bytes)) = some (some (.agg #[.int .i64 0, .int .i64 0, .int .i64 0]), 3, 24) := by kernel_rfl

/-- the state's block, stored anew -/
theorem st_set {W : World} {b : Nat} {x y z : Value} (h : Box3 W b 39 x y z) (x' y' z' : Value) :
    Box3 (((W.setCell ⟨b, 0, none⟩ x').setCell ⟨b, 1, none⟩ y').setCell ⟨b, 2, none⟩ z') b 39 x' y' z' ∧
    Turned W (((W.setCell ⟨b, 0, none⟩ x').setCell ⟨b, 1, none⟩ y').setCell ⟨b, 2, none⟩ z') (· = 39) b (b + 1) := by
  have k := ((Blk.set h 0 x').set 1 y').set 2 z'
  refine ⟨k.congr (fun i hi => by match i, hi with | 0, _ => rfl | 1, _ => rfl | 2, _ => rfl), ?_⟩
  exact Turned.of_grown (grown_set (grown_set (grown_set (World.grownBy.refl _ _) _) _) _) (Nat.le_refl _) (by omega) rfl h

set_option maxRecDepth 100000 in
set_option maxHeartbeats 64000000 in
theorem train_small (a : Nat → Addr) (m1 c1 : Nat) (a1 : Option Addr) (C1 : Nat → Int) (w : World) (ha : Snt w a) (hc : Cod w w.heap.size a1 m1 C1) (hm1 : m1 ≤ 1048576) :
    Calls Tryd.prog 4 #[.slice a1 m1 c1] w fun e w' => e = .returned (.bool true) ∧ Below w.heap.size w w' := by
  have i1 : ¬ (1048576 : Int) < m1 := by omega
  obtain ⟨i0, hi, hz0, hz1, hz2⟩ := info_parts Tryd.infoTi
  obtain ⟨j0, gi, gz0, gz1, gz2⟩ := info_parts Tryd.infoTe
  obtain ⟨x0, x0'⟩ := wbV_range hc 0
  obtain ⟨x1, x1'⟩ := wbV_range hc 1
  obtain ⟨x2, x2'⟩ := wbV_range hc 2
  obtain ⟨x3, x3'⟩ := wbV_range hc 3
  obtain ⟨x4, x4'⟩ := wbV_range hc 4
  have kw0 := fun W hW => wByte_any w.heap.size m1 c1 0 a1 C1 W hW hm1 (by omega)
  have kw1 := fun W hW => wByte_any w.heap.size m1 c1 1 a1 C1 W hW hm1 (by omega)
  have kw2 := fun W hW => wByte_any w.heap.size m1 c1 2 a1 C1 W hW hm1 (by omega)
  have kw3 := fun W hW => wByte_any w.heap.size m1 c1 3 a1 C1 W hW hm1 (by omega)
  have kw4 := fun W hW => wByte_any w.heap.size m1 c1 4 a1 C1 W hW hm1 (by omega)
  have kwx : ∀ (k : Nat), k < 90 → ∀ W, Cod W w.heap.size a1 m1 C1 → Calls Tryd.prog 11 #[.slice a1 m1 c1, .int .i64 ((k : Int) + 3)] W fun e w' => e = .returned (.int .i64 (wbV C1 m1 (k + 3))) ∧ w' = W := fun k hk W hW => by
    have := wByte_any w.heap.size m1 c1 (k + 3) a1 C1 W hW hm1 (by omega)
    rwa [show ((k + 3 : Nat) : Int) = (k : Int) + 3 by omega] at this
  have xr := fun k => wbV_range hc (k + 3)
  obtain ⟨Y, eY⟩ : ∃ Y : Nat → Int, (fun k => wbV C1 m1 (k + 3)) = Y := ⟨_, rfl⟩
  have eY' : ∀ k, wbV C1 m1 (k + 3) = Y k := fun k => congrFun eY k
  simp only [eY'] at kwx xr
  obtain ⟨b0, eb0⟩ : ∃ b, wbV C1 m1 0 = b := ⟨_, rfl⟩
  obtain ⟨b1, eb1⟩ : ∃ b, wbV C1 m1 1 = b := ⟨_, rfl⟩
  obtain ⟨b2, eb2⟩ : ∃ b, wbV C1 m1 2 = b := ⟨_, rfl⟩
  obtain ⟨b3, eb3⟩ : ∃ b, wbV C1 m1 3 = b := ⟨_, rfl⟩
  obtain ⟨b4, eb4⟩ : ∃ b, wbV C1 m1 4 = b := ⟨_, rfl⟩
  rw [eb0] at x0 x0' kw0
  rw [eb1] at x1 x1' kw1
  rw [eb2] at x2 x2' kw2
  rw [eb3] at x3 x3' kw3
  rw [eb4] at x4 x4' kw4
  obtain ⟨n, en⟩ : ∃ n : Nat, 1 + b0 % 8 = (n : Int) := ⟨(1 + b0 % 8).toNat, by omega⟩
  have n1 : 1 ≤ n ∧ n ≤ 8 := by omega
  obtain ⟨n1, n2⟩ := n1
  obtain ⟨ap, eap⟩ : ∃ ap : Int, 1 + b1 % 90 = ap := ⟨_, rfl⟩
  have p1 : 1 ≤ ap ∧ ap ≤ 90 := by omega
  obtain ⟨p1, p2⟩ := p1
  obtain ⟨A, eA⟩ : ∃ A : Nat, b2 % 31 = (A : Int) := ⟨(b2 % 31).toNat, by omega⟩
  have A2 : A ≤ 30 := by omega
  have t0 : b0.tmod 8 = b0 % 8 := Int.tmod_eq_emod_of_nonneg x0
  have t1 : b1.tmod 90 = b1 % 90 := Int.tmod_eq_emod_of_nonneg x1
  have t2 : b2.tmod 31 = (A : Int) := by rw [Int.tmod_eq_emod_of_nonneg x2]; omega
  obtain ⟨r0, er0⟩ : ∃ r, b0 % 8 = r := ⟨_, rfl⟩
  obtain ⟨r1, er1⟩ : ∃ r, b1 % 90 = r := ⟨_, rfl⟩
  rw [er0] at t0 en
  rw [er1] at t1 eap
  have hr0 : 0 ≤ r0 ∧ r0 < 8 := by omega
  obtain ⟨hr0, hr0'⟩ := hr0
  have hr1 : 0 ≤ r1 ∧ r1 < 90 := by omega
  obtain ⟨hr1, hr1'⟩ := hr1
  have tB : ∀ k, (Y k).tmod 20 = Y k % 20 := fun k => Int.tmod_eq_emod_of_nonneg (xr k).1
  obtain ⟨B, eB⟩ : ∃ B : Nat → Int, (fun k => Y k % 20) = B := ⟨_, rfl⟩
  have eB' : ∀ k, Y k % 20 = B k := fun k => congrFun eB k
  have hB : ∀ k, 0 ≤ B k ∧ B k < 20 := fun k => by rw [← eB' k]; omega
  simp only [eB'] at tB
  have ax0 := zT_ax (A := A) hB A2
  have zr := fun j => zT_range (A := A) hB j
  have zm := fun i j => zT_mono (A := A) hB (i := i) (j := j)
  have zs : ∀ j, zT A B (j + 1) = zT A B j + (1 + B (A - j)) := fun j => rfl
  obtain ⟨Z, eZ⟩ : ∃ Z, zT A B = Z := ⟨_, rfl⟩
  have z0 : Z 0 = 0 := by rw [← eZ]; rfl
  rw [eZ] at ax0 zr zm zs
  have ZR : Hid _ := zr
  have ZM : Hid _ := zm
  have ZS : Hid _ := zs
  have TB : Hid _ := tB
  have XR : Hid _ := xr
  have HB' : Hid _ := hB
  have AX0 : Hid _ := ax0
  clear eb0 eb1 eb2 eb3 eb4 eA er0 er1 eB' eB eY eY' tB zr zm zs eZ xr hB ax0
  go_enter Tryd.func4, Tryd.ntmps4
  go_wp2_with fail
  refine (kw0 w hc).mono ?_
  rintro _ wz ⟨rfl, hz⟩
  rw [hz]
  clear hz wz
  go_wp2_with fail
  refine (kw1 w hc).mono ?_
  rintro _ wz ⟨rfl, hz⟩
  rw [hz]
  clear hz wz kw0 kw1
  go_wp2_with fail
  refine (madeLine_any n ap w (by omega) (by omega) (by omega) (by omega)).mono ?_
  rintro _ w1 ⟨g, gp, rfl, R1, P1, B1⟩
  obtain ⟨V, eV⟩ : ∃ V, w1.alloc (.cells #[.int .i64 (n : Int), .slice (gA g) (n + 1) (gC g)] 25) = V := ⟨_, rfl⟩
  have lay : Box2 V w1.heap.size 25 (.int .i64 (n : Int)) (.slice (gA g) (n + 1) (gC g)) := by rw [← eV]; exact Box2.lay _ _ _ _
  have row : CRow V g (n + 1) lnF (lnT n) := by rw [← eV]; exact R1.alloc _
  have pst : PRow V gp (n + 1) (lnP ap) := by rw [← eV]; exact P1.on (by repeat (first | exact Below.refl _ _ | assumption | refine below_alloc ?_ _ | refine Below.setCell ?_ (by first | omega | (simp; done) | (simp; omega)) _ | refine Below.alloc ?_ (by first | omega | (simp; done) | (simp; omega)) _ | refine Below.drew ?_))
  have bel : Below w.heap.size w V := by rw [← eV]; exact below_alloc B1 _
  have cod : Cod V w.heap.size a1 m1 C1 := hc.below bel
  obtain ⟨lb, elb⟩ : ∃ lb, w1.heap.size = lb := ⟨_, rfl⟩
  rw [elb] at lay
  have EV : Hid _ := eV
  have ELB : Hid _ := elb
  have own0 : V.ownsRow V.heap.size 3 1 (.slice none 0 0) 0 (inC (aT Z 0)) := World.ownsRow_nil _ _ _ _
  clear R1 P1 B1 hc elb eV t0 t1 hr0 hr0' hr1 hr1' en eap
  go_wp2_with fail
  rw [EV.out, ELB.out]
  refine (kw2 V cod).mono ?_
  rintro _ wz ⟨rfl, hz⟩
  rw [hz]
  clear hz wz kw2
  go_wp2
  go_loopw [7, 8, 9] (fun q i k wr => ∃ kk j : Nat, kk + j = A ∧ k = .int .i64 kk ∧ i = .int .i64 (Z j) ∧ wr.ownsRow V.heap.size 3 1 q j (inC (aT Z j)) ∧ Below V.heap.size V wr) (fun _ _ k _ => (intOf k).toNat)
  case atStart => exact ⟨A, 0, rfl, rfl, by rw [z0], own0, Below.refl _ _⟩
  case round =>
    clear own0 EV ELB
    obtain ⟨kk, j, hkj, rfl, rfl, own, hb⟩ := hrel
    by_cases hlt : 0 < kk
    · have hi1 : (0 : Int) < (kk : Int) := by omega
      have ez : Z (j + 1) = Z j + (1 + B kk) := by have := ZS.out j; rwa [show A - j = kk by omega] at this
      have EZ : Hid _ := ez
      have ha1 := (ZR.out j).1
      have ha2 := (ZR.out j).2
      have tb := TB.out kk
      have hb1 := (HB'.out kk).1
      have hb2 := (HB'.out kk).2
      have hy1 := (XR.out kk).1
      have hy2 := (XR.out kk).2
      have EX : Hid _ := aT_succ Z j
      obtain ⟨zj, ezj⟩ : ∃ z, Z j = z := ⟨_, rfl⟩
      rw [ezj] at ha1 ha2 EX EZ ⊢
      have cw := kwx kk (by omega)
      obtain ⟨yk, eyk⟩ : ∃ y, Y kk = y := ⟨_, rfl⟩
      obtain ⟨bk, ebk⟩ : ∃ y, B kk = y := ⟨_, rfl⟩
      rw [eyk] at tb hy1 hy2 cw
      rw [ebk] at tb hb1 hb2 EZ
      clear ez ezj eyk ebk
      have ownU := ow_on own (show Below wr.heap.size wr (wr.alloc (.cells #[.int .i64 zj] 3)) from (by repeat (first | exact Below.refl _ _ | assumption | refine below_alloc ?_ _ | refine Below.setCell ?_ (by first | omega | (simp; done) | (simp; omega)) _ | refine Below.alloc ?_ (by first | omega | (simp; done) | (simp; omega)) _ | refine Below.drew ?_)))
      have hnw : ∀ q u, [Value.int .i64 zj][q]? = some u → (wr.alloc (.cells #[.int .i64 zj] 3)).cell? ((⟨wr.heap.size, 0, none⟩ : Addr).add q) = some u := by
        intro q u hu
        have hq : q < 1 := (List.getElem?_eq_some_iff.1 hu).1
        obtain rfl : q = 0 := by omega
        simpa [Addr.add] using hu
      have h1c : ∀ x ∈ [Value.int .i64 zj], x.oneCell' = true := fun x hx => by
        simp only [List.mem_cons, List.not_mem_nil, or_false] at hx
        subst hx; rfl
      have hbX := below_alloc hb (.cells #[.int .i64 zj] 3)
      have hbq := hbX.size
      have HBX : Hid _ := hbX
      clear own hbX hb
      go_wp2_with (first
        | (at_builtin; refine wpList_append_own _ rfl _ _ 44 rfl V.heap.size 3 i0 _ 1 8 Tryd.underlying44 hi hz0 hz1 hz2 rfl (by decide) _ _ _ rfl ownU ⟨wr.heap.size, 0, none⟩ 1 1 [.int .i64 zj] rfl rfl hnw h1c (by unfold maxLen; omega) (by omega) hbq ?_; intro v' w6 hown' hgrow hnil; obtain ⟨g6, cap6, rfl⟩ := ow_some hown' (by omega); have tg := ow_grown ownU hgrow))
      have B6 : Below V.heap.size V w6 := Below.trans HBX.out (tg.below (Nat.le_refl _) hbq)
      refine (cw w6 (cod.below (B6.mono bel.size))).mono ?_
      rintro _ wz ⟨rfl, hz⟩
      rw [hz]
      clear hz wz cw ownU hnw h1c hbq HBX tg hgrow hnil
      have B6H : Hid _ := B6
      have OW6 : Hid _ := hown'
      clear B6 hown'
      go_wp2
      go_roundw
      case rel => exact ⟨kk - 1, j + 1, by omega, by go_num, by rw [EZ.out], by rw [EX.out]; exact OW6.out, B6H.out⟩
      case measure => simp [intOf] <;> omega
    · have hk0 : kk = 0 := by omega
      subst hk0
      obtain rfl : j = A := by omega
      obtain ⟨ga, rfl, ax⟩ := ARow.of_own own (aT_len Z j)
      have ax : ARow wr ga j Z := by
        rcases ax with h | ⟨b, m, f, c1, c2, c3, c4⟩
        · exact .inl h
        · exact .inr ⟨b, m, f, c1, c2, c3, fun i hi => (c4 i hi).trans (by show Value.int .i64 ((aT Z j).getD i 0) = _; rw [aT_at hi])⟩
      have cod := cod.below (hb.mono bel.size)
      have lay := lay.on hb
      have row := row.on hb
      have pst := pst.on hb
      have bel := below_on bel hb
      have snt := ha.on bel
      have hZ : ∀ x, x < j → 0 ≤ Z x ∧ Z x ≤ Z j := fun x hx => ⟨(ZR.out x).1, ZM.out x j (by omega)⟩
      have hza := ZR.out j
      have hm0 : 0 ≤ ap * ((n : Int) + 1) := Int.mul_nonneg (by omega) (by omega)
      have hm9 : ap * ((n : Int) + 1) ≤ 90 * 9 := Int.mul_le_mul p2 (by omega) (by omega) (by omega)
      obtain ⟨tt, ett⟩ : ∃ t, ap * ((n : Int) + 1) + Z j = t := ⟨_, rfl⟩
      have ETT : Hid _ := ett
      have tt0 : 0 ≤ tt := by omega
      have tt1 : tt ≤ 1500 := by omega
      have ttn : ¬ tt + 1 = 0 := by omega
      have hbb : 0 ≤ b3 + 256 * b4 := by omega
      have em := Int.tmod_eq_emod_of_nonneg (b := tt + 1) hbb
      have q1 := Int.emod_nonneg (b3 + 256 * b4) ttn
      have q2 := Int.emod_lt_of_pos (b3 + 256 * b4) (show (0 : Int) < tt + 1 by omega)
      obtain ⟨mid, emid⟩ : ∃ t, (b3 + 256 * b4) % (tt + 1) = t := ⟨_, rfl⟩
      rw [emid] at em q1 q2
      have q3 : mid ≤ tt := by omega
      have kp := fun fr t2 W (hW : Below wr.heap.size wr W) f1 f2 f3 => passing_ln n ap g gp ga j Z fr t2 W (by omega) (by omega) (by omega) (by omega) (row.on hW) (pst.on hW) (ax.on hW) AX0.out f1 f2 f3
      have KP : Hid _ := kp
      have LAY : Hid (Box2 wr lb 25 (.int .i64 (n : Int)) (.slice (gA g) (n + 1) (gC g))) := lay
      have ROW : Hid (CRow wr g (n + 1) lnF (lnT n)) := row
      have BEL : Hid _ := bel
      have SNT : Hid (Snt wr a) := snt
      have OKH : Hid (lokZ (n : Int) (n + 1) lnF (lnT n) = 0) := ln_ok n1 (by omega)
      have HZ : Hid (∀ x, x < j → 0 ≤ Z x ∧ Z x ≤ Z j) := hZ
      have AXH : Hid (ARow wr ga j Z) := ax
      obtain ⟨y0, y1⟩ := lay.cells
      have ly := lay.lt
      have c3 := kw3 wr cod
      have c4 := kw4 wr cod
      have za1 := hza.1
      have za2 := hza.2
      clear own hb kp cod kw3 kw4 kwx lay row pst bel ax snt hkj emid q2 hZ hza ZR ZM ZS TB XR HB' AX0 hlt ha hz0 hz1 hz2 hi hbb
      go_wp2_with fail
      refine c3.mono ?_
      rintro _ wz ⟨rfl, hz⟩
      rw [hz]
      clear hz wz c3
      go_wp2_with fail
      refine c4.mono ?_
      rintro _ wz ⟨rfl, hz⟩
      rw [hz]
      clear hz wz c4
      go_wp2_with fail
      refine (KP.out 0 mid wr (Below.refl _ _) (by omega) (by omega) (by omega)).mono ?_
      rintro _ w2 ⟨v1, E1, rfl, ⟨s1, e1⟩, l1, o1, hb2⟩
      have mul9 : j * (n + 1) ≤ 30 * 9 := Nat.mul_le_mul A2 (by omega)
      clear y0 y1 ly
      obtain ⟨y0, y1⟩ := (Box2.on LAY.out hb2).cells
      have ly := (Box2.on LAY.out hb2).lt
      go_wp2_with fail
      refine (KP.out mid tt w2 hb2 (by omega) (by omega) (by omega)).mono ?_
      rintro _ w3 ⟨v2, E2, rfl, ⟨s2, e2⟩, l2, o2, hb3⟩
      have o1 := ow_on o1 hb3
      have ob2 := o2.1
      have hb3' := below_on hb2 hb3
      clear y0 y1 ly
      obtain ⟨y0, y1⟩ := (Box2.on LAY.out hb3').cells
      have ly := (Box2.on LAY.out hb3').lt
      go_wp2_with fail
      refine (KP.out 0 tt w3 hb3' (by omega) (by omega) (by omega)).mono ?_
      rintro _ w4 ⟨v3, E3, rfl, ⟨s3, e3⟩, l3, o3, hb4⟩
      have o1 := ow_on o1 hb4
      have o2 := ow_on o2 hb4
      have hb4' := below_on hb3' hb4
      have hZ0 : ∀ x, x < j → 0 ≤ Z x := fun x hx => (HZ.out x hx).1
      have cat := pas_cat q1 q3 s1 e1 s2 e2 s3 e3
      have TR1 : Hid _ := trn_of n1 p1 hZ0 s1 e1
      have TR3 : Hid _ := trn_of n1 p1 hZ0 s3 e3
      have hln := full_len n1 p1 HZ.out ETT.out s3 e3
      have hfz := fun s hs => full_zero n1 p1 HZ.out ETT.out s3 e3 (s := s) hs
      have hmi := fun s hs => mid_in n1 p1 hZ0 s1 e1 (s := s) hs
      have cat' : E1.map evT ++ E2.map evT = E3.map evT := by rw [← List.map_append, cat]
      have len3 : (E3.map evT).length ≤ 270 := by rw [List.length_map]; omega
      obtain ⟨L1, eL1⟩ : ∃ L, E1.map evT = L := ⟨_, rfl⟩
      obtain ⟨L2, eL2⟩ : ∃ L, E2.map evT = L := ⟨_, rfl⟩
      obtain ⟨L3, eL3⟩ : ∃ L, E3.map evT = L := ⟨_, rfl⟩
      rw [eL1, eL2, eL3] at cat'
      rw [eL1] at o1 TR1 hmi
      rw [eL2] at o2
      rw [eL3] at o3 TR3 hln hfz len3
      have lens : L1.length + L2.length = L3.length := by rw [← cat', List.length_append]
      have cat3 : trC L1 ++ trC L2 = trC L3 := by rw [← cat', trC_app]
      have HFZ : Hid (∀ s, s < n → trZ (n : Int) (n + 1) lnF (lnT n) (trP L3) L3.length s = 0) := hfz
      have HMI : Hid (∀ s, s < n → trZ (n : Int) (n + 1) lnF (lnT n) (trP L1) L1.length s = sumZ (inS ap mid Z s) j) := hmi
      have sl1 := ow_slf o1 (fun i hi j hj => trC_get L1 i j hi hj)
      have sl2 := ow_slf o2 (fun i hi j hj => trC_get L2 i j hi hj)
      have sl3 := ow_slf o3 (fun i hi j hj => trC_get L3 i j hi hj)
      obtain ⟨ao1, k1, ev1, _⟩ := id sl1
      obtain ⟨ao2, k2, ev2, _⟩ := id sl2
      obtain ⟨ao3, k3, ev3, _⟩ := id sl3
      subst ev1 ev2 ev3
      have bX : Below w4.heap.size w4 (w4.alloc (.cells #[] 56)) := (by repeat (first | exact Below.refl _ _ | assumption | refine below_alloc ?_ _ | refine Below.setCell ?_ (by first | omega | (simp; done) | (simp; omega)) _ | refine Below.alloc ?_ (by first | omega | (simp; done) | (simp; omega)) _ | refine Below.drew ?_))
      have own1 := own_empty w4 w4.heap.size 56 3 (Nat.le_refl _)
      have hs1 := src_on sl1 bX
      have hl1 := trC_len L1
      have hl2 := trC_len L2
      have h1c := trC_one L1
      have h2c := trC_one L2
      have S1 : Hid _ := sl1
      have S2 : Hid _ := sl2
      have S3 : Hid _ := sl3
      have B4 : Hid (Below wr.heap.size wr w4) := hb4'
      have bXs := bX.size
      have BX : Hid _ := bX
      have CAT : Hid _ := cat3
      have LENS : Hid _ := lens
      clear y0 y1 ly s1 e1 l1 o1 hb2 s2 e2 l2 o2 hb3 s3 e3 l3 o3 hb4 hb3' hb4' ob2 hZ0 cat hfz hmi cat' eL1 eL2 eL3 sl1 sl2 sl3 bX cat3 KP em
      go_upto_region 18 with fail
      go_wp2_with (first
        | (at_builtin; refine wpList_append_any rfl _ _ 26 rfl w4.heap.size 56 j0 _ 3 24 Tryd.underlying26 gi gz0 gz1 gz2 rfl (by decide) _ _ _ rfl own1 ao1 L1.length k1 (trC L1) rfl hl1 hs1 h1c (by unfold maxLen; omega) (by omega) bXs ?_; intro va Wa owna gra; have Ca : Below w4.heap.size w4 Wa := Below.trans BX.out ((ow_grown own1 gra).below (Nat.le_refl _) bXs); have hs2 := src_on S2.out Ca; have bXa := Ca.size; clear own1 hs1 gra)
        | (at_builtin; refine wpList_append_any rfl _ _ 26 rfl w4.heap.size 56 j0 _ 3 24 Tryd.underlying26 gi gz0 gz1 gz2 rfl (by decide) _ _ _ rfl owna ao2 L2.length k2 (trC L2) rfl hl2 hs2 h2c (by unfold maxLen; omega) (by omega) bXa ?_; intro vb Wb ownb grb; have Cb : Below w4.heap.size w4 Wb := Below.trans Ca ((ow_grown owna grb).below (Nat.le_refl _) bXa); clear owna hs2 grb))
      have sb : SlF Wb 56 3 w4.heap.size Wb.heap.size vb L3.length (evs (trP L3)) := by
        have e : 0 + L1.length + L2.length = L3.length := by have := LENS.out; omega
        have e2 : [] ++ trC L1 ++ trC L2 = trC L3 := by rw [List.nil_append]; exact CAT.out
        rw [e, e2] at ownb
        exact ow_slf ownb (fun i hi j hj => trC_get L3 i j hi hj)
      refine (wEvents_same _ _ _ _ L3.length _ _ (trP L3) Wb (by omega) sb (SlF.on S3.out Cb)).mono ?_
      rintro _ w5 ⟨rfl, b5⟩
      have C5 := below_on Cb b5
      have B5 : Below wr.heap.size wr w5 := below_on B4.out C5
      clear sb ownb b5 Cb Ca CAT S2 BX hl1 hl2 h1c h2c bXs bXa
      have row5 := CRow.on ROW.out B5
      have sl5 := SlF.on S3.out C5
      have snt5 : Snt w5 a := Snt.on SNT.out B5
      have bV : Below w5.heap.size w5 (w5.alloc (.cells #[.int .i64 (n : Int), .slice (gA g) (n + 1) (gC g)] 25)) := below_alloc (Below.refl _ _) _
      have kh := honest_of (n : Int) g (n + 1) _ a w5 _ _ snt5 rfl (lie_ok g (n + 1) _ _ L3.length n k3 ao3 lnF (lnT n) (trP L3) a _ (row5.on bV) (sl5.on bV) (snt5.on bV) OKH.out (by omega))
      obtain ⟨y0, y1⟩ := (Box2.on LAY.out B5).cells
      have ly := (Box2.on LAY.out B5).lt
      have B5H : Hid _ := B5
      have C5H : Hid _ := C5
      clear row5 sl5 snt5 bV B5 C5
      go_wp2_with fail
      refine kh.mono ?_
      rintro _ w6 ⟨o, rfl, hq, hb6⟩
      obtain rfl : o = none := hq.2 (trn_hon TR3.out)
      have B6 := below_on B5H.out hb6
      have C6 := below_on C5H.out hb6
      have row6 := CRow.on ROW.out B6
      have sl6 := SlF.on S1.out C6
      have kr := implRun_ok (n : Int) g (n + 1) _ _ L1.length n lnF (lnT n) (trP L1) _ w6 row6 sl6 OKH.out rfl (by omega)
      clear y0 y1 ly kh hq hb6 B5H C5H S1
      obtain ⟨y0, y1⟩ := (Box2.on LAY.out B6).cells
      have ly := (Box2.on LAY.out B6).lt
      have B6H : Hid _ := B6
      have C6H : Hid _ := C6
      clear row6 sl6 B6 C6
      go_wp2_with fail
      refine kr.mono ?_
      rintro _ w7 ⟨r1, rfl, D1, b7⟩
      have B7 := below_on B6H.out b7
      have C7 := below_on C6H.out b7
      have row7 := CRow.on ROW.out B7
      have kb := implBegin_nice (n : Int) g (n + 1) n lnF (lnT n) w7 row7 OKH.out rfl
      obtain ⟨_, _, _, ⟨ar, cr, er, _⟩, _⟩ := id D1
      subst er
      clear y0 y1 ly kr b7 B6H C6H
      obtain ⟨y0, y1⟩ := (Box2.on LAY.out B7).cells
      have ly := (Box2.on LAY.out B7).lt
      have B7H : Hid _ := B7
      have C7H : Hid _ := C7
      have D1H : Hid _ := D1
      clear row7 B7 C7 D1
      go_wp2_with fail
      refine kb.mono ?_
      rintro _ w8 ⟨as0, cs0, ab0, cb0, rfl, Ls, b8⟩
      obtain ⟨V8, eV8⟩ : ∃ V, w8.alloc (.cells #[.bool true, .slice as0 n cs0, .slice ab0 (n + 1) cb0] 39) = V := ⟨_, rfl⟩
      have B8 := below_on B7H.out b8
      have C8 := below_on C7H.out b8
      have bV8 : Below w8.heap.size w8 V8 := by rw [← eV8]; exact below_alloc (Below.refl _ _) _
      have st8 : Box3 V8 w8.heap.size 39 (.bool true) (.slice as0 n cs0) (.slice ab0 (n + 1) cb0) := by rw [← eV8]; exact Box3.lay _ _ _ _ _
      have hsb : wr.heap.size ≤ w8.heap.size := B8.size
      have hsb4 : w4.heap.size ≤ w8.heap.size := C8.size
      have hsw : w.heap.size ≤ wr.heap.size := Below.size BEL.out
      have D8 := DnF.on D1H.out (below_on b8 bV8)
      have sec8 := SlF.on Ls.1 bV8
      have B8' := below_on B8 bV8
      have C8' := below_on C8 bV8
      have lay8 := Box2.on LAY.out B8'
      obtain ⟨sb, esb⟩ : ∃ b, w8.heap.size = b := ⟨_, rfl⟩
      rw [esb] at st8 hsb hsb4
      have EV8 : Hid _ := eV8
      have ESB : Hid _ := esb
      obtain ⟨l1, el1⟩ : ∃ l, L1.length = l := ⟨_, rfl⟩
      have LEN1 : Hid (L1.length = l1) := el1
      have LAY8 : Hid (Box2 V8 lb 25 (.int .i64 (n : Int)) (.slice (gA g) (n + 1) (gC g))) := lay8
      have BV8 : Hid (Below wr.heap.size wr V8) := B8'
      have CV8 : Hid (Below w4.heap.size w4 V8) := C8'
      rw [el1] at D8 lens ⊢
      have D8H : Hid _ := D8
      have l1b : l1 ≤ 270 := by omega
      have LENS' : Hid _ := lens
      have X8 : Hid (SlF V8 43 5 _ _ (.slice as0 n cs0) n (secs fun _ => sec0)) := sec8
      have ST8 : Hid (Box3 V8 sb 39 (.bool true) (.slice as0 n cs0) (.slice ab0 (n + 1) cb0)) := st8
      clear y0 y1 ly kb b8 B7H C7H D1H Ls eV8 bV8 esb el1 lay8 B8 C8 B8' C8' D8 lens sec8 LENS
      obtain ⟨u0, u1', u2⟩ := st8.cells
      have ulb := Blk.lt st8
      have uf0 := Blk.frozen st8 0
      have uf1 := Blk.frozen st8 1
      have uf2 := Blk.frozen st8 2
      clear st8
      rcases l1 with _ | e
      case' zero =>
        go_upto_region 24 with fail
        rw [EV8.out, ESB.out]
        obtain ⟨U, eU⟩ : ∃ U, V8 = U := ⟨_, rfl⟩
        obtain ⟨av, eav⟩ : ∃ x, as0 = x := ⟨_, rfl⟩
        obtain ⟨cs, ecs⟩ : ∃ x, cs0 = x := ⟨_, rfl⟩
        obtain ⟨ab, eab⟩ : ∃ x, ab0 = x := ⟨_, rfl⟩
        obtain ⟨cb, ecb⟩ : ∃ x, cb0 = x := ⟨_, rfl⟩
        obtain ⟨lo, elo⟩ : ∃ x, w7.heap.size = x := ⟨_, rfl⟩
        obtain ⟨hi', ehi⟩ : ∃ x, w8.heap.size = x := ⟨_, rfl⟩
        have BOX : Hid (Box3 U sb 39 (.bool true) (.slice av n cs) (.slice ab (n + 1) cb)) := by subst eU eav ecs eab ecb; exact ST8.out
        have SEC : Hid (SlF U 43 5 lo hi' (.slice av n cs) n (secs (runX (n : Int) (n + 1) lnF (lnT n) (trP L1) L1.length))) := by
          rw [LEN1.out]; subst eU eav ecs elo ehi; exact X8.out
        have LAYU : Hid (Box2 U lb 25 (.int .i64 (n : Int)) (.slice (gA g) (n + 1) (gC g))) := by subst eU; exact LAY8.out
        have BU : Hid (Below wr.heap.size wr U) := by subst eU; exact BV8.out
        have CU : Hid (Below w4.heap.size w4 U) := by subst eU; exact CV8.out
        rw [eU]
        clear EV8 ESB X8 ST8 LAY8 BV8 CV8 D8H u0 u1' u2 ulb uf0 uf1 uf2 eav ecs eab ecb elo ehi eU
      case' succ =>
        obtain ⟨g2, c2, v1, v2, lo, hi', e2, d0, d1, d2, d3, sS, sB⟩ := dnAt (show DnF V8 _ _ _ _ _ _ _ _ _ _ from D8H.out) (Nat.lt_succ_self e)
        cases e2
        obtain ⟨av, cs, es1, _⟩ := id sS
        subst es1
        obtain ⟨ab, cb, eb1, _⟩ := id sB
        subst eb1
        obtain ⟨k1', k2'⟩ := st_set (show Box3 V8 sb _ _ _ _ from ST8.out) (.bool true) (.slice av n cs) (.slice ab (n + 1) cb)
        obtain ⟨U, eU⟩ : ∃ U, ((V8.setCell ⟨sb, 0, none⟩ (.bool true)).setCell ⟨sb, 1, none⟩ (.slice av n cs)).setCell ⟨sb, 2, none⟩ (.slice ab (n + 1) cb) = U := ⟨_, rfl⟩
        rw [eU] at k1' k2'
        have BOX : Hid (Box3 U sb 39 (.bool true) (.slice av n cs) (.slice ab (n + 1) cb)) := k1'
        have SEC : Hid (SlF U 43 5 lo hi' (.slice av n cs) n (secs (runX (n : Int) (n + 1) lnF (lnT n) (trP L1) L1.length))) := by
          rw [LEN1.out]; exact sS.turned k2' (.inl (by decide))
        have LAYU : Hid (Box2 U lb 25 (.int .i64 (n : Int)) (.slice (gA g) (n + 1) (gC g))) := Box2.turned LAY8.out k2' (.inl (by decide))
        have BU : Hid (Below wr.heap.size wr U) := Below.trans BV8.out (k2'.below hsb (Below.size BV8.out))
        have CU : Hid (Below w4.heap.size w4 U) := Below.trans CV8.out (k2'.below hsb4 (Below.size CV8.out))
        have EU : Hid _ := eU
        clear sS sB k1' k2' eU
        go_upto_region 22 with fail
        rw [EV8.out, ESB.out]
        go_upto_region 24 with fail
        rw [EU.out]
        clear EV8 ESB X8 ST8 LAY8 BV8 CV8 D8H u0 u1' u2 ulb uf0 uf1 uf2 EU d0 d1 d2 d3
      all_goals
        have JR1 : Hid (∀ s : Nat, jusX (trZ (n : Int) (n + 1) lnF (lnT n) (trP L1) L1.length s) (runX (n : Int) (n + 1) lnF (lnT n) (trP L1) L1.length s)) := (jus_run OKH.out (by rw [LEN1.out]; omega) (TrnF.op TR1.out) (TrnF.nn TR1.out) L1.length (Nat.le_refl _)).1
        have JR3 : Hid (∀ s : Nat, jusX (trZ (n : Int) (n + 1) lnF (lnT n) (trP L3) L3.length s) (runX (n : Int) (n + 1) lnF (lnT n) (trP L3) L3.length s)) := (jus_run OKH.out (by omega) (TrnF.op TR3.out) (TrnF.nn TR3.out) L3.length (Nat.le_refl _)).1
        obtain ⟨ao, eao⟩ : ∃ x, gA ga = x := ⟨_, rfl⟩
        have AXF : Hid (j = 0 ∨ ∃ b m f, ao = some ⟨b, 0, none⟩ ∧ j ≤ m ∧ Blk U b 3 m f ∧ ∀ i, i < j → f i = .int .i64 (Z i)) := by
          rcases ARow.on AXH.out BU.out with h | ⟨b, m, f, h1, h2, h3, h4⟩
          · exact .inl h
          · exact .inr ⟨b, m, f, by rw [← eao]; exact h1, h2, h3, h4⟩
        rw [eao]
        clear eao AXH
        obtain ⟨y0, y1, y2⟩ := Box3.cells BOX.out
        have ly := Blk.lt BOX.out
        go_wp2
        clear y0 y1 y2 ly
        go_loopw [141] (fun i wx => ∃ s : Nat, s ≤ n ∧ i = .int .i64 s ∧ Below U.heap.size U wx) (fun i _ => n - (intOf i).toNat)
        case atStart => exact ⟨0, Nat.zero_le _, rfl, Below.refl _ _⟩
        case round =>
          rename World => wx
          obtain ⟨s, hs, rfl, hbx⟩ := hrel
          by_cases hls : s < n
          · have hi2 : (s : Int) < (n : Int) := by omega
            obtain ⟨gs, cs', es, t0, t1, t2, t3, t4⟩ := seAt (SlF.on SEC.out hbx) hls
            cases es
            have jx := JR1.out s
            rw [HMI.out s hls] at jx
            have AXX : Hid (j = 0 ∨ ∃ b m f, ao = some ⟨b, 0, none⟩ ∧ j ≤ m ∧ Blk wx b 3 m f ∧ ∀ i, i < j → f i = .int .i64 (Z i)) := by
              rcases AXF.out with h | ⟨b, m, f, h1, h2, h3, h4⟩
              · exact .inl h
              · exact .inr ⟨b, m, f, h1, h2, h3.on hbx, h4⟩
            obtain ⟨x, ex⟩ : ∃ x, runX (n : Int) (n + 1) lnF (lnT n) (trP L1) L1.length s = x := ⟨_, rfl⟩
            rw [ex] at t0 t1 t2 t3 t4 jx
            clear ex
            obtain ⟨xt, xc, xl, xs, xa⟩ := x
            obtain ⟨j1, j2, j3, j4⟩ := jx
            simp only at t0 t1 t2 t3 t4 j1 j2 j3 j4
            subst j2 j3
            have hp0 : 0 ≤ ap * ((s : Int) + 1) := Int.mul_nonneg (by omega) (by omega)
            have hp9 : ap * ((s : Int) + 1) ≤ 90 * 9 := Int.mul_le_mul p2 (by omega) (by omega) (by omega)
            have hq0 : 0 ≤ ap * ((s : Int) + 2) := Int.mul_nonneg (by omega) (by omega)
            have hq9 : ap * ((s : Int) + 2) ≤ 90 * 10 := Int.mul_le_mul p2 (by omega) (by omega) (by omega)
            obtain ⟨wy, ewy⟩ : ∃ W, wx.alloc (.cells #[.int .i64 xt, .int .i64 xc, .bool false, .bool false, .int .i64 xa] 43) = W := ⟨_, rfl⟩
            have bwy : Below wx.heap.size wx wy := by rw [← ewy]; exact below_alloc (Below.refl _ _) _
            have n0 : wy.cell? ⟨wx.heap.size, 0, none⟩ = some (.int .i64 xt) := by rw [← ewy]; simp
            have n1' : wy.cell? ⟨wx.heap.size, 1, none⟩ = some (.int .i64 xc) := by rw [← ewy]; simp
            have AXY : Hid (j = 0 ∨ ∃ b m f, ao = some ⟨b, 0, none⟩ ∧ j ≤ m ∧ Blk wy b 3 m f ∧ ∀ i, i < j → f i = .int .i64 (Z i)) := by
              rcases AXX.out with h | ⟨b, m, f, h1, h2, h3, h4⟩
              · exact .inl h
              · exact .inr ⟨b, m, f, h1, h2, h3.on bwy, h4⟩
            have EWY : Hid _ := ewy
            have HBX : Hid (Below U.heap.size U wy) := below_on hbx bwy
            have J1 : Hid _ := j1
            have J4 : Hid _ := j4
            have N0 : Hid _ := n0
            have N1 : Hid _ := n1'
            obtain ⟨qb, eqb⟩ : ∃ q, wx.heap.size = q := ⟨_, rfl⟩
            have EQB : Hid _ := eqb
            clear ewy hbx bwy AXX j1 j4 n0 n1' eqb
            go_wp2
            rw [EWY.out]
            clear t0 t1 t2 t3 t4
            go_loopw [19, 148] (fun c i wz => ∃ x : Nat, x ≤ j ∧ i = .int .i64 x ∧ c = .int .i64 (sumZ (inS ap mid Z s) x) ∧ wz = wy) (fun _ i _ => j - (intOf i).toNat)
            case atStart => exact ⟨0, Nat.zero_le _, rfl, rfl, rfl⟩
            case round =>
              obtain ⟨x, hx, rfl, rfl, hwz⟩ := hrel
              rw [hwz]
              clear hwz
              by_cases hlx : x < j
              · have hi3 : (x : Int) < (j : Int) := by omega
                rcases AXY.out with h | ⟨b, m, f, h1, h2, h3, h4⟩
                · omega
                subst h1
                have ca : wy.cell? ⟨b, x, none⟩ = some (.int .i64 (Z x)) := by rw [h3.cell (by omega), h4 x hlx]
                obtain ⟨zz1, zz2⟩ := HZ.out x hlx
                obtain ⟨cr1, cr2⟩ := inS_range ap mid Z s x
                have esu : sumZ (inS ap mid Z s) (x + 1) = sumZ (inS ap mid Z s) x + inS ap mid Z s x := rfl
                have ein : inS ap mid Z s x = if ap * ((s : Int) + 1) ≤ mid - Z x ∧ mid - Z x < ap * ((s : Int) + 2) then 1 else 0 := rfl
                rw [ein] at esu
                clear ein h3 h4
                have zj1 : Z j ≤ 600 := by omega
                obtain ⟨zx, ezx⟩ : ∃ z, Z x = z := ⟨_, rfl⟩
                obtain ⟨sx, esx⟩ : ∃ z, sumZ (inS ap mid Z s) x = z := ⟨_, rfl⟩
                rw [ezx] at ca zz1 zz2 esu
                rw [esx] at cr1 cr2 esu ⊢
                clear ezx esx
                by_cases g1 : ap * ((s : Int) + 1) ≤ mid - zx
                · by_cases g2 : mid - zx < ap * ((s : Int) + 2)
                  · rw [if_pos ⟨g1, g2⟩] at esu
                    have ESU : Hid _ := esu
                    clear esu
                    go_wp2
                    go_roundw
                    case rel => exact ⟨x + 1, by omega, by go_num, by rw [ESU.out], trivial⟩
                    case measure => simp [intOf] <;> omega
                  · rw [if_neg (fun h => g2 h.2), Int.add_zero] at esu
                    have ESU : Hid _ := esu
                    clear esu
                    go_wp2
                    go_roundw
                    case rel => exact ⟨x + 1, by omega, by go_num, by rw [ESU.out], trivial⟩
                    case measure => simp [intOf] <;> omega
                · rw [if_neg (fun h => g1 h.1), Int.add_zero] at esu
                  have ESU : Hid _ := esu
                  clear esu
                  go_wp2
                  go_roundw
                  case rel => exact ⟨x + 1, by omega, by go_num, by rw [ESU.out], trivial⟩
                  case measure => simp [intOf] <;> omega
              · have hxj : x = j := by omega
                have cc := J1.out
                have ct := J4.out
                have nn0 := N0.out
                have nn1 := N1.out
                rw [EQB.out] at nn0 nn1
                rw [hxj]
                obtain ⟨zz, ezz⟩ : ∃ z, sumZ (inS ap mid Z s) j = z := ⟨_, rfl⟩
                rw [ezz] at cc ct ⊢
                rw [cc] at nn1
                rw [ct] at nn0
                clear cc ct ezz hxj hlx
                rw [EQB.out]
                have lqb := World.block_lt_of_cell? _ _ nn0
                by_cases hzz : zz = 0
                · subst hzz
                  simp only [if_true] at nn0
                  go_wp2
                  go_roundw
                  case rel => exact ⟨s + 1, by omega, by go_num, HBX.out⟩
                  case measure => simp [intOf] <;> omega
                · have hzz' : (zz == 0) = false := by simp [hzz]
                  rw [if_neg hzz] at nn0
                  go_wp2
                  go_roundw
                  case rel => exact ⟨s + 1, by omega, by go_num, HBX.out⟩
                  case measure => simp [intOf] <;> omega
          · have hsn : s = n := by omega
            subst hsn
            have B9 := below_on BU.out hbx
            have C9 := below_on CU.out hbx
            have row9 := CRow.on ROW.out B9
            have sl9 := SlF.on S3.out C9
            have kr := implRun_ok (s : Int) g (s + 1) _ _ L3.length s lnF (lnT s) (trP L3) _ wx row9 sl9 OKH.out rfl (by omega)
            obtain ⟨y0, y1⟩ := (Box2.on LAYU.out hbx).cells
            have ly := (Box2.on LAYU.out hbx).lt
            have HBX : Hid _ := hbx
            have B9H : Hid _ := B9
            clear row9 sl9 B9 C9 hbx hls
            go_wp2_with fail
            refine kr.mono ?_
            rintro _ w9 ⟨r3, rfl, D3, b9⟩
            have bel9 : Below w.heap.size w w9 := Below.trans BEL.out ((below_on B9H.out b9).mono hsw)
            have box9 := (Box3.on BOX.out HBX.out).on b9
            have sec9 := (SlF.on SEC.out HBX.out).on b9
            obtain ⟨_, _, _, ⟨ar3, cr3, er3, _⟩, _⟩ := id D3
            subst er3
            have I0 : Hid (∃ (as2 : Option Addr) (cs2 : Nat) (ab2 : Option Addr) (cb2 lo2 hi2 : Nat) (X : Nat → Sec), Box3 w9 sb 39 (.bool true) (.slice as2 s cs2) (.slice ab2 (s + 1) cb2) ∧ SlF w9 43 5 lo2 hi2 (.slice as2 s cs2) s (secs X) ∧ ((0 : Nat) = 0 → X = runX (s : Int) (s + 1) lnF (lnT s) (trP L1) L1.length) ∧ (0 < (0 : Nat) → X = runX (s : Int) (s + 1) lnF (lnT s) (trP L3) 0) ∧ Turned w9 w9 (· = 39) sb (sb + 1)) := ⟨_, _, _, _, _, _, _, box9, sec9, fun _ => rfl, fun h => by omega, Turned.refl _ _ _ _⟩
            have D3H : Hid _ := D3
            have BEL9 : Hid (Below w.heap.size w w9) := bel9
            have hww : w.heap.size ≤ w9.heap.size := bel9.size
            clear y0 y1 ly kr b9 HBX B9H box9 sec9 D3 bel9 BOX SEC LAYU BU CU AXF JR1
            go_wp2
            go_loopw [189] (fun i wv => ∃ k : Nat, k ≤ L3.length ∧ i = .int .i64 k ∧ ∃ (as2 : Option Addr) (cs2 : Nat) (ab2 : Option Addr) (cb2 lo2 hi2 : Nat) (X : Nat → Sec), Box3 wv sb 39 (.bool true) (.slice as2 s cs2) (.slice ab2 (s + 1) cb2) ∧ SlF wv 43 5 lo2 hi2 (.slice as2 s cs2) s (secs X) ∧ (k = 0 → X = runX (s : Int) (s + 1) lnF (lnT s) (trP L1) L1.length) ∧ (0 < k → X = runX (s : Int) (s + 1) lnF (lnT s) (trP L3) k) ∧ Turned w9 wv (· = 39) sb (sb + 1)) (fun i _ => L3.length - (intOf i).toNat)
            case atStart =>
              obtain ⟨as2, cs2, ab2, cb2, lo2, hi2, X, a1', a2', a3', a4', a5'⟩ := I0.out
              exact ⟨0, Nat.zero_le _, rfl, as2, cs2, ab2, cb2, lo2, hi2, X, a1', a2', fun _ => a3' trivial, fun h => absurd h (by omega), a5'⟩
            case round =>
              clear I0
              rename World => wv
              obtain ⟨k, hk, rfl, as2, cs2, ab2, cb2, lo2, hi2', X, bx, sx, x0f, x1f, tu⟩ := hrel
              by_cases hlt : k < L3.length
              · have hi4 : (k : Int) < (L3.length : Int) := by omega
                have D4 := DnF.turned D3H.out tu (.inl ⟨by decide, by decide, by decide⟩)
                obtain ⟨g3, c3, v1, v2, lo3, hi3, e3, d0, d1, d2, d3, sS, sB⟩ := dnAt D4 hlt
                cases e3
                obtain ⟨as3, cs3, es3, _⟩ := id sS
                subst es3
                obtain ⟨ab3, cb3, eb3, _⟩ := id sB
                subst eb3
                obtain ⟨rc, erc⟩ : ∃ z, runC (s : Int) (s + 1) lnF (lnT s) (trP L3) k = z := ⟨_, rfl⟩
                rw [erc] at d0
                obtain ⟨U4, eU4⟩ : ∃ W, wv.alloc (.cells #[.int .i64 rc, .bool true, .slice as3 s cs3, .slice ab3 (s + 1) cb3] 41) = W := ⟨_, rfl⟩
                have bU4 : Below wv.heap.size wv U4 := by rw [← eU4]; exact below_alloc (Below.refl _ _) _
                obtain ⟨q4, eq4⟩ : ∃ q, wv.heap.size = q := ⟨_, rfl⟩
                have m1' : U4.cell? ⟨q4, 1, none⟩ = some (.bool true) := by rw [← eU4, ← eq4]; simp
                have m2' : U4.cell? ⟨q4, 2, none⟩ = some (.slice as3 s cs3) := by rw [← eU4, ← eq4]; simp
                have m3' : U4.cell? ⟨q4, 3, none⟩ = some (.slice ab3 (s + 1) cb3) := by rw [← eU4, ← eq4]; simp
                have lq4 := World.block_lt_of_cell? _ _ m1'
                have bx4 := Box3.on bx bU4
                obtain ⟨k1', k2'⟩ := st_set bx4 (.bool true) (.slice as3 s cs3) (.slice ab3 (s + 1) cb3)
                have REL : Hid (∃ (as2 : Option Addr) (cs2 : Nat) (ab2 : Option Addr) (cb2 lo2 hi2 : Nat) (X : Nat → Sec), Box3 (((U4.setCell ⟨sb, 0, none⟩ (.bool true)).setCell ⟨sb, 1, none⟩ (.slice as3 s cs3)).setCell ⟨sb, 2, none⟩ (.slice ab3 (s + 1) cb3)) sb 39 (.bool true) (.slice as2 s cs2) (.slice ab2 (s + 1) cb2) ∧ SlF (((U4.setCell ⟨sb, 0, none⟩ (.bool true)).setCell ⟨sb, 1, none⟩ (.slice as3 s cs3)).setCell ⟨sb, 2, none⟩ (.slice ab3 (s + 1) cb3)) 43 5 lo2 hi2 (.slice as2 s cs2) s (secs X) ∧ (k + 1 = 0 → X = runX (s : Int) (s + 1) lnF (lnT s) (trP L1) L1.length) ∧ (0 < k + 1 → X = runX (s : Int) (s + 1) lnF (lnT s) (trP L3) (k + 1)) ∧ Turned w9 (((U4.setCell ⟨sb, 0, none⟩ (.bool true)).setCell ⟨sb, 1, none⟩ (.slice as3 s cs3)).setCell ⟨sb, 2, none⟩ (.slice ab3 (s + 1) cb3)) (· = 39) sb (sb + 1)) :=
                  ⟨as3, cs3, ab3, cb3, lo3, hi3, _, k1', (sS.on bU4).turned k2' (.inl (by decide)), fun h => by omega, fun _ => rfl, (tu.trans (Turned.of_below bU4)).trans k2'⟩
                have ub := bx4.cells
                obtain ⟨u0, u1', u2⟩ := ub
                have ulb := Blk.lt bx4
                have uf0 := Blk.frozen bx4 0
                have uf1 := Blk.frozen bx4 1
                have uf2 := Blk.frozen bx4 2
                have EU4 : Hid _ := eU4
                have EQ4 : Hid _ := eq4
                clear eU4 eq4 bU4 bx sx x0f x1f tu D4 sS sB bx4 k1' k2' erc
                go_upto_region 43 with fail
                rw [EU4.out, EQ4.out]
                clear d0 d1 d2 d3
                go_wp2
                go_roundw
                case rel => exact ⟨k + 1, by omega, by go_num, REL.out⟩
                case measure => simp [intOf] <;> omega
              · have hkm : k = L3.length := by omega
                subst hkm
                have FR : ∀ q, q < s → (X q).told = 0 := fun q hq => by
                  rcases Nat.eq_zero_or_pos L3.length with h | h
                  · have h1 : L1.length = 0 := by have := LENS'.out; have := LEN1.out; omega
                    rw [x0f h, h1]
                    rfl
                  · rw [x1f h]
                    have := (JR3.out q).2.2.2
                    rw [this, HFZ.out q hq, if_pos rfl]
                have bel10 : Below w.heap.size w wv := Below.trans BEL9.out (tu.below (by omega) hww)
                obtain ⟨y0, y1, y2⟩ := bx.cells
                have ly := Blk.lt bx
                have FRH : Hid _ := FR
                have SX : Hid (SlF wv 43 5 lo2 hi2' (.slice as2 s cs2) s (secs X)) := sx
                have BEL10 : Hid _ := bel10
                clear bx sx x0f x1f tu FR bel10 D3H BEL9 JR3 HFZ hlt
                go_wp2
                clear y0 y1 y2 ly
                go_loopw [199] (fun i wx => ∃ q : Nat, q ≤ s ∧ i = .int .i64 q ∧ Below wv.heap.size wv wx) (fun i _ => s - (intOf i).toNat)
                case atStart => exact ⟨0, Nat.zero_le _, rfl, Below.refl _ _⟩
                case round =>
                  rename World => wf
                  obtain ⟨q, hq, rfl, hbf⟩ := hrel
                  by_cases hlq : q < s
                  · have hi5 : (q : Int) < (s : Int) := by omega
                    obtain ⟨gs, cs', es, t0, t1, t2, t3, t4⟩ := seAt (SlF.on SX.out hbf) hlq
                    cases es
                    rw [FRH.out q hlq] at t0
                    obtain ⟨x, ex⟩ : ∃ x, X q = x := ⟨_, rfl⟩
                    rw [ex] at t1 t2 t3 t4
                    clear ex
                    obtain ⟨xt, xc, xl, xs, xa⟩ := x
                    simp only at t1 t2 t3 t4
                    have HX : Hid (Below wv.heap.size wv (wf.alloc (.cells #[.int .i64 0, .int .i64 xc, .bool xl, .bool xs, .int .i64 xa] 43))) := below_alloc hbf _
                    clear hbf
                    go_wp2
                    go_roundw
                    case rel => exact ⟨q + 1, by omega, by go_num, HX.out⟩
                    case measure => simp [intOf] <;> omega
                  · have hqs : q = s := by omega
                    subst hqs
                    go_wp2
                    go_ret
                    exact ⟨rfl, below_on BEL10.out hbf⟩

end Go.Proofs.YtlpopfhaephfaaaDoor.Ps

namespace Go.Proofs.YtlpopfhaephfaaaDoor
open Go.ChangeShapes Go.WideShapes Go.ChangeAt Go.RowKit Go.Joins

theorem Tryd.ownD : ownKnob Tryd.prog.godebug = none := by kernel_rfl
theorem Tryd.laidD : laidOutB Tryd.prog = true := by kernel_rfl
theorem Tryd.cellsU8 : Tryd.prog.cellsOf 5 = 1 := by kernel_rfl

theorem u8_wf {n : Int} (h : (Lit.int .u8 n).wf = true) : 0 ≤ n ∧ n < 256 := by
  unfold Lit.wf at h
  simp only [Bool.and_eq_true, decide_eq_true_eq] at h
  have h1 : IntKind.u8.min = 0 := by decide
  have h2 : IntKind.u8.max = 255 := by decide
  rw [h1, h2] at h
  omega

theorem cod_of_trod {H : Type} {enc : TypeId × Value → H} {W : World} {base : Nat} {spare : Nat → Bool} {held : Bool} {fuel : Nat} {c : Value} {x : DataW H × List MemPlace} (h : DataW.trod enc Tryd.prog W base spare held fuel 22 [c] = some x) :
    ∃ (ao : Option Addr) (n cap : Nat) (C : Nat → Int), c = .slice ao n cap ∧ n ≤ maxLen ∧ Cod W W.heap.size ao n C := by
  rcases open_ints Tryd.underlying22 Tryd.underlying5 Tryd.cellsU8 h with ⟨hc, _⟩ | ⟨a, len, cap, zs, hc, _, hl, hm, hz, _, hcell, hwf⟩
  · simp only [List.cons.injEq, and_true] at hc
    exact ⟨none, 0, 0, fun _ => 0, hc, Nat.zero_le _, .inl rfl⟩
  · simp only [List.cons.injEq, and_true] at hc
    refine ⟨some a, len, cap, fun i => zs.getD i 0, hc, Nat.le_trans hl hm, ?_⟩
    have hlz : len ≤ zs.length := by rw [hz]; split <;> omega
    rcases Nat.eq_zero_or_pos len with h0 | h0
    · exact .inl h0
    · right
      obtain ⟨b, off, spot⟩ := a
      have hs : spot = none := by simpa [Addr.add] using World.cell?_spot (hcell 0 (by omega))
      subst hs
      refine ⟨b, off, rfl, ?_, fun i hi => ⟨?_, ?_⟩⟩
      · have := World.block_lt_of_cell? W _ (hcell 0 (by omega))
        simpa [Addr.add] using this
      · have := hcell i (by omega)
        have e : (⟨b, off, none⟩ : Addr).add i = ⟨b, off + i, none⟩ := by simp [Addr.add]
        rw [e] at this
        exact this
      · have hi' : i < zs.length := by omega
        have e : zs.getD i 0 = zs[i] := by rw [List.getD_eq_getElem?_getD, List.getElem?_eq_getElem hi']; rfl
        show 0 ≤ zs.getD i 0 ∧ zs.getD i 0 < 256
        rw [e]
        exact u8_wf (hwf _ (List.getElem_mem hi'))

theorem cod_of {H : Type} {enc : TypeId × Value → H} {W : World} {base : Nat} {spare : Nat → Bool} {held : Bool} {ao : Option Addr} {n cap : Nat} {d : DataW H} {p : List MemPlace} (h : DataW.Trod enc Tryd.prog W base spare held 22 (.slice ao n cap) d p) :
    n ≤ maxLen ∧ ∃ C, Cod W W.heap.size ao n C := by
  obtain ⟨fuel, hf⟩ := h
  obtain ⟨ao', n', cap', C, e, hm, hc⟩ := cod_of_trod (c := .slice ao n cap) hf
  simp only [Value.slice.injEq] at e
  obtain ⟨rfl, rfl, rfl⟩ := e
  exact ⟨hm, C, hc⟩

end Go.Proofs.YtlpopfhaephfaaaDoor

namespace Go.Proofs.YtlpopfhaephfaaaDoor
open Go.ChangeShapes Go.WideShapes Go.ChangeAt Go.RowKit Go.Joins

theorem Tryd.gE0 : Tryd.prog.globalNamed "loop.example/treadle/impl.errNoRun" = some 0 := by kernel_rfl
theorem Tryd.gE1 : Tryd.prog.globalNamed "loop.example/treadle/impl.errNoEvent" = some 1 := by kernel_rfl
theorem Tryd.gE2 : Tryd.prog.globalNamed "loop.example/treadle/impl.errSomebody" = some 2 := by kernel_rfl
theorem Tryd.gE3 : Tryd.prog.globalNamed "loop.example/treadle/impl.errBelow" = some 3 := by kernel_rfl
theorem Tryd.gT0 : (Tryd.prog.globals[0]?).map (·.type) = some 65 := by kernel_rfl
theorem Tryd.gT1 : (Tryd.prog.globals[1]?).map (·.type) = some 65 := by kernel_rfl
theorem Tryd.gT2 : (Tryd.prog.globals[2]?).map (·.type) = some 65 := by kernel_rfl
theorem Tryd.gT3 : (Tryd.prog.globals[3]?).map (·.type) = some 65 := by kernel_rfl
theorem Tryd.esCells : Tryd.prog.cellsOf 180 = 1 := by kernel_rfl
theorem Tryd.stCells : Tryd.prog.cellsOf 9 = 1 := by kernel_rfl
theorem esStar : "*" ++ "errors.errorString" = "*errors.errorString" := by decide
theorem Tryd.esRow (u : TypeId) (h : Tryd.prog.typeName? 3 u = some "*errors.errorString") : u = 155 :=
  typeName_ptr_named (nm := "errors.errorString") (by rw [esStar]; kernel_rfl) (by kernel_rfl) (by decide) u (by rw [esStar]; exact h)

/-- the fourA errors' addresses -/
def fourA (a0 a1 a2 a3 : Addr) : Nat → Addr
  | 0 => a0
  | 1 => a1
  | 2 => a2
  | _ => a3

set_option maxRecDepth 100000 in
theorem snt_of_laid {W : World} (h : laidMet Tryd.prog [("loop.example/treadle/impl.errNoRun", Rows.laid_loop_example_treadle_impl_errNoRun), ("loop.example/treadle/impl.errNoEvent", Rows.laid_loop_example_treadle_impl_errNoEvent), ("loop.example/treadle/impl.errSomebody", Rows.laid_loop_example_treadle_impl_errSomebody), ("loop.example/treadle/impl.errBelow", Rows.laid_loop_example_treadle_impl_errBelow)] W) :
    ∃ a0 a1 a2 a3 : Addr, W.var? Tryd.prog "loop.example/treadle/impl.errNoRun" = some #[.iface 155 (.pointer (some a0))] ∧ W.var? Tryd.prog "loop.example/treadle/impl.errNoEvent" = some #[.iface 155 (.pointer (some a1))] ∧
      W.var? Tryd.prog "loop.example/treadle/impl.errSomebody" = some #[.iface 155 (.pointer (some a2))] ∧ W.var? Tryd.prog "loop.example/treadle/impl.errBelow" = some #[.iface 155 (.pointer (some a3))] ∧ Snt W (fourA a0 a1 a2 a3) := by
  obtain ⟨ps, ⟨g0, t0, cs0, f0, p0, q0, hg0, ht0, hv0, hd0, ⟨g1, t1, cs1, f1, p1, q1, hg1, ht1, hv1, hd1, ⟨g2, t2, cs2, f2, p2, q2, hg2, ht2, hv2, hd2, ⟨g3, t3, cs3, f3, p3, q3, hg3, ht3, hv3, hd3, hq3, e3⟩, e2⟩, e1⟩, e0⟩, hnd, hrows⟩ := h
  obtain rfl := Option.some.inj (Tryd.gE0.symm.trans hg0)
  obtain rfl := Option.some.inj (Tryd.gE1.symm.trans hg1)
  obtain rfl := Option.some.inj (Tryd.gE2.symm.trans hg2)
  obtain rfl := Option.some.inj (Tryd.gE3.symm.trans hg3)
  obtain rfl := Option.some.inj (Tryd.gT0.symm.trans ht0)
  obtain rfl := Option.some.inj (Tryd.gT1.symm.trans ht1)
  obtain rfl := Option.some.inj (Tryd.gT2.symm.trans ht2)
  obtain rfl := Option.some.inj (Tryd.gT3.symm.trans ht3)
  have hq3' : q3 = [] := hq3
  subst hq3'
  subst e3
  subst e2
  subst e1
  subst e0
  obtain ⟨l0⟩ := cs0
  obtain ⟨l1⟩ := cs1
  obtain ⟨l2⟩ := cs2
  obtain ⟨l3⟩ := cs3
  have ok0 : ∀ u v, l0 = [.iface u v] → Value.okWide Tryd.prog W .any 0 u v := fun u v e => by
    subst e
    exact (hrows 0 0 (by simp [MemPlace.row])).2 u v (by simpa using World.var?_cell hg0 hv0 0)
  have ok1 : ∀ u v, l1 = [.iface u v] → Value.okWide Tryd.prog W .any 0 u v := fun u v e => by
    subst e
    exact (hrows 1 0 (by simp [MemPlace.row])).2 u v (by simpa using World.var?_cell hg1 hv1 0)
  have ok2 : ∀ u v, l2 = [.iface u v] → Value.okWide Tryd.prog W .any 0 u v := fun u v e => by
    subst e
    exact (hrows 2 0 (by simp [MemPlace.row])).2 u v (by simpa using World.var?_cell hg2 hv2 0)
  have ok3 : ∀ u v, l3 = [.iface u v] → Value.okWide Tryd.prog W .any 0 u v := fun u v e => by
    subst e
    exact (hrows 3 0 (by simp [MemPlace.row])).2 u v (by simpa using World.var?_cell hg3 hv3 0)
  obtain ⟨a0, s0, rfl, hc0, hs0, hz0, rfl⟩ := errorString_of_trod Tryd.underlying65 Tryd.esRow Tryd.underlying155 Tryd.underlying180 rfl rfl Tryd.underlying9 Tryd.esCells Tryd.stCells hd0 ok0
  obtain ⟨a1, s1, rfl, hc1, hs1, hz1, rfl⟩ := errorString_of_trod Tryd.underlying65 Tryd.esRow Tryd.underlying155 Tryd.underlying180 rfl rfl Tryd.underlying9 Tryd.esCells Tryd.stCells hd1 ok1
  obtain ⟨a2, s2, rfl, hc2, hs2, hz2, rfl⟩ := errorString_of_trod Tryd.underlying65 Tryd.esRow Tryd.underlying155 Tryd.underlying180 rfl rfl Tryd.underlying9 Tryd.esCells Tryd.stCells hd2 ok2
  obtain ⟨a3, s3, rfl, hc3, hs3, hz3, rfl⟩ := errorString_of_trod Tryd.underlying65 Tryd.esRow Tryd.underlying155 Tryd.underlying180 rfl rfl Tryd.underlying9 Tryd.esCells Tryd.stCells hd3 ok3
  have b0 := (hrows a0.block a0.off (by simp [MemPlace.row])).1
  have b1 := (hrows a1.block a1.off (by simp [MemPlace.row])).1
  have b2 := (hrows a2.block a2.off (by simp [MemPlace.row])).1
  have b3 := (hrows a3.block a3.off (by simp [MemPlace.row])).1
  have c0 : W.cell? ⟨0, 0, none⟩ = some (.iface 155 (.pointer (some a0))) := by simpa using World.var?_cell hg0 hv0 0
  have c1 : W.cell? ⟨1, 0, none⟩ = some (.iface 155 (.pointer (some a1))) := by simpa using World.var?_cell hg1 hv1 0
  have c2 : W.cell? ⟨2, 0, none⟩ = some (.iface 155 (.pointer (some a2))) := by simpa using World.var?_cell hg2 hv2 0
  have c3 : W.cell? ⟨3, 0, none⟩ = some (.iface 155 (.pointer (some a3))) := by simpa using World.var?_cell hg3 hv3 0
  have n01 : a0 ≠ a1 := by rintro rfl; simp [MemPlace.row] at hnd
  have n02 : a0 ≠ a2 := by rintro rfl; simp [MemPlace.row] at hnd
  have n03 : a0 ≠ a3 := by rintro rfl; simp [MemPlace.row] at hnd
  have n12 : a1 ≠ a2 := by rintro rfl; simp [MemPlace.row] at hnd
  have n13 : a1 ≠ a3 := by rintro rfl; simp [MemPlace.row] at hnd
  have n23 : a2 ≠ a3 := by rintro rfl; simp [MemPlace.row] at hnd
  refine ⟨a0, a1, a2, a3, hv0, hv1, hv2, hv3, ⟨fun i hi => ?_, fun i hi => ?_, fun i j hi hj hij => ?_⟩⟩
  · match i, hi with
    | 0, _ => exact c0
    | 1, _ => exact c1
    | 2, _ => exact c2
    | 3, _ => exact c3
  · match i, hi with
    | 0, _ => exact b0
    | 1, _ => exact b1
    | 2, _ => exact b2
    | 3, _ => exact b3
  · match i, hi, j, hj, hij with
    | 0, _, 1, _, _ => exact n01
    | 0, _, 2, _, _ => exact n02
    | 0, _, 3, _, _ => exact n03
    | 1, _, 0, _, _ => exact n01.symm
    | 1, _, 2, _, _ => exact n12
    | 1, _, 3, _, _ => exact n13
    | 2, _, 0, _, _ => exact n02.symm
    | 2, _, 1, _, _ => exact n12.symm
    | 2, _, 3, _, _ => exact n23
    | 3, _, 0, _, _ => exact n03.symm
    | 3, _, 1, _, _ => exact n13.symm
    | 3, _, 2, _, _ => exact n23.symm
    | 0, _, 0, _, h => exact absurd rfl h
    | 1, _, 1, _, h => exact absurd rfl h
    | 2, _, 2, _, h => exact absurd rfl h
    | 3, _, 3, _, h => exact absurd rfl h

theorem vars_read4 {H : Type} (enc : TypeId × Value → H) {W : World} {x0 x1 x2 x3 : Value} (h0 : W.var? Tryd.prog "loop.example/treadle/impl.errNoRun" = some #[x0]) (h1 : W.var? Tryd.prog "loop.example/treadle/impl.errNoEvent" = some #[x1]) (h2 : W.var? Tryd.prog "loop.example/treadle/impl.errSomebody" = some #[x2]) (h3 : W.var? Tryd.prog "loop.example/treadle/impl.errBelow" = some #[x3]) (i0 : IsIface x0) (i1 : IsIface x1) (i2 : IsIface x2) (i3 : IsIface x3) (sp : Nat → Bool) :
    DataW.TrodVars enc Tryd.prog W sp ["loop.example/treadle/impl.errNoRun", "loop.example/treadle/impl.errNoEvent", "loop.example/treadle/impl.errSomebody", "loop.example/treadle/impl.errBelow"] [tok enc x0, tok enc x1, tok enc x2, tok enc x3] [.cell 0 0, .cell 1 0, .cell 2 0, .cell 3 0] :=
  ⟨0, 65, #[x0], 1, [], [.cell 1 0, .cell 2 0, .cell 3 0], Tryd.gE0, Tryd.gT0, h0, trod_held Tryd.underlying65 i0 0, ⟨1, 65, #[x1], 1, [], [.cell 2 0, .cell 3 0], Tryd.gE1, Tryd.gT1, h1, trod_held Tryd.underlying65 i1 0, ⟨2, 65, #[x2], 1, [], [.cell 3 0], Tryd.gE2, Tryd.gT2, h2, trod_held Tryd.underlying65 i2 0, ⟨3, 65, #[x3], 1, [], [], Tryd.gE3, Tryd.gT3, h3, trod_held Tryd.underlying65 i3 0, rfl, rfl⟩, rfl⟩, rfl⟩, rfl⟩

/-- a world in which the fourA errors are laid -/
def laidW (P : Program) (os : Os) : World :=
  let k := (World.holding P default ⟨#[], #[], []⟩).heap.size
  let w0 := World.holding P os ⟨#[.cells #[.string { data := #[116, 104, 101, 32, 108, 97, 121, 111, 117, 116, 32, 105, 115, 32, 110, 111, 116, 32, 114, 105, 103, 104, 116, 44, 32, 111, 114, 32, 116, 104, 101, 32, 101, 118, 101, 110, 116, 115, 32, 97, 114, 101, 32, 116, 111, 111, 32, 109, 97, 110, 121] }] 180, .cells #[.string { data := #[97, 110, 32, 101, 118, 101, 110, 116, 32, 105, 115, 32, 110, 111, 110, 101] }] 180, .cells #[.string { data := #[97, 32, 115, 101, 99, 116, 105, 111, 110, 32, 105, 115, 32, 114, 101, 115, 101, 116, 32, 119, 105, 116, 104, 32, 115, 111, 109, 101, 98, 111, 100, 121, 32, 105, 110, 32, 105, 116] }] 180, .cells #[.string { data := #[102, 101, 119, 101, 114, 32, 116, 104, 97, 110, 32, 110, 111, 98, 111, 100, 121, 32, 97, 114, 101, 32, 105, 110, 32, 97, 32, 115, 101, 99, 116, 105, 111, 110] }] 180], #[], []⟩
  { w0 with heap := (((w0.heap.modify 0 fun
      | .cells _ t frozen => .cells #[.iface 155 (.pointer (some ⟨k, 0, none⟩))] t frozen
      | o => o).modify 1 fun
      | .cells _ t frozen => .cells #[.iface 155 (.pointer (some ⟨k + 1, 0, none⟩))] t frozen
      | o => o).modify 2 fun
      | .cells _ t frozen => .cells #[.iface 155 (.pointer (some ⟨k + 2, 0, none⟩))] t frozen
      | o => o).modify 3 fun
      | .cells _ t frozen => .cells #[.iface 155 (.pointer (some ⟨k + 3, 0, none⟩))] t frozen
      | o => o }
theorem laidW_met (os : Os) (args : Array Value) : laidMet Tryd.prog [("loop.example/treadle/impl.errNoRun", Rows.laid_loop_example_treadle_impl_errNoRun), ("loop.example/treadle/impl.errNoEvent", Rows.laid_loop_example_treadle_impl_errNoEvent), ("loop.example/treadle/impl.errSomebody", Rows.laid_loop_example_treadle_impl_errSomebody), ("loop.example/treadle/impl.errBelow", Rows.laid_loop_example_treadle_impl_errBelow)] ((laidW Tryd.prog os).forCall (fun _ _ => 0) ⟨#[], args, []⟩).memory :=
  laidMet_of_run (ps := [.cell 0 0, .cell (World.holding Tryd.prog default ⟨#[], #[], []⟩).heap.size 0, .cell 1 0, .cell ((World.holding Tryd.prog default ⟨#[], #[], []⟩).heap.size + 1) 0, .cell 2 0, .cell ((World.holding Tryd.prog default ⟨#[], #[], []⟩).heap.size + 2) 0, .cell 3 0, .cell ((World.holding Tryd.prog default ⟨#[], #[], []⟩).heap.size + 3) 0]) 8 (by kernel_rfl) (by kernel_rfl) (by kernel_rfl)

end Go.Proofs.YtlpopfhaephfaaaDoor

namespace Go.Proofs.YtlpopfhaephfaaaDoor
open Go.ChangeShapes Go.WideShapes Go.ChangeAt Go.RowKit Go.Joins

set_option maxRecDepth 100000 in
theorem fnTrain_great (m1 c1 : Nat) (a1 : Option Addr) (w : World) (h1 : 1048576 < m1) :
    Calls Tryd.prog 4 #[.slice a1 m1 c1] w fun e w' => e = .returned (.bool true) ∧ Below w.heap.size w w' := by
  have i1 : (1048576 : Int) < m1 := by omega
  go_enter Tryd.func4, Tryd.ntmps4
  go_wp2
  go_ret
  exact ⟨rfl, Below.refl _ _⟩

theorem fnTrain_all (a : Nat → Addr) (m1 c1 : Nat) (a1 : Option Addr) (C1 : Nat → Int) (w : World) (ha : Snt w a) (h1 : Cod w w.heap.size a1 m1 C1) :
    Calls Tryd.prog 4 #[.slice a1 m1 c1] w fun e w' => e = .returned (.bool true) ∧ Below w.heap.size w w' := by
  by_cases h : 1048576 < m1
  · exact fnTrain_great m1 c1 a1 w h
  · exact Ps.train_small a m1 c1 a1 C1 w ha h1 (by omega)

set_option maxRecDepth 100000 in
theorem fnTrain_lifted (os : Os) (started : os.Started) (H : Type) (enc : TypeId × Value → H) :
    ReturnsInHanded {} Tryd.checked os 4 .any (fun w args => (Rows.fnTrainSpec.pre enc Tryd.prog Tryd.f4 [] false w args ∧ laidMet Tryd.prog Rows.fnTrainRow.laid w) ∧ sizedMet enc Tryd.prog Tryd.f4 (OpenSpec.ofChange Rows.fnTrainSpec) false w args)
      (Rows.fnTrainSpec.post enc Tryd.prog Tryd.f4 false true false false) := by
  refine returnsInHanded_of_change_and (C := Tryd.checked) (X := fun w _ => laidMet Tryd.prog Rows.fnTrainRow.laid w) (fun _ _ _ hh h => h.of_heap hh) Tryd.ownD started (by kernel_rfl) Tryd.func4
    (ChangeSpec.witness_at (enc := enc) (C := Tryd.checked) (os := os) (X := fun w _ => laidMet Tryd.prog Rows.fnTrainRow.laid w) false (laidW Tryd.prog os) #[.slice none 0 0] 8 rfl (by kernel_rfl) (by kernel_rfl) (by kernel_rfl) (by kernel_rfl) (by kernel_rfl) (laidW_met os _)) ?_
  intro W base args ds gs before hval0 hW _ _ hL _
  have hval : ∀ (j : Nat) t v, Tryd.f4.params[j]? = some t → args[j]? = some v → Value.okWide Tryd.prog W .any base t v := hval0
  have hW' := hW
  obtain ⟨p, q, hA0, hV0, rfl, hfz, hnd⟩ := hW
  have hA : DataW.TrodAll enc Tryd.prog W 0 (fun _ => true) true Tryd.f4.params.toList args.toList ds p := hA0
  have hV : DataW.TrodVars enc Tryd.prog W (fun _ => true) ["loop.example/treadle/impl.errNoRun", "loop.example/treadle/impl.errNoEvent", "loop.example/treadle/impl.errSomebody", "loop.example/treadle/impl.errBelow"] gs q := hV0
  rw [Tryd.params4] at hA hval
  obtain ⟨v0, d0, rfl, rfl, h0⟩ := trodAll_one hA
  obtain ⟨a0, a1, a2, a3, x0, x1, x2, x3, hS⟩ := snt_of_laid hL
  obtain ⟨rfl, rfl⟩ := hV.unique (vars_read4 enc x0 x1 x2 x3 trivial trivial trivial trivial _)
  have hl0 : ∀ x ∈ p, x.block < W.heap.size := fun x hx => by simpa using hW'.lt x (by simp [hx])
  obtain ⟨ao, m1, c1, rfl⟩ := okWide_slice Tryd.underlying22 (hval 0 22 v0 rfl rfl)
  obtain ⟨_, C1, hc1⟩ := cod_of h0
  clear hA0 hval0 hV0
  refine (fnTrain_all _ m1 c1 ao C1 W hS hc1).mono fun e W' ⟨he, hb⟩ => ?_
  subst he
  have lt : ∀ i, i < 4 → i < W.heap.size := fun i hi => World.block_lt_of_cell? W _ (hS.cell i hi)
  refine ⟨_, rfl, _, _, _, [], p, [.cell 0 0, .cell 1 0, .cell 2 0, .cell 3 0], hW', ?_, ?_, ?_, hb.frame _, fun h => by cases h⟩
  · exact trodAll_mk1 (shut_bool Tryd.underlying4 true)
  · exact trodAll_mk1 (Below.trod Tryd.laidD (by kernel_rfl) (of_decide_eq_true (by kernel_rfl)) h0 hb hl0)
  · exact vars_read4 enc (var?_below hb Tryd.gE0 (lt 0 (by omega)) x0) (var?_below hb Tryd.gE1 (lt 1 (by omega)) x1) (var?_below hb Tryd.gE2 (lt 2 (by omega)) x2) (var?_below hb Tryd.gE3 (lt 3 (by omega)) x3) trivial trivial trivial trivial _

theorem fnTrain_row : Rows.FnTrainSaid :=
  OpenClaim.holds_of_wide 4 Tryd.f4 rfl rfl rfl rfl rfl rfl rfl ⟨rfl, rfl, rfl, rfl, rfl⟩ rfl rfl rfl rfl rfl (by kernel_rfl) Tryd.func4 (by kernel_rfl)
    (of_decide_eq_true (by kernel_rfl)) (by unfold Func.isWrapper; first | (rw [if_pos (by decide +kernel)]; kernel_rfl) | (rw [if_neg (by decide +kernel)]; exact ⟨rfl, rfl⟩))
    (fun os started H enc _ => fnTrain_lifted os started H enc)

theorem fnTrain_holds : Rows.FnTrainCardSaid :=
  Claim7.holds_tied_plain_at .later [] [.sentinel, .sentinel, .sentinel, .sentinel] true (true, "5e9e66964d3763e6ce57c902b8ad56f32d3ae6dd48d88a5b4502855b4b325035") true
    fnTrain_row (fun _ h => by cases h) (by kernel_rfl) (fun _ h => by cases h) fnTrain_row_tie rfl ⟨rfl, rfl⟩ (by kernel_rfl) rfl
    (fun f fn hf hfn => by
      obtain rfl : f = 4 := Option.some.inj ((show Tryd.prog.funcNamed "loop.example/treadle/laws.FnTrain" = some 4 by kernel_rfl).symm.trans hf) |>.symm
      obtain rfl : fn = Tryd.f4 := (Option.some.inj (Tryd.func4.symm.trans hfn)).symm
      exact ⟨by kernel_rfl, fun j t ht => by
        rw [Tryd.params4] at ht
        match j with
        | 0 =>
          have h3 : t = 22 := by simpa using ht.symm
          subst h3
          exact (show Tryd.prog.wantsStandIn 22 = false by kernel_rfl)
        | j + 1 => simp at ht⟩)
    (by kernel_rfl)

#print axioms fnTrain_holds

end Go.Proofs.YtlpopfhaephfaaaDoor
