import Derived.Test.YtlpopfhaephfaabDoorW1
namespace Go.Proofs.YtlpopfhaephfaabDoor
open Go.RowKit

/-- a counter at wrong sides -/
def badB (S f t : Int) : Bool := !(decide (-1 ≤ f) && decide (f ≤ S - 1) && decide (-1 ≤ t) && decide (t ≤ S - 1)) || decide (f = t)
def lokZ (S : Int) (n : Nat) (F T : Nat → Int) : Int := if S < 1 ∨ 60 < S ∨ 120 < n then 1 else if (List.range n).any (fun i => badB S (F i) (T i)) then 2 else 0

theorem lokZ_one {S : Int} {n : Nat} {F T : Nat → Int} (h : S < 1 ∨ 60 < S ∨ 120 < n) : lokZ S n F T = 1 := by simp [lokZ, h]
theorem lokZ_two {S : Int} {n : Nat} {F T : Nat → Int} (h : ¬ (S < 1 ∨ 60 < S ∨ 120 < n)) {k : Nat} (hk : k < n) (hb : badB S (F k) (T k) = true) : lokZ S n F T = 2 := by
  unfold lokZ; rw [if_neg h, if_pos]; exact List.any_eq_true.2 ⟨k, List.mem_range.2 hk, hb⟩
theorem lokZ_zero {S : Int} {n : Nat} {F T : Nat → Int} (h : ¬ (S < 1 ∨ 60 < S ∨ 120 < n)) (hb : ∀ i, i < n → badB S (F i) (T i) = false) : lokZ S n F T = 0 := by
  unfold lokZ; rw [if_neg h, if_neg]; intro h'; obtain ⟨i, hi, hi'⟩ := List.any_eq_true.1 h'; rw [hb i (List.mem_range.1 hi)] at hi'; cases hi'

theorem bad_of (S f t : Int) (h : f < -1 ∨ S - 1 < f ∨ t < -1 ∨ S - 1 < t ∨ f = t) : badB S f t = true := by unfold badB; simp; omega
theorem bad_not (S f t : Int) (h1 : -1 ≤ f) (h2 : f ≤ S - 1) (h3 : -1 ≤ t) (h4 : t ≤ S - 1) (h5 : ¬ f = t) : badB S f t = false := by unfold badB; simp; omega
theorem bad_succ {S : Int} {F T : Nat → Int} {k : Nat} (h : ∀ i, i < k → badB S (F i) (T i) = false) (hk : badB S (F k) (T k) = false) : ∀ i, i < k + 1 → badB S (F i) (T i) = false := by
  intro i hi
  rcases (show i < k ∨ i = k by omega) with h' | rfl
  · exact h i h'
  · exact hk

set_option maxHeartbeats 1000000 in
theorem specLayoutOk_any (S : Int) (g n : Nat) (F T : Nat → Int) (w : World) (hrow : Row w g 81 2 n (two F T)) :
    Calls Tryd.prog 23 #[.agg #[.int .i64 S, .slice (some ⟨g, 0, none⟩) n n]] w fun e w' => e = .returned (.int .i64 (lokZ S n F T)) ∧ Below w.heap.size w w' := by
  have hg := hrow.lt
  by_cases h : S < 1 ∨ 60 < S ∨ 120 < n
  · rw [lokZ_one h]
    rcases (show S < 1 ∨ (1 ≤ S ∧ 60 < S) ∨ (1 ≤ S ∧ S ≤ 60 ∧ (120 : Int) < (n : Int)) by omega) with h1 | ⟨h1, h2⟩ | ⟨h1, h2, h3⟩
    all_goals
      clear h
      go_enter Tryd.func23, Tryd.ntmps23
      go_wp2
      go_ret
      exact ⟨rfl, (by repeat (first | exact Below.refl _ _ | assumption | refine below_alloc ?_ _ | refine Below.setCell ?_ (by first | omega | (simp; done) | (simp; omega)) _ | refine Below.alloc ?_ (by first | omega | (simp; done) | (simp; omega)) _ | refine Below.drew ?_))⟩
  · have h1 : 1 ≤ S := by omega
    have h2 : S ≤ 60 := by omega
    have h3 : (n : Int) ≤ 120 := by omega
    have H : Hid (¬ (S < 1 ∨ 60 < S ∨ 120 < n)) := h
    have HR := hrow
    clear h hrow
    go_enter Tryd.func23, Tryd.ntmps23
    go_wp2
    go_loopw [18] (fun i wr => ∃ k : Nat, k ≤ n ∧ i = .int .i64 k ∧ Below (w.heap.size + 1) (w.alloc (.cells #[.int .i64 S, .slice (some ⟨g, 0, none⟩) n n] 31)) wr ∧ ∀ i, i < k → badB S (F i) (T i) = false) (fun i _ => n - (intOf i).toNat)
    case atStart => exact ⟨0, Nat.zero_le _, rfl, Below.refl _ _, fun i hi => by omega⟩
    case round =>
      obtain ⟨k, hk, rfl, hbel, hgood⟩ := hrel
      have HG : Hid (∀ i, i < k → badB S (F i) (T i) = false) := hgood
      have hsz : w.heap.size < wr.heap.size := by have := hbel.size; simp at this; omega
      have hB : Below w.heap.size w wr := (show Below w.heap.size w _ from (by repeat (first | exact Below.refl _ _ | assumption | refine below_alloc ?_ _ | refine Below.setCell ?_ (by first | omega | (simp; done) | (simp; omega)) _ | refine Below.alloc ?_ (by first | omega | (simp; done) | (simp; omega)) _ | refine Below.drew ?_))).trans (hbel.mono (by first | omega | (simp; done) | (simp; omega)))
      have cS : wr.cell? ⟨w.heap.size, 0, none⟩ = some (.int .i64 S) := (hbel.cell (p := ⟨w.heap.size, 0, none⟩) (by first | omega | (simp; done) | (simp; omega))).trans (by simp)
      have HB : Hid (Below w.heap.size w wr) := hB
      have hlt0 : g < wr.heap.size := by omega
      by_cases hlt : k < n
      · obtain ⟨f, hf⟩ : ∃ f, F k = f := ⟨_, rfl⟩
        obtain ⟨t, ht⟩ : ∃ t, T k = t := ⟨_, rfl⟩
        have R := HR.below hB hg
        have c0 : wr.cell? ⟨g, k * 2, none⟩ = some (.int .i64 f) := by rw [R.cell0 hlt (by omega)]; simp [two, hf]
        have c1 : wr.cell? ⟨g, k * 2 + 1, none⟩ = some (.int .i64 t) := by rw [R.cell (j := 1) hlt (by omega)]; simp [two, ht]
        have HF : Hid (F k = f) := hf
        have HT : Hid (T k = t) := ht
        clear hf ht R hgood hB HR
        have HBel : Hid (Below (w.heap.size + 1) (w.alloc (.cells #[.int .i64 S, .slice (some ⟨g, 0, none⟩) n n] 31)) wr) := hbel
        clear hbel
        rcases (show f < -1 ∨ (-1 ≤ f ∧ S - 1 < f) ∨ (-1 ≤ f ∧ f ≤ S - 1 ∧ t < -1) ∨ (-1 ≤ f ∧ f ≤ S - 1 ∧ -1 ≤ t ∧ S - 1 < t) ∨ (-1 ≤ f ∧ f ≤ S - 1 ∧ -1 ≤ t ∧ t ≤ S - 1 ∧ t = f) ∨ (-1 ≤ f ∧ f ≤ S - 1 ∧ -1 ≤ t ∧ t ≤ S - 1 ∧ ¬ f = t) by omega) with
          a1 | ⟨a1, a2⟩ | ⟨a1, a2, a3⟩ | ⟨a1, a2, a3, a4⟩ | ⟨a1, a2, a3, a4, a5⟩ | ⟨a1, a2, a3, a4, a5⟩
        iterate 5
          · go_wp2
            go_ret
            have HH := H.out
            have Hf := HF.out
            have Ht := HT.out
            exact ⟨by rw [lokZ_two HH hlt (bad_of _ _ _ (by rw [Hf, Ht]; omega))]; rfl, (show Below w.heap.size w _ from HB).alloc (by first | omega | (simp; done) | (simp; omega)) _⟩
        · go_wp2
          go_roundw
          case rel => exact ⟨k + 1, by omega, by go_num, HBel.out.alloc (by first | omega | (simp; done) | (simp; omega)) _, bad_succ HG (by rw [HF.out, HT.out]; exact bad_not _ _ _ a1 a2 a3 a4 a5)⟩
          case measure => simp [intOf]; omega
      · have e1 := lokZ_zero H.out (fun i hi => hgood i (by omega))
        go_wp2
        go_ret
        exact ⟨by rw [e1]; rfl, HB⟩

end Go.Proofs.YtlpopfhaephfaabDoor
