import Derived.Test.YtlpopfhaephfaabDoorW2
namespace Go.Proofs.YtlpopfhaephfaabDoor
open Go.RowKit

set_option maxHeartbeats 1000000 in
theorem implLayoutOk_any (S : Int) (g n : Nat) (F T : Nat → Int) (w : World) (hrow : Row w g 81 2 n (two F T)) :
    Calls Tryd.prog 40 #[.agg #[.int .i64 S, .slice (some ⟨g, 0, none⟩) n n]] w fun e w' => e = .returned (.int .i64 (lokZ S n F T)) ∧ Below w.heap.size w w' := by
  have hg := hrow.lt
  by_cases h : S < 1 ∨ 60 < S ∨ 120 < n
  · rw [lokZ_one h]
    rcases (show S < 1 ∨ (1 ≤ S ∧ 60 < S) ∨ (1 ≤ S ∧ S ≤ 60 ∧ (120 : Int) < (n : Int)) by omega) with h1 | ⟨h1, h2⟩ | ⟨h1, h2, h3⟩
    all_goals
      clear h
      go_enter Tryd.func40, Tryd.ntmps40
      go_wp2
      go_ret
      exact ⟨rfl, (by repeat (first | exact Below.refl _ _ | assumption | refine below_alloc ?_ _ | refine Below.setCell ?_ (by first | omega | (simp; done) | (simp; omega)) _ | refine Below.alloc ?_ (by first | omega | (simp; done) | (simp; omega)) _ | refine Below.drew ?_))⟩
  · have h1 : 1 ≤ S := by omega
    have h2 : S ≤ 60 := by omega
    have h3 : (n : Int) ≤ 120 := by omega
    have H : Hid (¬ (S < 1 ∨ 60 < S ∨ 120 < n)) := h
    have HR := hrow
    clear h hrow
    go_enter Tryd.func40, Tryd.ntmps40
    go_wp2
    go_loopw [22] (fun i wr => ∃ k : Nat, k ≤ n ∧ i = .int .i64 k ∧ Below (w.heap.size + 1) (w.alloc (.cells #[.int .i64 S, .slice (some ⟨g, 0, none⟩) n n] 31)) wr ∧ ∀ i, i < k → badB S (F i) (T i) = false) (fun i _ => n - (intOf i).toNat)
    case atStart => exact ⟨0, Nat.zero_le _, rfl, Below.refl _ _, fun i hi => by omega⟩
    case round =>
      obtain ⟨k, hk, rfl, hbel, hgood⟩ := hrel
      have HG : Hid (∀ i, i < k → badB S (F i) (T i) = false) := hgood
      have hsz : w.heap.size < wr.heap.size := by have := hbel.size; simp at this; omega
      have hB : Below w.heap.size w wr := (show Below w.heap.size w _ from (by repeat (first | exact Below.refl _ _ | assumption | refine below_alloc ?_ _ | refine Below.setCell ?_ (by first | omega | (simp; done) | (simp; omega)) _ | refine Below.alloc ?_ (by first | omega | (simp; done) | (simp; omega)) _ | refine Below.drew ?_))).trans (hbel.mono (by first | omega | (simp; done) | (simp; omega)))
      have cS : wr.cell? ⟨w.heap.size, 0, none⟩ = some (.int .i64 S) := (hbel.cell (p := ⟨w.heap.size, 0, none⟩) (by first | omega | (simp; done) | (simp; omega))).trans (by simp)
      have cS1 : wr.cell? ⟨w.heap.size, 1, none⟩ = some (.slice (some ⟨g, 0, none⟩) n n) := (hbel.cell (p := ⟨w.heap.size, 1, none⟩) (by first | omega | (simp; done) | (simp; omega))).trans (by simp)
      have hs1 : w.heap.size < wr.heap.size + 1 := by omega
      have hs2 : w.heap.size < wr.heap.size + 1 + 1 := by omega
      have hs3 : w.heap.size < wr.heap.size + 1 + 1 + 1 := by omega
      have hs4 : w.heap.size < wr.heap.size + 1 + 1 + 1 + 1 := by omega
      have HB : Hid (Below w.heap.size w wr) := hB
      have hlt0 : g < wr.heap.size := by omega
      by_cases hlt : k < n
      · obtain ⟨f, hf⟩ : ∃ f, F k = f := ⟨_, rfl⟩
        obtain ⟨t, ht⟩ : ∃ t, T k = t := ⟨_, rfl⟩
        have R := HR.below hB hg
        have c0 : wr.cell? ⟨g, k * 2, none⟩ = some (.int .i64 f) := by rw [R.cell0 hlt (by omega)]; simp [two, hf]
        have c1 : wr.cell? ⟨g, k * 2 + 1, none⟩ = some (.int .i64 t) := by rw [R.cell (j := 1) hlt (by omega)]; simp [two, ht]
        have HF : Hid (F k = f) := hf
        have HT : Hid (T k = t) := ht
        clear hf ht R hgood hB HR
        have HBel : Hid (Below (w.heap.size + 1) (w.alloc (.cells #[.int .i64 S, .slice (some ⟨g, 0, none⟩) n n] 31)) wr) := hbel
        clear hbel
        rcases (show f < -1 ∨ (-1 ≤ f ∧ S - 1 < f) ∨ (-1 ≤ f ∧ f ≤ S - 1 ∧ t < -1) ∨ (-1 ≤ f ∧ f ≤ S - 1 ∧ -1 ≤ t ∧ S - 1 < t) ∨ (-1 ≤ f ∧ f ≤ S - 1 ∧ -1 ≤ t ∧ t ≤ S - 1 ∧ t = f) ∨ (-1 ≤ f ∧ f ≤ S - 1 ∧ -1 ≤ t ∧ t ≤ S - 1 ∧ ¬ f = t) by omega) with
          a1 | ⟨a1, a2⟩ | ⟨a1, a2, a3⟩ | ⟨a1, a2, a3, a4⟩ | ⟨a1, a2, a3, a4, a5⟩ | ⟨a1, a2, a3, a4, a5⟩
        iterate 5
          · go_wp2
            all_goals
              go_ret
              have HH := H.out
              have Hf := HF.out
              have Ht := HT.out
              exact ⟨by rw [lokZ_two HH hlt (bad_of _ _ _ (by rw [Hf, Ht]; omega))]; rfl, (by have := HB.out; exact (by repeat (first | exact Below.refl _ _ | assumption | refine below_alloc ?_ _ | refine Below.setCell ?_ (by first | omega | (simp; done) | (simp; omega)) _ | refine Below.alloc ?_ (by first | omega | (simp; done) | (simp; omega)) _ | refine Below.drew ?_)))⟩
        · go_wp2
          all_goals
            go_roundw
            case rel => exact ⟨k + 1, by omega, by go_num, (by have := HBel.out; exact (by repeat (first | exact Below.refl _ _ | assumption | refine below_alloc ?_ _ | refine Below.setCell ?_ (by first | omega | (simp; done) | (simp; omega)) _ | refine Below.alloc ?_ (by first | omega | (simp; done) | (simp; omega)) _ | refine Below.drew ?_))), bad_succ HG (by rw [HF.out, HT.out]; exact bad_not _ _ _ a1 a2 a3 a4 a5)⟩
            case measure => simp [intOf]; omega
      · have e1 := lokZ_zero H.out (fun i hi => hgood i (by omega))
        go_wp2
        go_ret
        exact ⟨by rw [e1]; rfl, HB⟩

end Go.Proofs.YtlpopfhaephfaabDoor
