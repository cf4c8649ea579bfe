import Derived.Test.YtlpopfhaephfaaaW3
import Derived.Test.YtlpopfhaephfaaaW5
namespace Go.Proofs.Ytlpopfhaephfaaa
open Go.RowKit Go.Maps

theorem lok_facts {S : Int} {n : Nat} {F T : Nat → Int} (h : lokZ S n F T = 0) : 1 ≤ S ∧ S ≤ 60 ∧ n ≤ 120 ∧ ∀ i, i < n → -1 ≤ F i ∧ F i ≤ S - 1 ∧ -1 ≤ T i ∧ T i ≤ S - 1 ∧ F i ≠ T i := by
  unfold lokZ at h
  split at h
  · omega
  · split at h
    · omega
    · rename_i h1 h2
      refine ⟨by omega, by omega, by omega, fun i hi => ?_⟩
      have : badB S (F i) (T i) = false := by
        cases hb : badB S (F i) (T i)
        · rfl
        · exact absurd (List.any_eq_true.2 ⟨i, List.mem_range.2 hi, hb⟩) h2
      unfold badB at this
      simp at this
      omega

/-- what Around answers -/
def arZ (S : Int) (n : Nat) (F T : Nat → Int) (s : Int) : List Int := if lokZ S n F T = 0 ∧ 0 ≤ s ∧ s < S then zsAt F T n s else []

theorem ownsInts_base {w : World} {b b' e : Nat} {v : Value} {zs : List Int} (h : w.ownsInts b e .i64 v zs) (hb : b' ≤ b) : w.ownsInts b' e .i64 v zs := by
  refine ⟨⟨h.1.1, ?_⟩, h.2⟩
  rcases h.1.2 with h1 | ⟨g, cap, cur, h1, h2, r⟩
  · exact .inl h1
  · exact .inr ⟨g, cap, cur, h1, Nat.le_trans hb h2, r⟩

set_option maxHeartbeats 1000000 in
theorem specAround_any (S s : Int) (g n : Nat) (F T : Nat → Int) (w : World) (hrow : Row w g 51 2 n (two F T)) :
    Calls Try.prog 28 #[.agg #[.int .i64 S, .slice (some ⟨g, 0, none⟩) n n], .int .i64 s] w fun e w' => ∃ v, e = .returned v ∧ w'.ownsInts w.heap.size 3 .i64 v (arZ S n F T s) ∧ Below w.heap.size w w' := by
  have hg := hrow.lt
  have hc := fun o => specLayoutOk_any S g n F T _ (hrow.alloc o)
  by_cases h0 : lokZ S n F T = 0
  · obtain ⟨f1, f2, f3, f4⟩ := lok_facts h0
    rw [h0] at hc
    by_cases hs : 0 ≤ s ∧ s < S
    · have e1 : arZ S n F T s = zsAt F T n s := by unfold arZ; rw [if_pos ⟨h0, hs⟩]
      have HE : Hid (arZ S n F T s = zsAt F T n s) := e1
      obtain ⟨a1, a2⟩ := hs
      have a3 : decide (s ≤ S - 1) = true := by simp; omega
      obtain ⟨i0, hi, hz0, hz1, hz2⟩ := info_parts Try.infoI
      clear f4 h0 e1
      go_enter Try.func28, Try.ntmps28
      go_wp2_with fail
      refine (hc _).mono ?_
      rintro e w1 ⟨rfl, hb1⟩
      have B1 : Below w.heap.size w w1 := below_on (by repeat (first | exact Below.refl _ _ | assumption | refine below_alloc ?_ _ | refine Below.setCell ?_ (by first | omega | (simp; done) | (simp; omega)) _ | refine Below.alloc ?_ (by first | omega | (simp; done) | (simp; omega)) _ | refine Below.drew ?_)) hb1
      have hs1 : w.heap.size < w1.heap.size := by have := hb1.size; simp at this; omega
      have d0 : w1.cell? ⟨w.heap.size, 0, none⟩ = some (.int .i64 S) := (hb1.cell (p := ⟨w.heap.size, 0, none⟩) (by first | omega | (simp; done) | (simp; omega))).trans (by simp)
      have d1 : w1.cell? ⟨w.heap.size, 1, none⟩ = some (.slice (some ⟨g, 0, none⟩) n n) := (hb1.cell (p := ⟨w.heap.size, 1, none⟩) (by first | omega | (simp; done) | (simp; omega))).trans (by simp)
      clear hc hb1
      go_wp2
      go_loopw [5, 22] (fun v i wr => ∃ k : Nat, k ≤ n ∧ i = .int .i64 k ∧ Below w.heap.size w wr ∧ wr.ownsInts w.heap.size 3 .i64 v (zsAt F T k s)) (fun _ i _ => n - (intOf i).toNat)
      case atStart => exact ⟨0, Nat.zero_le _, rfl, B1, World.ownsInts_nil _ _ _ _⟩
      case round =>
        obtain ⟨k, hk, rfl, hbel, hown⟩ := hrel
        have hlen := zsAt_len F T k s
        by_cases hlt : k < n
        · obtain ⟨f, hf⟩ : ∃ f, F k = f := ⟨_, rfl⟩
          obtain ⟨t, ht⟩ : ∃ t, T k = t := ⟨_, rfl⟩
          have R := hrow.below hbel hg
          have c0 : wr.cell? ⟨g, k * 2, none⟩ = some (.int .i64 f) := by rw [R.cell0 hlt (by omega)]; simp [two, hf]
          have c1 : wr.cell? ⟨g, k * 2 + 1, none⟩ = some (.int .i64 t) := by rw [R.cell (j := 1) hlt (by omega)]; simp [two, ht]
          have wk : (Lit.int .i64 (k : Int)).wf = true := WalkArith.wf_i64 (by omega)
          have HS : Hid (zsAt F T (k + 1) s = if f = s ∨ t = s then zsAt F T k s ++ [(k : Int)] else zsAt F T k s) := by rw [← hf, ← ht]; exact zsAt_succ F T k s
          have hsz := hbel.size
          have hnw : ∀ o, ∀ j u, [Value.int .i64 k][j]? = some u → ((wr.alloc o).alloc (.cells #[.int .i64 k] 3)).cell? ((⟨wr.heap.size + 1, 0, none⟩ : Addr).add j) = some u := fun o => by
            have := cell_one_new (wr.alloc o) (.int .i64 k) 3
            simp only [World.size_alloc] at this
            exact this
          clear hf ht R hrow d0 d1 B1
          rcases (show (s = f) ∨ (¬ f = s ∧ s = t) ∨ (¬ f = s ∧ ¬ t = s) by omega) with b1 | ⟨b1, b2⟩ | ⟨b1, b2⟩
          · have HS' : Hid (zsAt F T (k + 1) s = zsAt F T k s ++ [(k : Int)]) := by rw [HS.out, if_pos]; rfl; omega
            subst b1
            clear HS
            go_wp2_with (first
              | (at_builtin; refine wpList_append_own _ rfl _ _ 48 rfl w.heap.size 3 i0 (.int .i64 0) 1 8 Try.underlying48 hi hz0 hz1 hz2 rfl (by decide) _ _ _ rfl ((hown.1.alloc _).alloc _) ⟨wr.heap.size + 1, 0, none⟩ 1 1 [.int .i64 k] rfl rfl (hnw _) (ints_oneCell .i64 [(k : Int)]) (by unfold maxLen; omega) (by omega) (by simp; omega) ?_; intro v' w2 hown' hgrow hnil))
            go_wp2
            go_roundw
            case rel =>
              (repeat apply Exists.intro)
              exact ⟨⟨k + 1, by omega, by go_num, (below_alloc (below_alloc hbel _) _).grown hgrow (by simp; omega) (fun j hj => (hown.1.lt j hj).1), by rw [HS'.out]; exact hown.appended hown' wk⟩, rfl⟩
            case measure => simp [intOf]; omega
          · have HS' : Hid (zsAt F T (k + 1) s = zsAt F T k s ++ [(k : Int)]) := by rw [HS.out, if_pos]; rfl; omega
            have b3 : (f == s) = false := by simp [b1]
            subst b2
            clear HS b1
            go_wp2_with (first
              | (at_builtin; refine wpList_append_own _ rfl _ _ 48 rfl w.heap.size 3 i0 (.int .i64 0) 1 8 Try.underlying48 hi hz0 hz1 hz2 rfl (by decide) _ _ _ rfl ((hown.1.alloc _).alloc _) ⟨wr.heap.size + 1, 0, none⟩ 1 1 [.int .i64 k] rfl rfl (hnw _) (ints_oneCell .i64 [(k : Int)]) (by unfold maxLen; omega) (by omega) (by simp; omega) ?_; intro v' w2 hown' hgrow hnil))
            go_wp2
            go_roundw
            case rel =>
              (repeat apply Exists.intro)
              exact ⟨⟨k + 1, by omega, by go_num, (below_alloc (below_alloc hbel _) _).grown hgrow (by simp; omega) (fun j hj => (hown.1.lt j hj).1), by rw [HS'.out]; exact hown.appended hown' wk⟩, rfl⟩
            case measure => simp [intOf]; omega
          · have b3 : (f == s) = false := by simp [b1]
            have b4 : (t == s) = false := by simp [b2]
            have HS' : Hid (zsAt F T (k + 1) s = zsAt F T k s) := by rw [HS.out, if_neg]; rfl; omega
            clear b1 b2
            go_wp2
            go_roundw
            case rel => exact ⟨k + 1, by omega, by go_num, below_alloc hbel _, by rw [HS'.out]; exact hown.alloc _⟩
            case measure => simp [intOf]; omega
        · go_wp2
          go_ret
          have : k = n := by omega
          subst this
          exact ⟨_, rfl, by rw [HE.out]; exact hown, hbel⟩
    · have e1 : arZ S n F T s = [] := by unfold arZ; rw [if_neg]; intro h; exact hs h.2
      rw [e1]
      rcases (show s < 0 ∨ (0 ≤ s ∧ S - 1 < s) by omega) with a1 | ⟨a1, a2⟩
      · clear f4 h0 hs e1
        go_enter Try.func28, Try.ntmps28
        go_wp2_with fail
        refine (hc _).mono ?_
        rintro e w1 ⟨rfl, hb1⟩
        obtain ⟨q1, q2⟩ := bcell hb1
        go_wp2
        go_ret
        exact ⟨_, rfl, World.ownsInts_nil _ _ _ _, below_on (by repeat (first | exact Below.refl _ _ | assumption | refine below_alloc ?_ _ | refine Below.setCell ?_ (by first | omega | (simp; done) | (simp; omega)) _ | refine Below.alloc ?_ (by first | omega | (simp; done) | (simp; omega)) _ | refine Below.drew ?_)) hb1⟩
      · have a3 : decide (s ≤ S - 1) = false := by simp; omega
        clear f4 h0 hs e1
        go_enter Try.func28, Try.ntmps28
        go_wp2_with fail
        refine (hc _).mono ?_
        rintro e w1 ⟨rfl, hb1⟩
        obtain ⟨q1, q2⟩ := bcell hb1
        go_wp2
        go_ret
        exact ⟨_, rfl, World.ownsInts_nil _ _ _ _, below_on (by repeat (first | exact Below.refl _ _ | assumption | refine below_alloc ?_ _ | refine Below.setCell ?_ (by first | omega | (simp; done) | (simp; omega)) _ | refine Below.alloc ?_ (by first | omega | (simp; done) | (simp; omega)) _ | refine Below.drew ?_)) hb1⟩
  · have e1 : arZ S n F T s = [] := by unfold arZ; rw [if_neg]; intro h; exact h0 h.1
    rw [e1]
    have h1 : (lokZ S n F T != 0) = true := by simpa using h0
    clear h0 e1
    go_enter Try.func28, Try.ntmps28
    go_wp2_with fail
    refine (hc _).mono ?_
    rintro e w1 ⟨rfl, hb1⟩
    go_wp2
    go_ret
    exact ⟨_, rfl, World.ownsInts_nil _ _ _ _, below_on (by repeat (first | exact Below.refl _ _ | assumption | refine below_alloc ?_ _ | refine Below.setCell ?_ (by first | omega | (simp; done) | (simp; omega)) _ | refine Below.alloc ?_ (by first | omega | (simp; done) | (simp; omega)) _ | refine Below.drew ?_)) hb1⟩

end Go.Proofs.Ytlpopfhaephfaaa
