import Derived.Test.YtlpopfhaephfaabDoorRows
import Derived.Test.YtlpopfhaephfaabDoorBase
namespace Go.Proofs.YtlpopfhaephfaabDoor
open Go.RowKit

theorem Tryd.infoC : (Tryd.prog.info? 81).map (fun i => (i.zero, i.size, i.bytes)) = some (some (.agg #[.int .i64 0, .int .i64 0]), 2, 16) := by kernel_rfl

set_option maxHeartbeats 400000 in
theorem szCounterS_any (a : Option Addr) (len cap : Nat) (w : World) (hl : len ≤ maxLen) :
    Calls Tryd.prog 22 #[.slice a len cap, .int .i64 1048576] w fun e w' => e = .returned (.int .i64 (if (len : Int) ≤ 1048576 then 1048576 - len else -1)) ∧ w' = w := by
  unfold maxLen at hl
  by_cases h : (len : Int) ≤ 1048576
  · go_enter Tryd.func22, Tryd.ntmps22
    go_wp2
    go_ret
    exact ⟨rfl, rfl⟩
  · go_enter Tryd.func22, Tryd.ntmps22
    go_wp2
    go_ret
    exact ⟨rfl, rfl⟩

set_option maxHeartbeats 400000 in
theorem szLayout_any (S : Int) (a : Option Addr) (len cap : Nat) (w : World) (hl : len ≤ maxLen) :
    Calls Tryd.prog 6 #[.agg #[.int .i64 S, .slice a len cap], .int .i64 1048576] w fun e w' => e = .returned (.int .i64 (if (len : Int) ≤ 1048576 then 1048576 - len else -1)) ∧ Below w.heap.size w w' := by
  by_cases h : (len : Int) ≤ 1048576
  all_goals
    go_enter Tryd.func6, Tryd.ntmps6
    go_wp2_with (first | (go_at_call 22; refine (szCounterS_any _ _ _ _ hl).mono ?_; simp only [h, if_true, if_false]; rintro e w' ⟨rfl, rfl⟩))
    go_ret
    exact ⟨rfl, (Below.refl _ _).alloc (Nat.le_refl _) _⟩

set_option maxHeartbeats 400000 in
theorem toCounter_any (x y : Int) (w : World) :
    Calls Tryd.prog 46 #[.agg #[.int .i64 x, .int .i64 y]] w fun e w' => e = .returned (.agg #[.int .i64 x, .int .i64 y]) ∧ Below w.heap.size w w' := by
  go_enter Tryd.func46, Tryd.ntmps46
  go_wp2
  exact bodyPost_ret (v := .agg #[.int .i64 x, .int .i64 y]) (by simp [results, Tryd.results46, go_sem]) rfl ⟨rfl, (((Below.refl _ _).alloc (Nat.le_refl _) _).alloc (by simp) _).alloc (by simp; omega) _⟩

/-- the row behind k rounds -/
def twoTo (k : Nat) (F T : Nat → Int) : Nat → Nat → Value := fun i j => if i < k then two F T i j else .int .i64 0

theorem row_step {w' : World} {b e n k : Nat} {F T : Nat → Int} (h : Row w' b e 2 n (twoTo k F T)) :
    Row ((w'.setCell ⟨b, k * 2, none⟩ (.int .i64 (F k))).setCell ⟨b, k * 2 + 1, none⟩ (.int .i64 (T k))) b e 2 n (twoTo (k + 1) F T) := by
  refine ((h.set0 (i := k) (by omega) _).set (i := k) (j := 1) (by omega) _).congr fun i hi j hj => ?_
  unfold twoTo two
  rcases Nat.lt_trichotomy i k with h1 | h1 | h1
  · have a1 : ¬ i = k := by omega
    have a2 : i < k + 1 := by omega
    simp [a1, a2, h1]
  · subst h1
    rcases (show j = 0 ∨ j = 1 by omega) with rfl | rfl <;> simp
  · have a1 : ¬ i = k := by omega
    have a2 : ¬ i < k + 1 := by omega
    have a3 : ¬ i < k := by omega
    simp [a1, a2, a3]

set_option maxHeartbeats 400000 in
theorem toCounterS_some (b off n cap : Nat) (F T : Nat → Int) (w : World) (hb : b < w.heap.size) (hn : n ≤ 1048576) (hF : ∀ i, i < n → w.cell? ⟨b, off + i * 2, none⟩ = some (.int .i64 (F i)))
    (hT : ∀ i, i < n → w.cell? ⟨b, off + i * 2 + 1, none⟩ = some (.int .i64 (T i))) :
    Calls Tryd.prog 26 #[.slice (some ⟨b, off, none⟩) n cap] w fun e w' => e = .returned (.slice (some ⟨w.heap.size, 0, none⟩) n n) ∧ Row w' w.heap.size 81 2 n (two F T) ∧ Below w.heap.size w w' := by
  obtain ⟨i0, hi, hz0, hz1, hz2⟩ := info_parts Tryd.infoC
  go_enter Tryd.func26, Tryd.ntmps26
  go_wp2_with (first
    | (at_make; refine wpList_make_full _ rfl _ _ 29 rfl w.heap.size 81 i0 _ 2 Tryd.underlying29 hi hz0 hz1 .i64 .i64 _ _ n rfl rfl rfl rfl (by rw [hz2]; omega) (by unfold maxLen; omega) (by simp) ?_; intro w1 hown hgrow))
  have hR : Row w1 w.heap.size 81 2 n (twoTo 0 F T) := (Blk.made (g := fun _ => .int .i64 0) hown rfl rfl (fun i hi => by match i, hi with | 0, _ => rfl | 1, _ => rfl)).congr (fun i _ => by simp [twoTo])
  have hB : Below w.heap.size w w1 := (Below.refl _ _).grown hgrow (Nat.le_refl _) (fun k hk => by simp at hk)
  clear hown hgrow
  go_loopw [4] (fun i wr => ∃ k : Nat, k ≤ n ∧ i = .int .i64 k ∧ Below w.heap.size w wr ∧ Row wr w.heap.size 81 2 n (twoTo k F T)) (fun i _ => n - (intOf i).toNat)
  case atStart => exact ⟨0, Nat.zero_le _, rfl, hB, hR⟩
  case round =>
    obtain ⟨k, hk, rfl, hbel, hrow⟩ := hrel
    clear hR hB
    by_cases hlt : k < n
    · have h1 : wr.cell? ⟨b, off + k * 2, none⟩ = some (.int .i64 (F k)) := (hbel.cell (p := ⟨b, off + k * 2, none⟩) hb).trans (hF k hlt)
      have h2 : wr.cell? ⟨b, off + k * 2 + 1, none⟩ = some (.int .i64 (T k)) := (hbel.cell (p := ⟨b, off + k * 2 + 1, none⟩) hb).trans (hT k hlt)
      clear hF hT
      go_wp2_with (first | (go_at_call 46; refine (toCounter_any _ _ _).mono ?_; rintro e w' ⟨rfl, hb1⟩; have hrow' := hrow.below hb1 hrow.lt; have c1 := hrow'.cell0 hlt (by omega); have c2 := hrow'.cell (j := 1) hlt (by omega); have f1 := hrow'.frozen (k * 2); have f2 := hrow'.frozen (k * 2 + 1)))
      go_roundw
      case rel => exact ⟨k + 1, by omega, by go_num, ((hbel.trans (hb1.mono (Nat.le_of_lt hrow.lt))).setCell (Nat.le_refl _) _).setCell (Nat.le_refl _) _, row_step hrow'⟩
      case measure => simp [intOf]; omega
    · go_wp2
      go_ret
      exact ⟨rfl, hrow.congr (fun i hi j _ => by simp [twoTo]; omega), hbel⟩


set_option maxHeartbeats 400000 in
theorem toCounterS_none (ao : Option Addr) (cap : Nat) (F T : Nat → Int) (w : World) :
    Calls Tryd.prog 26 #[.slice ao 0 cap] w fun e w' => e = .returned (.slice (some ⟨w.heap.size, 0, none⟩) 0 0) ∧ Row w' w.heap.size 81 2 0 (two F T) ∧ Below w.heap.size w w' := by
  obtain ⟨i0, hi, hz0, hz1, hz2⟩ := info_parts Tryd.infoC
  go_enter Tryd.func26, Tryd.ntmps26
  go_wp2_with (first
    | (at_make; refine wpList_make_full _ rfl _ _ 29 rfl w.heap.size 81 i0 _ 2 Tryd.underlying29 hi hz0 hz1 .i64 .i64 _ _ 0 rfl rfl rfl rfl (by rw [hz2]; omega) (by unfold maxLen; omega) (by simp) ?_; intro w1 hown hgrow))
  have hR : Row w1 w.heap.size 81 2 0 (two F T) := (Blk.made (g := fun _ => .int .i64 0) hown rfl rfl (fun i hi => by match i, hi with | 0, _ => rfl | 1, _ => rfl)).congr (fun i hi => by omega)
  have hB : Below w.heap.size w w1 := (Below.refl _ _).grown hgrow (Nat.le_refl _) (fun k hk => by simp at hk)
  clear hown hgrow
  refine wp_loop_rounds 1 ?_
  rw [rounds_succ]
  go_wp2
  go_ret
  exact ⟨rfl, hR, hB⟩

/-- What a '[]Counter' that came in reads as: its length is n, its pairs F i, T i. -/
def Came (w : World) (ao : Option Addr) (n : Nat) (F T : Nat → Int) : Prop :=
  n = 0 ∨ ∃ b off, ao = some ⟨b, off, none⟩ ∧ b < w.heap.size ∧ ∀ i, i < n → w.cell? ⟨b, off + i * 2, none⟩ = some (.int .i64 (F i)) ∧ w.cell? ⟨b, off + i * 2 + 1, none⟩ = some (.int .i64 (T i))

theorem Came.below {w w' : World} {ao : Option Addr} {n : Nat} {F T : Nat → Int} (h : Came w ao n F T) (hb : Below w.heap.size w w') : Came w' ao n F T := by
  rcases h with h | ⟨b, off, h1, h2, h3⟩
  · exact .inl h
  · exact .inr ⟨b, off, h1, Nat.lt_of_lt_of_le h2 hb.size, fun i hi => ⟨(hb.cell (p := ⟨b, off + i * 2, none⟩) h2).trans (h3 i hi).1, (hb.cell (p := ⟨b, off + i * 2 + 1, none⟩) h2).trans (h3 i hi).2⟩⟩

theorem toCounterS_any (ao : Option Addr) (n cap : Nat) (F T : Nat → Int) (w : World) (hn : n ≤ 1048576) (h : Came w ao n F T) :
    Calls Tryd.prog 26 #[.slice ao n cap] w fun e w' => e = .returned (.slice (some ⟨w.heap.size, 0, none⟩) n n) ∧ Row w' w.heap.size 81 2 n (two F T) ∧ Below w.heap.size w w' := by
  rcases h with rfl | ⟨b, off, rfl, h2, h3⟩
  · exact toCounterS_none ao cap F T w
  · exact toCounterS_some b off n cap F T w h2 hn (fun i hi => (h3 i hi).1) (fun i hi => (h3 i hi).2)

set_option maxHeartbeats 400000 in
theorem toLayout_any (S : Int) (ao : Option Addr) (n cap : Nat) (F T : Nat → Int) (w : World) (hn : n ≤ 1048576) (h : Came w ao n F T) :
    Calls Tryd.prog 9 #[.agg #[.int .i64 S, .slice ao n cap]] w fun e w' => ∃ g, e = .returned (.agg #[.int .i64 S, .slice (some ⟨g, 0, none⟩) n n]) ∧ w.heap.size ≤ g ∧ Row w' g 81 2 n (two F T) ∧ Below w.heap.size w w' := by
  have hc : ∀ w1, Below w.heap.size w w1 → Came w1 ao n F T := fun w1 hb => h.below hb
  go_enter Tryd.func9, Tryd.ntmps9
  go_wp2_with (first | (go_at_call 26; refine (toCounterS_any _ _ _ F T _ hn (hc _ ?hb)).mono ?_; rotate_left; rintro e w1 ⟨rfl, hrow, hbel⟩; obtain ⟨q1, q2⟩ := bcell hbel))
  case hb => exact (by repeat (first | exact Below.refl _ _ | assumption | refine below_alloc ?_ _ | refine Below.setCell ?_ (by first | omega | (simp; done) | (simp; omega)) _ | refine Below.alloc ?_ (by first | omega | (simp; done) | (simp; omega)) _ | refine Below.drew ?_))
  have hz : w.heap.size + 1 + 1 + 1 < w1.heap.size := by have := hrow.lt; simpa using this
  have hb2 : Below w.heap.size w w1 := (show Below w.heap.size w _ from (by repeat (first | exact Below.refl _ _ | assumption | refine below_alloc ?_ _ | refine Below.setCell ?_ (by first | omega | (simp; done) | (simp; omega)) _ | refine Below.alloc ?_ (by first | omega | (simp; done) | (simp; omega)) _ | refine Below.drew ?_))).trans (hbel.mono (by first | omega | (simp; done) | (simp; omega)))
  have hrow2 : Row w1 (w.heap.size + 1 + 1 + 1) 81 2 n (two F T) := by simpa using hrow
  refine bodyPost_ret (v := .agg #[.int .i64 S, .slice (some ⟨w.heap.size + 1 + 1 + 1, 0, none⟩) n n]) (by simp [results, Tryd.results9, go_sem, q1]) rfl ⟨_, rfl, (by first | omega | (simp; done) | (simp; omega)), ((hrow2.set_other (by first | omega | (simp; done) | (simp; omega)) _).set_other (by first | omega | (simp; done) | (simp; omega)) _).set_other (by first | omega | (simp; done) | (simp; omega)) _, (by repeat (first | exact Below.refl _ _ | assumption | refine below_alloc ?_ _ | refine Below.setCell ?_ (by first | omega | (simp; done) | (simp; omega)) _ | refine Below.alloc ?_ (by first | omega | (simp; done) | (simp; omega)) _ | refine Below.drew ?_))⟩

end Go.Proofs.YtlpopfhaephfaabDoor
