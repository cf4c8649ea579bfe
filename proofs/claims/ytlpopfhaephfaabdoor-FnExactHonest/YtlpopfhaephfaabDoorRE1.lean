import Derived.Test.YtlpopfhaephfaabDoorEV1
import Derived.Test.YtlpopfhaephfaabDoorMkL
import Derived.BigRegion
import Derived.BigQuiet
import Derived.Deep.QuietTactic
import Derived.Deep.RegionWith
namespace Go.Proofs.YtlpopfhaephfaabDoor
open Go.RowKit

/-- numbers, cell by cell -/
def evs (P : Nat → Nat → Int) (i j : Nat) : Value := .int .i64 (P i j)

theorem Tryd.infoEv : (Tryd.prog.info? 51).map (fun i => (i.zero, i.size, i.bytes)) = some (some (.agg #[.int .i64 0, .int .i64 0, .int .i64 0]), 3, 24) := by kernel_rfl

theorem szEventS_any (a : Option Addr) (len cap : Nat) (left : Int) (w : World) (hl : len ≤ maxLen) (h0 : 0 ≤ left) (h1 : left ≤ 1048576) :
    Calls Tryd.prog 7 #[.slice a len cap, .int .i64 left] w fun e w' => e = .returned (.int .i64 (if (len : Int) ≤ left then left - len else -1)) ∧ w' = w := by
  unfold maxLen at hl
  by_cases h : (len : Int) ≤ left
  · go_enter Tryd.func7, Tryd.ntmps7
    go_wp2
    go_ret
    exact ⟨rfl, rfl⟩
  · go_enter Tryd.func7, Tryd.ntmps7
    go_wp2
    go_ret
    exact ⟨rfl, rfl⟩

set_option maxHeartbeats 400000 in
theorem toEvent_any (x y z : Int) (w : World) :
    Calls Tryd.prog 27 #[.agg #[.int .i64 x, .int .i64 y, .int .i64 z]] w fun e w' => e = .returned (.agg #[.int .i64 x, .int .i64 y, .int .i64 z]) ∧ Below w.heap.size w w' := by
  go_enter Tryd.func27, Tryd.ntmps27
  go_wp2
  exact bodyPost_ret (v := .agg #[.int .i64 x, .int .i64 y, .int .i64 z]) (by simp [results, Tryd.results27, go_sem]) rfl ⟨rfl, (by repeat (first | exact Below.refl _ _ | assumption | refine below_alloc ?_ _ | refine Below.setCell ?_ (by first | omega | (simp; done) | (simp; omega)) _ | refine Below.alloc ?_ (by first | omega | (simp; done) | (simp; omega)) _ | refine Below.drew ?_))⟩

def evsTo (k : Nat) (P : Nat → Nat → Int) : Nat → Nat → Value := fun i j => if i < k then evs P i j else .int .i64 0

theorem row_step3 {w' : World} {b e n k : Nat} {P : Nat → Nat → Int} (h : Row w' b e 3 n (evsTo k P)) :
    Row (((w'.setCell ⟨b, k * 3, none⟩ (.int .i64 (P k 0))).setCell ⟨b, k * 3 + 1, none⟩ (.int .i64 (P k 1))).setCell ⟨b, k * 3 + 2, none⟩ (.int .i64 (P k 2))) b e 3 n (evsTo (k + 1) P) := by
  refine (((h.set0 (i := k) (by omega) _).set (i := k) (j := 1) (by omega) _).set (i := k) (j := 2) (by omega) _).congr fun i hi j hj => ?_
  unfold evsTo evs
  rcases Nat.lt_trichotomy i k with h1 | h1 | h1
  · have a1 : ¬ i = k := by omega
    have a2 : i < k + 1 := by omega
    simp [a1, a2, h1]
  · subst h1
    rcases (show j = 0 ∨ j = 1 ∨ j = 2 by omega) with rfl | rfl | rfl <;> simp
  · have a1 : ¬ i = k := by omega
    have a2 : ¬ i < k + 1 := by omega
    have a3 : ¬ i < k := by omega
    simp [a1, a2, a3]

/-- What a slice of three-cell structs that came in reads as. -/
def Came3 (w : World) (ao : Option Addr) (n : Nat) (P : Nat → Nat → Int) : Prop :=
  n = 0 ∨ ∃ b off, ao = some ⟨b, off, none⟩ ∧ b < w.heap.size ∧ ∀ i, i < n → ∀ j, j < 3 → w.cell? ⟨b, off + i * 3 + j, none⟩ = some (.int .i64 (P i j))

theorem Came3.below {w w' : World} {ao : Option Addr} {n : Nat} {P : Nat → Nat → Int} (h : Came3 w ao n P) (hb : Below w.heap.size w w') : Came3 w' ao n P := by
  rcases h with h | ⟨b, off, h1, h2, h3⟩
  · exact .inl h
  · exact .inr ⟨b, off, h1, Nat.lt_of_lt_of_le h2 hb.size, fun i hi j hj => (hb.cell (p := ⟨b, off + i * 3 + j, none⟩) h2).trans (h3 i hi j hj)⟩

set_option maxHeartbeats 400000 in
theorem toEventS_some (b off n cap : Nat) (P : Nat → Nat → Int) (w : World) (hb : b < w.heap.size) (hn : n ≤ 1048576) (hF : ∀ i, i < n → ∀ j, j < 3 → w.cell? ⟨b, off + i * 3 + j, none⟩ = some (.int .i64 (P i j))) :
    Calls Tryd.prog 10 #[.slice (some ⟨b, off, none⟩) n cap] w fun e w' => e = .returned (.slice (some ⟨w.heap.size, 0, none⟩) n n) ∧ Row w' w.heap.size 51 3 n (evs P) ∧ Below w.heap.size w w' := by
  obtain ⟨i0, hi, hz0, hz1, hz2⟩ := info_parts Tryd.infoEv
  go_enter Tryd.func10, Tryd.ntmps10
  go_wp2_with (first
    | (at_make; refine wpList_make_full _ rfl _ _ 33 rfl w.heap.size 51 i0 _ 3 Tryd.underlying33 hi hz0 hz1 .i64 .i64 _ _ n rfl rfl rfl rfl (by rw [hz2]; omega) (by unfold maxLen; omega) (by simp) ?_; intro w1 hown hgrow))
  have hR : Row w1 w.heap.size 51 3 n (evsTo 0 P) := (Blk.made (g := fun _ => .int .i64 0) hown rfl rfl (fun i hi => by match i, hi with | 0, _ => rfl | 1, _ => rfl | 2, _ => rfl)).congr (fun i _ => by simp [evsTo])
  have hB : Below w.heap.size w w1 := (Below.refl _ _).grown hgrow (Nat.le_refl _) (fun k hk => by simp at hk)
  clear hown hgrow
  go_loopw [4] (fun i wr => ∃ k : Nat, k ≤ n ∧ i = .int .i64 k ∧ Below w.heap.size w wr ∧ Row wr w.heap.size 51 3 n (evsTo k P)) (fun i _ => n - (intOf i).toNat)
  case atStart => exact ⟨0, Nat.zero_le _, rfl, hB, hR⟩
  case round =>
    obtain ⟨k, hk, rfl, hbel, hrow⟩ := hrel
    clear hR hB
    by_cases hlt : k < n
    · have h0 : wr.cell? ⟨b, off + k * 3, none⟩ = some (.int .i64 (P k 0)) := (hbel.cell (p := ⟨b, off + k * 3, none⟩) hb).trans (hF k hlt 0 (by omega))
      have h1 : wr.cell? ⟨b, off + k * 3 + 1, none⟩ = some (.int .i64 (P k 1)) := (hbel.cell (p := ⟨b, off + k * 3 + 1, none⟩) hb).trans (hF k hlt 1 (by omega))
      have h2 : wr.cell? ⟨b, off + k * 3 + 2, none⟩ = some (.int .i64 (P k 2)) := (hbel.cell (p := ⟨b, off + k * 3 + 2, none⟩) hb).trans (hF k hlt 2 (by omega))
      clear hF
      go_wp2_with (first | (go_at_call 27; refine (toEvent_any _ _ _ _).mono ?_; rintro e w' ⟨rfl, hb1⟩; have hrow' := hrow.below hb1 hrow.lt; have c0 := hrow'.cell0 hlt (by omega); have c1 := hrow'.cell (j := 1) hlt (by omega); have c2 := hrow'.cell (j := 2) hlt (by omega); have f0 := hrow'.frozen (k * 3); have f1 := hrow'.frozen (k * 3 + 1); have f2 := hrow'.frozen (k * 3 + 2)))
      go_roundw
      case rel => exact ⟨k + 1, by omega, by go_num, (((hbel.trans (hb1.mono (Nat.le_of_lt hrow.lt))).setCell (Nat.le_refl _) _).setCell (Nat.le_refl _) _).setCell (Nat.le_refl _) _, row_step3 hrow'⟩
      case measure => simp [intOf]; omega
    · go_wp2
      go_ret
      exact ⟨rfl, hrow.congr (fun i hi j _ => by simp [evsTo]; omega), hbel⟩

theorem toEventS_none (ao : Option Addr) (cap : Nat) (P : Nat → Nat → Int) (w : World) :
    Calls Tryd.prog 10 #[.slice ao 0 cap] w fun e w' => e = .returned (.slice (some ⟨w.heap.size, 0, none⟩) 0 0) ∧ Row w' w.heap.size 51 3 0 (evs P) ∧ Below w.heap.size w w' := by
  obtain ⟨i0, hi, hz0, hz1, hz2⟩ := info_parts Tryd.infoEv
  go_enter Tryd.func10, Tryd.ntmps10
  go_wp2_with (first
    | (at_make; refine wpList_make_full _ rfl _ _ 33 rfl w.heap.size 51 i0 _ 3 Tryd.underlying33 hi hz0 hz1 .i64 .i64 _ _ 0 rfl rfl rfl rfl (by rw [hz2]; omega) (by unfold maxLen; omega) (by simp) ?_; intro w1 hown hgrow))
  have hR : Row w1 w.heap.size 51 3 0 (evs P) := (Blk.made (g := fun _ => .int .i64 0) hown rfl rfl (fun i hi => by match i, hi with | 0, _ => rfl | 1, _ => rfl | 2, _ => rfl)).congr (fun i hi => by omega)
  have hB : Below w.heap.size w w1 := (Below.refl _ _).grown hgrow (Nat.le_refl _) (fun k hk => by simp at hk)
  clear hown hgrow
  refine wp_loop_rounds 1 ?_
  rw [rounds_succ]
  go_wp2
  go_ret
  exact ⟨rfl, hR, hB⟩

theorem toEventS_any (ao : Option Addr) (n cap : Nat) (P : Nat → Nat → Int) (w : World) (hn : n ≤ 1048576) (h : Came3 w ao n P) :
    Calls Tryd.prog 10 #[.slice ao n cap] w fun e w' => e = .returned (.slice (some ⟨w.heap.size, 0, none⟩) n n) ∧ Row w' w.heap.size 51 3 n (evs P) ∧ Below w.heap.size w w' := by
  rcases h with rfl | ⟨b, off, rfl, h2, h3⟩
  · exact toEventS_none ao cap P w
  · exact toEventS_some b off n cap P w h2 hn h3

set_option maxHeartbeats 400000 in
theorem eqEvent_same (x y z : Int) (w : World) :
    Calls Tryd.prog 31 #[.agg #[.int .i64 x, .int .i64 y, .int .i64 z], .agg #[.int .i64 x, .int .i64 y, .int .i64 z]] w fun e w' => e = .returned (.bool true) ∧ Below w.heap.size w w' := by
  go_enter Tryd.func31, Tryd.ntmps31
  go_wp2
  go_ret
  exact ⟨rfl, (by repeat (first | exact Below.refl _ _ | assumption | refine below_alloc ?_ _ | refine Below.setCell ?_ (by first | omega | (simp; done) | (simp; omega)) _ | refine Below.alloc ?_ (by first | omega | (simp; done) | (simp; omega)) _ | refine Below.drew ?_))⟩

set_option maxHeartbeats 1000000 in
theorem eqEventS_some (g g' m m' cap cap' n : Nat) (f f' : Nat → Value) (P P' : Nat → Nat → Int) (w : World) (hn : n ≤ 1048576) (h1 : Blk w g 51 m f) (h2 : n * 3 ≤ m) (h3 : ∀ i, i < n → ∀ j, j < 3 → f (i * 3 + j) = .int .i64 (P i j)) (h1' : Blk w g' 51 m' f') (h2' : n * 3 ≤ m') (h3' : ∀ i, i < n → ∀ j, j < 3 → f' (i * 3 + j) = .int .i64 (P' i j)) (he : ∀ i, i < n → ∀ j, j < 3 → P' i j = P i j) :
    Calls Tryd.prog 13 #[.slice (some ⟨g, 0, none⟩) n cap, .slice (some ⟨g', 0, none⟩) n cap'] w fun e w' => e = .returned (.bool true) ∧ Below w.heap.size w w' := by
  go_enter Tryd.func13, Tryd.ntmps13
  go_wp2
  go_loopw [5] (fun i wr => ∃ k : Nat, k ≤ n ∧ i = .int .i64 k ∧ Below w.heap.size w wr) (fun i _ => n - (intOf i).toNat)
  case atStart => exact ⟨0, Nat.zero_le _, rfl, Below.refl _ _⟩
  case round =>
    obtain ⟨k, hk, rfl, hbel⟩ := hrel
    by_cases hlt : k < n
    · have B := h1.below hbel h1.lt
      have B' := h1'.below hbel h1'.lt
      have c0 : wr.cell? ⟨g, k * 3, none⟩ = some (.int .i64 (P k 0)) := by rw [B.cell (by omega)]; exact congrArg some (h3 k hlt 0 (by omega))
      have c1 : wr.cell? ⟨g, k * 3 + 1, none⟩ = some (.int .i64 (P k 1)) := by rw [B.cell (by omega), h3 k hlt 1 (by omega)]
      have c2 : wr.cell? ⟨g, k * 3 + 2, none⟩ = some (.int .i64 (P k 2)) := by rw [B.cell (by omega), h3 k hlt 2 (by omega)]
      have c0' : wr.cell? ⟨g', k * 3, none⟩ = some (.int .i64 (P k 0)) := by rw [B'.cell (by omega), ← he k hlt 0 (by omega)]; exact congrArg some (h3' k hlt 0 (by omega))
      have c1' : wr.cell? ⟨g', k * 3 + 1, none⟩ = some (.int .i64 (P k 1)) := by rw [B'.cell (by omega), h3' k hlt 1 (by omega), he k hlt 1 (by omega)]
      have c2' : wr.cell? ⟨g', k * 3 + 2, none⟩ = some (.int .i64 (P k 2)) := by rw [B'.cell (by omega), h3' k hlt 2 (by omega), he k hlt 2 (by omega)]
      have hi : (k : Int) < (n : Int) := by omega
      have HB : Hid (Below w.heap.size w wr) := hbel
      clear h1 h1' h3 h3' he B B' hbel
      go_wp2
      go_region_with (go_at_call 31; refine (eqEvent_same _ _ _ _).mono ?_; rintro e w1 ⟨rfl, hb1⟩)
      all_goals
        go_wp2
        go_roundw
        case rel => exact ⟨k + 1, by omega, by go_num, HB.out.drew.trans (hb1.mono (by simpa using HB.out.size))⟩
        case measure => simp [intOf]; omega
    · go_wp2
      go_ret
      exact ⟨rfl, hbel⟩

theorem eqEventS_none (ao ao' : Option Addr) (cap cap' : Nat) (w : World) :
    Calls Tryd.prog 13 #[.slice ao 0 cap, .slice ao' 0 cap'] w fun e w' => e = .returned (.bool true) ∧ Below w.heap.size w w' := by
  go_enter Tryd.func13, Tryd.ntmps13
  go_wp2
  refine wp_loop_rounds 1 ?_
  rw [rounds_succ]
  go_wp2
  go_ret
  exact ⟨rfl, Below.refl _ _⟩

theorem mark3_cells {w : World} {g e m k n : Nat} {f : Nat → Value} (h : Blk w g e m f) (hm : n * 3 ≤ m) (hk : k < n) : w.cell? ⟨g, k * 3, none⟩ = some (f (k * 3)) ∧ w.cell? ⟨g, k * 3 + 1, none⟩ = some (f (k * 3 + 1)) ∧ w.cell? ⟨g, k * 3 + 2, none⟩ = some (f (k * 3 + 2)) :=
  ⟨h.cell (by omega), h.cell (by omega), h.cell (by omega)⟩

/-- what stands in the block behind k rounds of marking -/
def mark3 (q0 : Int) (k : Nat) (f : Nat → Value) : Nat → Value := fun c => if c < k * 3 then .int .i64 (q0 + (c : Int)) else f c

theorem mark3_step (q0 : Int) (k : Nat) (f : Nat → Value) (c : Nat) :
    (if c = k * 3 + 2 then Value.int .i64 (q0 + 3 * (k : Int) + 1 + 1) else if c = k * 3 + 1 then Value.int .i64 (q0 + 3 * (k : Int) + 1) else if c = k * 3 then Value.int .i64 (q0 + 3 * (k : Int)) else mark3 q0 k f c) = mark3 q0 (k + 1) f c := by
  unfold mark3
  split
  · rename_i h; subst h; rw [if_pos (by omega)]; congr 1; omega
  · split
    · rename_i h; subst h; rw [if_pos (by omega)]; congr 1; omega
    · split
      · rename_i h; subst h; rw [if_pos (by omega)]; congr 1; omega
      · by_cases h : c < k * 3
        · rw [if_pos h, if_pos (by omega)]
        · rw [if_neg h, if_neg (by omega)]

set_option maxHeartbeats 1000000 in
theorem markEventS_some (g m cap n : Nat) (q0 : Int) (f : Nat → Value) (w : World) (hn : n ≤ 1048576) (hq0 : 0 ≤ q0) (hq1 : q0 ≤ 1000000000) (h1 : Blk w g 51 m f) (h2 : n * 3 ≤ m) :
    Calls Tryd.prog 43 #[.slice (some ⟨g, 0, none⟩) n cap, .int .i64 q0] w fun e w' => e = .returned (.int .i64 (q0 + 3 * (n : Int))) ∧ Blk w' g 51 m (mark3 q0 n f) ∧ w.grownBy w' (some g) := by
  go_enter Tryd.func43, Tryd.ntmps43
  go_wp2
  go_loopw [1, 5] (fun q i wr => ∃ k : Nat, k ≤ n ∧ i = .int .i64 k ∧ q = .int .i64 (q0 + 3 * (k : Int)) ∧ Blk wr g 51 m (mark3 q0 k f) ∧ w.grownBy wr (some g)) (fun _ i _ => n - (intOf i).toNat)
  case atStart => exact ⟨0, Nat.zero_le _, rfl, by simp, h1.congr (fun i _ => by simp [mark3]), World.grownBy.refl _ _⟩
  case round =>
    obtain ⟨k, hk, rfl, rfl, hB, hG⟩ := hrel
    by_cases hlt : k < n
    · obtain ⟨c0, c1, c2⟩ := mark3_cells hB h2 hlt
      have z0 := hB.frozen (k * 3)
      have z1 := hB.frozen (k * 3 + 1)
      have z2 := hB.frozen (k * 3 + 2)
      clear h1
      go_wp2
      go_roundw
      case rel => exact ⟨k + 1, by omega, by go_num, by go_num, (((hB.set (k * 3) _).set (k * 3 + 1) _).set (k * 3 + 2) _).congr (fun c _ => mark3_step q0 k f c), grown_set (grown_set (grown_set hG _) _) _⟩
      case measure => simp [intOf]; omega
    · go_wp2
      go_ret
      have : k = n := by omega
      subst this
      exact ⟨rfl, hB, hG⟩

theorem markEventS_none (ao : Option Addr) (cap : Nat) (q0 : Int) (w : World) :
    Calls Tryd.prog 43 #[.slice ao 0 cap, .int .i64 q0] w fun e w' => e = .returned (.int .i64 q0) ∧ w' = w := by
  go_enter Tryd.func43, Tryd.ntmps43
  go_wp2
  refine wp_loop_rounds 1 ?_
  rw [rounds_succ]
  go_wp2
  go_ret
  exact ⟨rfl, rfl⟩


theorem eqEventS_same (lo hi lo' hi' n : Nat) (v v' : Value) (P : Nat → Nat → Int) (w : World) (hn : n ≤ 1048576) (h : SlF w 51 3 lo hi v n (evs P)) (h' : SlF w 51 3 lo' hi' v' n (evs P)) :
    Calls Tryd.prog 13 #[v, v'] w fun e w' => e = .returned (.bool true) ∧ Below w.heap.size w w' := by
  obtain ⟨ao, cap, rfl, h0⟩ := h
  obtain ⟨ao', cap', rfl, h0'⟩ := h'
  rcases Nat.eq_zero_or_pos n with rfl | hp
  · exact eqEventS_none _ _ _ _ _
  · rcases h0 with h0 | ⟨g, m, f, rfl, _, _, h2, h3, h4⟩
    · omega
    · rcases h0' with h0' | ⟨g', m', f', rfl, _, _, h2', h3', h4'⟩
      · omega
      · exact eqEventS_some g g' m m' cap cap' n f f' P P w hn h3 h2 h4 h3' h2' h4' (fun _ _ _ _ => rfl)

theorem markEventS_any (lo hi n : Nat) (v : Value) (q0 : Int) (P : Nat → Nat → Int) (w : World) (hn : n ≤ 1048576) (hq0 : 0 ≤ q0) (hq1 : q0 ≤ 1000000000) (h : SlF w 51 3 lo hi v n (evs P)) :
    Calls Tryd.prog 43 #[v, .int .i64 q0] w fun e w' => e = .returned (.int .i64 (q0 + 3 * (n : Int))) ∧ Turned w w' (· = 51) lo hi := by
  obtain ⟨ao, cap, rfl, h0⟩ := h
  rcases Nat.eq_zero_or_pos n with rfl | hp
  · exact (markEventS_none _ _ _ _).mono fun e w' ⟨h1, h2⟩ => ⟨by rw [h1]; simp, by rw [h2]; exact Turned.refl _ _ _ _⟩
  · rcases h0 with h0 | ⟨g, m, f, rfl, h1, h1', h2, h3, h4⟩
    · omega
    · exact (markEventS_some g m cap n q0 f w hn hq0 hq1 h3 h2).mono fun e w' ⟨a, b, c⟩ => ⟨a, Turned.of_grown c h1 h1' rfl h3⟩

end Go.Proofs.YtlpopfhaephfaabDoor
