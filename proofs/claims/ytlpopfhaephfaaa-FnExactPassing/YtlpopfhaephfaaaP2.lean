import Derived.Test.YtlpopfhaephfaaaP1
import Derived.BigRegion
import Derived.BigQuiet
import Derived.Deep.QuietTactic
import Derived.Deep.RegionWith
namespace Go.Proofs.Ytlpopfhaephfaaa
open Go.RowKit

/-- A slice of n structs of three ints (element type e), in a block g with lo ≤ g and g < hi, or an empty one. -/
def TriF (w : World) (e lo hi : Nat) (v : Value) (n : Nat) (P : Nat → Nat → Int) : Prop :=
  ∃ ao cap, v = .slice ao n cap ∧ (n = 0 ∨ ∃ g m f, ao = some ⟨g, 0, none⟩ ∧ lo ≤ g ∧ g < hi ∧ n * 3 ≤ m ∧ Blk w g e m f ∧ ∀ i, i < n → ∀ j, j < 3 → f (i * 3 + j) = .int .i64 (P i j))

theorem TriF.of_block {w w' : World} {e lo hi n : Nat} {v : Value} {P : Nat → Nat → Int} (h : TriF w e lo hi v n P) (hb : ∀ g m f, Blk w g e m f → lo ≤ g → g < hi → w'.heap[g]? = w.heap[g]?) : TriF w' e lo hi v n P := by
  obtain ⟨ao, cap, rfl, h0 | ⟨g, m, f, rfl, h1, h1', h2, h3, h4⟩⟩ := h
  · exact ⟨ao, cap, rfl, .inl h0⟩
  · exact ⟨_, cap, rfl, .inr ⟨g, m, f, rfl, h1, h1', h2, h3.of_block (hb g m f h3 h1 h1'), h4⟩⟩
theorem TriF.on {w w' : World} {e lo hi n : Nat} {v : Value} {P : Nat → Nat → Int} (h : TriF w e lo hi v n P) (hb : Below w.heap.size w w') : TriF w' e lo hi v n P := h.of_block fun g _ _ h1 _ _ => hb.block g h1.lt
theorem TriF.below {w w' : World} {e lo hi n B : Nat} {v : Value} {P : Nat → Nat → Int} (h : TriF w e lo hi v n P) (hb : Below B w w') (ht : hi ≤ B) : TriF w' e lo hi v n P := h.of_block fun g _ _ _ _ h2 => hb.block g (by omega)
theorem TriF.drew {w : World} {e lo hi n : Nat} {v : Value} {P : Nat → Nat → Int} (h : TriF w e lo hi v n P) : TriF w.drew e lo hi v n P := h
theorem TriF.alloc {w : World} {e lo hi n : Nat} {v : Value} {P : Nat → Nat → Int} (h : TriF w e lo hi v n P) (o : Obj) : TriF (w.alloc o) e lo hi v n P := h.of_block fun _ _ _ h1 _ _ => Below.heap_alloc _ _ _ h1.lt
/-- a write to a block of another element type leaves it alone -/
theorem TriF.marked {w w' : World} {e lo hi n gx m e' : Nat} {v : Value} {P : Nat → Nat → Int} {f : Nat → Value} (h : TriF w e lo hi v n P) (hx : Blk w gx e' m f) (he : e' ≠ e) (hg : w.grownBy w' (some gx)) : TriF w' e lo hi v n P :=
  h.of_block fun g _ _ h1 _ _ => hg.block g h1.lt (fun e1 => by
    simp only [Option.some.injEq] at e1; subst e1
    obtain ⟨_, a1, _⟩ := h1; obtain ⟨_, a2, _⟩ := hx
    rw [a1] at a2; simp only [Option.some.injEq, Obj.cells.injEq] at a2
    exact he a2.2.1.symm)

set_option maxHeartbeats 400000 in
theorem eqEvent_same (x y z : Int) (w : World) :
    Calls Try.prog 82 #[.agg #[.int .i64 x, .int .i64 y, .int .i64 z], .agg #[.int .i64 x, .int .i64 y, .int .i64 z]] w fun e w' => e = .returned (.bool true) ∧ Below w.heap.size w w' := by
  go_enter Try.func82, Try.ntmps82
  go_wp2
  go_ret
  exact ⟨rfl, (by repeat (first | exact Below.refl _ _ | assumption | refine below_alloc ?_ _ | refine Below.setCell ?_ (by first | omega | (simp; done) | (simp; omega)) _ | refine Below.alloc ?_ (by first | omega | (simp; done) | (simp; omega)) _ | refine Below.drew ?_))⟩

set_option maxHeartbeats 400000 in
theorem eqPost_same (x y z : Int) (w : World) :
    Calls Try.prog 83 #[.agg #[.int .i64 x, .int .i64 y, .int .i64 z], .agg #[.int .i64 x, .int .i64 y, .int .i64 z]] w fun e w' => e = .returned (.bool true) ∧ Below w.heap.size w w' := by
  go_enter Try.func83, Try.ntmps83
  go_wp2
  go_ret
  exact ⟨rfl, (by repeat (first | exact Below.refl _ _ | assumption | refine below_alloc ?_ _ | refine Below.setCell ?_ (by first | omega | (simp; done) | (simp; omega)) _ | refine Below.alloc ?_ (by first | omega | (simp; done) | (simp; omega)) _ | refine Below.drew ?_))⟩

set_option maxHeartbeats 1000000 in
theorem eqEventS_some (g g' m m' cap cap' n : Nat) (f f' : Nat → Value) (P P' : Nat → Nat → Int) (w : World) (hn : n ≤ 1048576) (h1 : Blk w g 45 m f) (h2 : n * 3 ≤ m) (h3 : ∀ i, i < n → ∀ j, j < 3 → f (i * 3 + j) = .int .i64 (P i j)) (h1' : Blk w g' 45 m' f') (h2' : n * 3 ≤ m') (h3' : ∀ i, i < n → ∀ j, j < 3 → f' (i * 3 + j) = .int .i64 (P' i j)) (he : ∀ i, i < n → ∀ j, j < 3 → P' i j = P i j) :
    Calls Try.prog 38 #[.slice (some ⟨g, 0, none⟩) n cap, .slice (some ⟨g', 0, none⟩) n cap'] w fun e w' => e = .returned (.bool true) ∧ Below w.heap.size w w' := by
  go_enter Try.func38, Try.ntmps38
  go_wp2
  go_loopw [5] (fun i wr => ∃ k : Nat, k ≤ n ∧ i = .int .i64 k ∧ Below w.heap.size w wr) (fun i _ => n - (intOf i).toNat)
  case atStart => exact ⟨0, Nat.zero_le _, rfl, Below.refl _ _⟩
  case round =>
    obtain ⟨k, hk, rfl, hbel⟩ := hrel
    by_cases hlt : k < n
    · have B := h1.below hbel h1.lt
      have B' := h1'.below hbel h1'.lt
      have c0 : wr.cell? ⟨g, k * 3, none⟩ = some (.int .i64 (P k 0)) := by rw [B.cell (by omega)]; exact congrArg some (h3 k hlt 0 (by omega))
      have c1 : wr.cell? ⟨g, k * 3 + 1, none⟩ = some (.int .i64 (P k 1)) := by rw [B.cell (by omega), h3 k hlt 1 (by omega)]
      have c2 : wr.cell? ⟨g, k * 3 + 2, none⟩ = some (.int .i64 (P k 2)) := by rw [B.cell (by omega), h3 k hlt 2 (by omega)]
      have c0' : wr.cell? ⟨g', k * 3, none⟩ = some (.int .i64 (P k 0)) := by rw [B'.cell (by omega), ← he k hlt 0 (by omega)]; exact congrArg some (h3' k hlt 0 (by omega))
      have c1' : wr.cell? ⟨g', k * 3 + 1, none⟩ = some (.int .i64 (P k 1)) := by rw [B'.cell (by omega), h3' k hlt 1 (by omega), he k hlt 1 (by omega)]
      have c2' : wr.cell? ⟨g', k * 3 + 2, none⟩ = some (.int .i64 (P k 2)) := by rw [B'.cell (by omega), h3' k hlt 2 (by omega), he k hlt 2 (by omega)]
      have hi : (k : Int) < (n : Int) := by omega
      have HB : Hid (Below w.heap.size w wr) := hbel
      clear h1 h1' h3 h3' he B B' hbel
      go_wp2
      go_region_with (go_at_call 82; refine (eqEvent_same _ _ _ _).mono ?_; rintro e w1 ⟨rfl, hb1⟩)
      all_goals
        go_wp2
        go_roundw
        case rel => exact ⟨k + 1, by omega, by go_num, HB.out.drew.trans (hb1.mono (by simpa using HB.out.size))⟩
        case measure => simp [intOf]; omega
    · go_wp2
      go_ret
      exact ⟨rfl, hbel⟩

theorem eqEventS_none (ao ao' : Option Addr) (cap cap' : Nat) (w : World) :
    Calls Try.prog 38 #[.slice ao 0 cap, .slice ao' 0 cap'] w fun e w' => e = .returned (.bool true) ∧ Below w.heap.size w w' := by
  go_enter Try.func38, Try.ntmps38
  go_wp2
  refine wp_loop_rounds 1 ?_
  rw [rounds_succ]
  go_wp2
  go_ret
  exact ⟨rfl, Below.refl _ _⟩

theorem eqEventS_same (lo hi lo' hi' n : Nat) (v v' : Value) (P P' : Nat → Nat → Int) (w : World) (hn : n ≤ 1048576) (h : TriF w 45 lo hi v n P) (h' : TriF w 45 lo' hi' v' n P') (he : ∀ i, i < n → ∀ j, j < 3 → P' i j = P i j) :
    Calls Try.prog 38 #[v, v'] w fun e w' => e = .returned (.bool true) ∧ Below w.heap.size w w' := by
  obtain ⟨ao, cap, rfl, h0⟩ := h
  obtain ⟨ao', cap', rfl, h0'⟩ := h'
  rcases Nat.eq_zero_or_pos n with rfl | hp
  · exact eqEventS_none _ _ _ _ _
  · rcases h0 with h0 | ⟨g, m, f, rfl, _, _, h2, h3, h4⟩
    · omega
    · rcases h0' with h0' | ⟨g', m', f', rfl, _, _, h2', h3', h4'⟩
      · omega
      · exact eqEventS_some g g' m m' cap cap' n f f' P P' w hn h3 h2 h4 h3' h2' h4' he

set_option maxHeartbeats 1000000 in
theorem eqPostS_some (g g' m m' cap cap' n : Nat) (f f' : Nat → Value) (P P' : Nat → Nat → Int) (w : World) (hn : n ≤ 1048576) (h1 : Blk w g 103 m f) (h2 : n * 3 ≤ m) (h3 : ∀ i, i < n → ∀ j, j < 3 → f (i * 3 + j) = .int .i64 (P i j)) (h1' : Blk w g' 103 m' f') (h2' : n * 3 ≤ m') (h3' : ∀ i, i < n → ∀ j, j < 3 → f' (i * 3 + j) = .int .i64 (P' i j)) (he : ∀ i, i < n → ∀ j, j < 3 → P' i j = P i j) :
    Calls Try.prog 39 #[.slice (some ⟨g, 0, none⟩) n cap, .slice (some ⟨g', 0, none⟩) n cap'] w fun e w' => e = .returned (.bool true) ∧ Below w.heap.size w w' := by
  go_enter Try.func39, Try.ntmps39
  go_wp2
  go_loopw [5] (fun i wr => ∃ k : Nat, k ≤ n ∧ i = .int .i64 k ∧ Below w.heap.size w wr) (fun i _ => n - (intOf i).toNat)
  case atStart => exact ⟨0, Nat.zero_le _, rfl, Below.refl _ _⟩
  case round =>
    obtain ⟨k, hk, rfl, hbel⟩ := hrel
    by_cases hlt : k < n
    · have B := h1.below hbel h1.lt
      have B' := h1'.below hbel h1'.lt
      have c0 : wr.cell? ⟨g, k * 3, none⟩ = some (.int .i64 (P k 0)) := by rw [B.cell (by omega)]; exact congrArg some (h3 k hlt 0 (by omega))
      have c1 : wr.cell? ⟨g, k * 3 + 1, none⟩ = some (.int .i64 (P k 1)) := by rw [B.cell (by omega), h3 k hlt 1 (by omega)]
      have c2 : wr.cell? ⟨g, k * 3 + 2, none⟩ = some (.int .i64 (P k 2)) := by rw [B.cell (by omega), h3 k hlt 2 (by omega)]
      have c0' : wr.cell? ⟨g', k * 3, none⟩ = some (.int .i64 (P k 0)) := by rw [B'.cell (by omega), ← he k hlt 0 (by omega)]; exact congrArg some (h3' k hlt 0 (by omega))
      have c1' : wr.cell? ⟨g', k * 3 + 1, none⟩ = some (.int .i64 (P k 1)) := by rw [B'.cell (by omega), h3' k hlt 1 (by omega), he k hlt 1 (by omega)]
      have c2' : wr.cell? ⟨g', k * 3 + 2, none⟩ = some (.int .i64 (P k 2)) := by rw [B'.cell (by omega), h3' k hlt 2 (by omega), he k hlt 2 (by omega)]
      have hi : (k : Int) < (n : Int) := by omega
      have HB : Hid (Below w.heap.size w wr) := hbel
      clear h1 h1' h3 h3' he B B' hbel
      go_wp2
      go_region_with (go_at_call 83; refine (eqPost_same _ _ _ _).mono ?_; rintro e w1 ⟨rfl, hb1⟩)
      all_goals
        go_wp2
        go_roundw
        case rel => exact ⟨k + 1, by omega, by go_num, HB.out.drew.trans (hb1.mono (by simpa using HB.out.size))⟩
        case measure => simp [intOf]; omega
    · go_wp2
      go_ret
      exact ⟨rfl, hbel⟩

theorem eqPostS_none (ao ao' : Option Addr) (cap cap' : Nat) (w : World) :
    Calls Try.prog 39 #[.slice ao 0 cap, .slice ao' 0 cap'] w fun e w' => e = .returned (.bool true) ∧ Below w.heap.size w w' := by
  go_enter Try.func39, Try.ntmps39
  go_wp2
  refine wp_loop_rounds 1 ?_
  rw [rounds_succ]
  go_wp2
  go_ret
  exact ⟨rfl, Below.refl _ _⟩

theorem eqPostS_same (lo hi lo' hi' n : Nat) (v v' : Value) (P P' : Nat → Nat → Int) (w : World) (hn : n ≤ 1048576) (h : TriF w 103 lo hi v n P) (h' : TriF w 103 lo' hi' v' n P') (he : ∀ i, i < n → ∀ j, j < 3 → P' i j = P i j) :
    Calls Try.prog 39 #[v, v'] w fun e w' => e = .returned (.bool true) ∧ Below w.heap.size w w' := by
  obtain ⟨ao, cap, rfl, h0⟩ := h
  obtain ⟨ao', cap', rfl, h0'⟩ := h'
  rcases Nat.eq_zero_or_pos n with rfl | hp
  · exact eqPostS_none _ _ _ _ _
  · rcases h0 with h0 | ⟨g, m, f, rfl, _, _, h2, h3, h4⟩
    · omega
    · rcases h0' with h0' | ⟨g', m', f', rfl, _, _, h2', h3', h4'⟩
      · omega
      · exact eqPostS_some g g' m m' cap cap' n f f' P P' w hn h3 h2 h4 h3' h2' h4' he


theorem mark3_cells {w : World} {g e m k n : Nat} {f : Nat → Value} (h : Blk w g e m f) (hm : n * 3 ≤ m) (hk : k < n) : w.cell? ⟨g, k * 3, none⟩ = some (f (k * 3)) ∧ w.cell? ⟨g, k * 3 + 1, none⟩ = some (f (k * 3 + 1)) ∧ w.cell? ⟨g, k * 3 + 2, none⟩ = some (f (k * 3 + 2)) :=
  ⟨h.cell (by omega), h.cell (by omega), h.cell (by omega)⟩

/-- what stands in the block behind k rounds of marking -/
def mark3 (q0 : Int) (k : Nat) (f : Nat → Value) : Nat → Value := fun c => if c < k * 3 then .int .i64 (q0 + (c : Int)) else f c

theorem mark3_step (q0 : Int) (k : Nat) (f : Nat → Value) (c : Nat) :
    (if c = k * 3 + 2 then Value.int .i64 (q0 + 3 * (k : Int) + 1 + 1) else if c = k * 3 + 1 then Value.int .i64 (q0 + 3 * (k : Int) + 1) else if c = k * 3 then Value.int .i64 (q0 + 3 * (k : Int)) else mark3 q0 k f c) = mark3 q0 (k + 1) f c := by
  unfold mark3
  split
  · rename_i h; subst h; rw [if_pos (by omega)]; congr 1; omega
  · split
    · rename_i h; subst h; rw [if_pos (by omega)]; congr 1; omega
    · split
      · rename_i h; subst h; rw [if_pos (by omega)]; congr 1; omega
      · by_cases h : c < k * 3
        · rw [if_pos h, if_pos (by omega)]
        · rw [if_neg h, if_neg (by omega)]

set_option maxHeartbeats 1000000 in
theorem markEventS_some (g m cap n : Nat) (q0 : Int) (f : Nat → Value) (w : World) (hn : n ≤ 1048576) (hq0 : 0 ≤ q0) (hq1 : q0 ≤ 1000000000) (h1 : Blk w g 45 m f) (h2 : n * 3 ≤ m) :
    Calls Try.prog 41 #[.slice (some ⟨g, 0, none⟩) n cap, .int .i64 q0] w fun e w' => e = .returned (.int .i64 (q0 + 3 * (n : Int))) ∧ Blk w' g 45 m (mark3 q0 n f) ∧ w.grownBy w' (some g) := by
  go_enter Try.func41, Try.ntmps41
  go_wp2
  go_loopw [1, 5] (fun q i wr => ∃ k : Nat, k ≤ n ∧ i = .int .i64 k ∧ q = .int .i64 (q0 + 3 * (k : Int)) ∧ Blk wr g 45 m (mark3 q0 k f) ∧ w.grownBy wr (some g)) (fun _ i _ => n - (intOf i).toNat)
  case atStart => exact ⟨0, Nat.zero_le _, rfl, by simp, h1.congr (fun i _ => by simp [mark3]), World.grownBy.refl _ _⟩
  case round =>
    obtain ⟨k, hk, rfl, rfl, hB, hG⟩ := hrel
    by_cases hlt : k < n
    · obtain ⟨c0, c1, c2⟩ := mark3_cells hB h2 hlt
      have z0 := hB.frozen (k * 3)
      have z1 := hB.frozen (k * 3 + 1)
      have z2 := hB.frozen (k * 3 + 2)
      clear h1
      go_wp2
      go_roundw
      case rel => exact ⟨k + 1, by omega, by go_num, by go_num, (((hB.set (k * 3) _).set (k * 3 + 1) _).set (k * 3 + 2) _).congr (fun c _ => mark3_step q0 k f c), grown_set (grown_set (grown_set hG _) _) _⟩
      case measure => simp [intOf]; omega
    · go_wp2
      go_ret
      have : k = n := by omega
      subst this
      exact ⟨rfl, hB, hG⟩

theorem markEventS_none (ao : Option Addr) (cap : Nat) (q0 : Int) (w : World) :
    Calls Try.prog 41 #[.slice ao 0 cap, .int .i64 q0] w fun e w' => e = .returned (.int .i64 q0) ∧ w' = w := by
  go_enter Try.func41, Try.ntmps41
  go_wp2
  refine wp_loop_rounds 1 ?_
  rw [rounds_succ]
  go_wp2
  go_ret
  exact ⟨rfl, rfl⟩

set_option maxHeartbeats 1000000 in
theorem markPostS_some (g m cap n : Nat) (q0 : Int) (f : Nat → Value) (w : World) (hn : n ≤ 1048576) (hq0 : 0 ≤ q0) (hq1 : q0 ≤ 1000000000) (h1 : Blk w g 103 m f) (h2 : n * 3 ≤ m) :
    Calls Try.prog 40 #[.slice (some ⟨g, 0, none⟩) n cap, .int .i64 q0] w fun e w' => e = .returned (.int .i64 (q0 + 3 * (n : Int))) ∧ Blk w' g 103 m (mark3 q0 n f) ∧ w.grownBy w' (some g) := by
  go_enter Try.func40, Try.ntmps40
  go_wp2
  go_loopw [1, 5] (fun q i wr => ∃ k : Nat, k ≤ n ∧ i = .int .i64 k ∧ q = .int .i64 (q0 + 3 * (k : Int)) ∧ Blk wr g 103 m (mark3 q0 k f) ∧ w.grownBy wr (some g)) (fun _ i _ => n - (intOf i).toNat)
  case atStart => exact ⟨0, Nat.zero_le _, rfl, by simp, h1.congr (fun i _ => by simp [mark3]), World.grownBy.refl _ _⟩
  case round =>
    obtain ⟨k, hk, rfl, rfl, hB, hG⟩ := hrel
    by_cases hlt : k < n
    · obtain ⟨c0, c1, c2⟩ := mark3_cells hB h2 hlt
      have z0 := hB.frozen (k * 3)
      have z1 := hB.frozen (k * 3 + 1)
      have z2 := hB.frozen (k * 3 + 2)
      clear h1
      go_wp2
      go_roundw
      case rel => exact ⟨k + 1, by omega, by go_num, by go_num, (((hB.set (k * 3) _).set (k * 3 + 1) _).set (k * 3 + 2) _).congr (fun c _ => mark3_step q0 k f c), grown_set (grown_set (grown_set hG _) _) _⟩
      case measure => simp [intOf]; omega
    · go_wp2
      go_ret
      have : k = n := by omega
      subst this
      exact ⟨rfl, hB, hG⟩

theorem markPostS_none (ao : Option Addr) (cap : Nat) (q0 : Int) (w : World) :
    Calls Try.prog 40 #[.slice ao 0 cap, .int .i64 q0] w fun e w' => e = .returned (.int .i64 q0) ∧ w' = w := by
  go_enter Try.func40, Try.ntmps40
  go_wp2
  refine wp_loop_rounds 1 ?_
  rw [rounds_succ]
  go_wp2
  go_ret
  exact ⟨rfl, rfl⟩


set_option maxHeartbeats 1000000 in
theorem heldEventS_some (g m cap n : Nat) (f : Nat → Value) (w : World) (hn : n ≤ 1048576) (h1 : Blk w g 45 m f) (h2 : n * 3 ≤ m) (h3 : ∀ c : Nat, c < n * 3 → f c = .int .i64 (1 + (c : Int))) :
    Calls Try.prog 42 #[.slice (some ⟨g, 0, none⟩) n cap, .int .i64 1] w fun e w' => e = .returned (.int .i64 (1 + 3 * (n : Int))) ∧ Below w.heap.size w w' := by
  go_enter Try.func42, Try.ntmps42
  go_wp2
  go_loopw [1, 5] (fun q i wr => ∃ k : Nat, k ≤ n ∧ i = .int .i64 k ∧ q = .int .i64 (1 + 3 * (k : Int)) ∧ Below w.heap.size w wr) (fun _ i _ => n - (intOf i).toNat)
  case atStart => exact ⟨0, Nat.zero_le _, rfl, rfl, Below.refl _ _⟩
  case round =>
    obtain ⟨k, hk, rfl, rfl, hbel⟩ := hrel
    by_cases hlt : k < n
    · have B := h1.below hbel h1.lt
      have c0 : wr.cell? ⟨g, k * 3, none⟩ = some (.int .i64 (1 + 3 * (k : Int))) := by rw [B.cell (by omega), h3 _ (by omega)]; congr 2; omega
      have c1 : wr.cell? ⟨g, k * 3 + 1, none⟩ = some (.int .i64 (1 + 3 * (k : Int) + 1)) := by rw [B.cell (by omega), h3 _ (by omega)]; congr 2; omega
      have c2 : wr.cell? ⟨g, k * 3 + 2, none⟩ = some (.int .i64 (1 + 3 * (k : Int) + 1 + 1)) := by rw [B.cell (by omega), h3 _ (by omega)]; congr 2; omega
      clear h1 h3 B
      go_wp2
      go_roundw
      case rel => exact ⟨k + 1, by omega, by go_num, by go_num, hbel⟩
      case measure => simp [intOf]; omega
    · go_wp2
      go_ret
      have : k = n := by omega
      subst this
      exact ⟨rfl, hbel⟩

theorem heldEventS_none (ao : Option Addr) (cap : Nat) (w : World) :
    Calls Try.prog 42 #[.slice ao 0 cap, .int .i64 1] w fun e w' => e = .returned (.int .i64 1) ∧ Below w.heap.size w w' := by
  go_enter Try.func42, Try.ntmps42
  go_wp2
  refine wp_loop_rounds 1 ?_
  rw [rounds_succ]
  go_wp2
  go_ret
  exact ⟨rfl, Below.refl _ _⟩

end Go.Proofs.Ytlpopfhaephfaaa
