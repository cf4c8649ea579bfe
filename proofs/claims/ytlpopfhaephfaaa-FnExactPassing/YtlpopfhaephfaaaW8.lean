import Derived.Test.YtlpopfhaephfaaaW1
import Derived.Test.YtlpopfhaephfaaaGrp
import Derived.Test.YtlpopfhaephfaaaMkL
import Derived.BigRegion
import Derived.BigQuiet
import Derived.Deep.QuietTactic
namespace Go.Proofs.Ytlpopfhaephfaaa
open Go.RowKit Go.Maps

/-- A slice of n ints Z 0 .. in a block from 'base' on, or an empty one. -/
def IntF (w : World) (base : Nat) (v : Value) (n : Nat) (Z : Nat → Int) : Prop :=
  ∃ ao cap, v = .slice ao n cap ∧ (n = 0 ∨ ∃ g m f, ao = some ⟨g, 0, none⟩ ∧ base ≤ g ∧ n ≤ m ∧ Blk w g 3 m f ∧ ∀ i, i < n → f i = .int .i64 (Z i))

theorem IntF.of_owns {w : World} {base : Nat} {v : Value} {zs : List Int} (h : w.ownsInts base 3 .i64 v zs) : IntF w base v zs.length (fun i => zs.getD i 0) := by
  rcases h.1.2 with ⟨rfl, h0⟩ | ⟨g, cap, cur, rfl, hb, hh, hn, hm, hs, ht⟩
  · exact ⟨none, 0, by rw [h0], .inl h0⟩
  · refine ⟨_, cap, rfl, .inr ⟨g, cap, fun i => cur.toList.getD i (.int .i64 0), rfl, hb, hn, ⟨cur, hh, by simpa using hs, fun i hi => ?_⟩, fun i hi => ?_⟩⟩
    · have : i < cur.size := by rw [hs]; omega
      simp [this]
    · have e : (cur.toList.take (zs.length * 1))[i]? = (zs.map (Value.int .i64))[i]? := by rw [ht]
      rw [List.getElem?_take_of_lt (by omega)] at e
      simp only [List.getElem?_map, List.getElem?_eq_getElem hi, Option.map_some] at e
      simp [List.getD, e, List.getElem?_eq_getElem hi]

theorem IntF.of_block {w w' : World} {base n : Nat} {v : Value} {Z : Nat → Int} (h : IntF w base v n Z) (hb : ∀ g m f, Blk w g 3 m f → base ≤ g → w'.heap[g]? = w.heap[g]?) : IntF w' base v n Z := by
  obtain ⟨ao, cap, rfl, h0 | ⟨g, m, f, rfl, h1, h2, h3, h4⟩⟩ := h
  · exact ⟨ao, cap, rfl, .inl h0⟩
  · exact ⟨_, cap, rfl, .inr ⟨g, m, f, rfl, h1, h2, h3.of_block (hb g m f h3 h1), h4⟩⟩

theorem IntF.on {w w' : World} {base n : Nat} {v : Value} {Z : Nat → Int} (h : IntF w base v n Z) (hb : Below w.heap.size w w') : IntF w' base v n Z := h.of_block fun g _ _ h1 _ => hb.block g h1.lt
theorem IntF.drew {w : World} {base n : Nat} {v : Value} {Z : Nat → Int} (h : IntF w base v n Z) : IntF w.drew base v n Z := h
theorem IntF.alloc {w : World} {base n : Nat} {v : Value} {Z : Nat → Int} (h : IntF w base v n Z) (o : Obj) : IntF (w.alloc o) base v n Z := h.of_block fun _ _ _ h1 _ => Below.heap_alloc _ _ _ h1.lt

/-- a write to a row of counters leaves it alone -/
theorem IntF.marked {w w' : World} {base n gx m : Nat} {v : Value} {Z : Nat → Int} {f : Nat → Value} {e : Nat} (h : IntF w base v n Z) (hx : Blk w gx e m f) (he : e ≠ 3) (hg : w.grownBy w' (some gx)) : IntF w' base v n Z :=
  h.of_block fun g _ _ h1 _ => hg.block g h1.lt (fun e1 => by
    simp only [Option.some.injEq] at e1; subst e1
    obtain ⟨_, a1, _⟩ := h1; obtain ⟨_, a2, _⟩ := hx
    rw [a1] at a2; simp only [Option.some.injEq, Obj.cells.injEq] at a2
    exact he a2.2.1.symm)

set_option maxHeartbeats 1000000 in
theorem eqIntS_some (g g' m m' cap cap' n : Nat) (f f' : Nat → Value) (Z Z' : Nat → Int) (w : World) (hn : n ≤ 1048576) (h1 : Blk w g 3 m f) (h2 : n ≤ m) (h3 : ∀ i, i < n → f i = .int .i64 (Z i)) (h1' : Blk w g' 3 m' f') (h2' : n ≤ m') (h3' : ∀ i, i < n → f' i = .int .i64 (Z' i)) (he : ∀ i, i < n → Z' i = Z i) :
    Calls Try.prog 30 #[.slice (some ⟨g, 0, none⟩) n cap, .slice (some ⟨g', 0, none⟩) n cap'] w fun e w' => e = .returned (.bool true) ∧ Below w.heap.size w w' := by
  go_enter Try.func30, Try.ntmps30
  go_wp2
  go_loopw [5] (fun i wr => ∃ k : Nat, k ≤ n ∧ i = .int .i64 k ∧ Below w.heap.size w wr) (fun i _ => n - (intOf i).toNat)
  case atStart => exact ⟨0, Nat.zero_le _, rfl, Below.refl _ _⟩
  case round =>
    obtain ⟨k, hk, rfl, hbel⟩ := hrel
    by_cases hlt : k < n
    · have c0 : wr.cell? ⟨g, k, none⟩ = some (.int .i64 (Z k)) := by rw [(h1.below hbel h1.lt).cell (by omega), h3 k hlt]
      have c0' : wr.cell? ⟨g', k, none⟩ = some (.int .i64 (Z k)) := by rw [(h1'.below hbel h1'.lt).cell (by omega), h3' k hlt, he k hlt]
      have hi : (k : Int) < (n : Int) := by omega
      clear h1 h1' h3 h3' he
      go_wp2
      go_region
      all_goals
        go_wp2
        go_roundw
        case rel => exact ⟨k + 1, by omega, by go_num, hbel.drew⟩
        case measure => simp [intOf]; omega
    · go_wp2
      go_ret
      exact ⟨rfl, hbel⟩

theorem eqIntS_none (ao ao' : Option Addr) (cap cap' : Nat) (w : World) :
    Calls Try.prog 30 #[.slice ao 0 cap, .slice ao' 0 cap'] w fun e w' => e = .returned (.bool true) ∧ Below w.heap.size w w' := by
  go_enter Try.func30, Try.ntmps30
  go_wp2
  refine wp_loop_rounds 1 ?_
  rw [rounds_succ]
  go_wp2
  go_ret
  exact ⟨rfl, Below.refl _ _⟩

theorem eqIntS_same (b b' n : Nat) (v v' : Value) (Z Z' : Nat → Int) (w : World) (hn : n ≤ 1048576) (h : IntF w b v n Z) (h' : IntF w b' v' n Z') (he : ∀ i, i < n → Z' i = Z i) :
    Calls Try.prog 30 #[v, v'] w fun e w' => e = .returned (.bool true) ∧ Below w.heap.size w w' := by
  obtain ⟨ao, cap, rfl, h0⟩ := h
  obtain ⟨ao', cap', rfl, h0'⟩ := h'
  rcases Nat.eq_zero_or_pos n with rfl | hp
  · exact eqIntS_none _ _ _ _ _
  · rcases h0 with h0 | ⟨g, m, f, rfl, _, h2, h3, h4⟩
    · omega
    · rcases h0' with h0' | ⟨g', m', f', rfl, _, h2', h3', h4'⟩
      · omega
      · exact eqIntS_some g g' m m' cap cap' n f f' Z Z' w hn h3 h2 h4 h3' h2' h4' he

set_option maxHeartbeats 1000000 in
theorem heldIntS_some (g m cap n : Nat) (f : Nat → Value) (w : World) (hn : n ≤ 1048576) (h1 : Blk w g 3 m f) (h2 : n ≤ m) (h3 : ∀ i : Nat, i < n → f i = .int .i64 (1 + (i : Int))) :
    Calls Try.prog 33 #[.slice (some ⟨g, 0, none⟩) n cap, .int .i64 1] w fun e w' => e = .returned (.int .i64 (1 + (n : Int))) ∧ Below w.heap.size w w' := by
  go_enter Try.func33, Try.ntmps33
  go_wp2
  go_loopw [1, 5] (fun q i wr => ∃ k : Nat, k ≤ n ∧ i = .int .i64 k ∧ q = .int .i64 (1 + (k : Int)) ∧ Below w.heap.size w wr) (fun _ i _ => n - (intOf i).toNat)
  case atStart => exact ⟨0, Nat.zero_le _, rfl, rfl, Below.refl _ _⟩
  case round =>
    obtain ⟨k, hk, rfl, rfl, hbel⟩ := hrel
    by_cases hlt : k < n
    · have c0 : wr.cell? ⟨g, k, none⟩ = some (.int .i64 (1 + (k : Int))) := by rw [(h1.below hbel h1.lt).cell (by omega), h3 k hlt]
      clear h1 h3
      go_wp2
      go_roundw
      case rel => exact ⟨k + 1, by omega, by go_num, by go_num, hbel⟩
      case measure => simp [intOf]; omega
    · go_wp2
      go_ret
      have : k = n := by omega
      subst this
      exact ⟨rfl, hbel⟩

theorem heldIntS_none (ao : Option Addr) (cap : Nat) (w : World) :
    Calls Try.prog 33 #[.slice ao 0 cap, .int .i64 1] w fun e w' => e = .returned (.int .i64 1) ∧ Below w.heap.size w w' := by
  go_enter Try.func33, Try.ntmps33
  go_wp2
  refine wp_loop_rounds 1 ?_
  rw [rounds_succ]
  go_wp2
  go_ret
  exact ⟨rfl, Below.refl _ _⟩

theorem heldIntS_same (b n : Nat) (v : Value) (w : World) (hn : n ≤ 1048576) (h : IntF w b v n (fun i => 1 + (i : Int))) :
    Calls Try.prog 33 #[v, .int .i64 1] w fun e w' => e = .returned (.int .i64 (1 + (n : Int))) ∧ Below w.heap.size w w' := by
  obtain ⟨ao, cap, rfl, h0⟩ := h
  rcases Nat.eq_zero_or_pos n with rfl | hp
  · exact heldIntS_none _ _ _
  · rcases h0 with h0 | ⟨g, m, f, rfl, _, h2, h3, h4⟩
    · omega
    · exact heldIntS_some g m cap n f w hn h3 h2 h4

theorem mark_step (f : Nat → Value) (k i : Nat) : (if i = k then Value.int .i64 (1 + (k : Int)) else if i < k then Value.int .i64 (1 + (i : Int)) else f i) = if i < k + 1 then Value.int .i64 (1 + (i : Int)) else f i := by
  rcases Nat.lt_trichotomy i k with h | h | h
  · rw [if_neg (by omega), if_pos h, if_pos (by omega)]
  · subst h; rw [if_pos rfl, if_pos (by omega)]
  · rw [if_neg (by omega), if_neg (by omega), if_neg (by omega)]

set_option maxHeartbeats 1000000 in
theorem markIntS_some (g m cap n : Nat) (f : Nat → Value) (w : World) (hn : n ≤ 1048576) (h1 : Blk w g 3 m f) (h2 : n ≤ m) :
    Calls Try.prog 32 #[.slice (some ⟨g, 0, none⟩) n cap, .int .i64 1] w fun e w' => e = .returned (.int .i64 (1 + (n : Int))) ∧ Blk w' g 3 m (fun i => if i < n then .int .i64 (1 + (i : Int)) else f i) ∧ w.grownBy w' (some g) := by
  go_enter Try.func32, Try.ntmps32
  go_wp2
  go_loopw [1, 5] (fun q i wr => ∃ k : Nat, k ≤ n ∧ i = .int .i64 k ∧ q = .int .i64 (1 + (k : Int)) ∧ Blk wr g 3 m (fun i => if i < k then .int .i64 (1 + (i : Int)) else f i) ∧ w.grownBy wr (some g)) (fun _ i _ => n - (intOf i).toNat)
  case atStart => exact ⟨0, Nat.zero_le _, rfl, rfl, by simpa using h1, World.grownBy.refl _ _⟩
  case round =>
    obtain ⟨k, hk, rfl, rfl, hB, hG⟩ := hrel
    by_cases hlt : k < n
    · have c0 : wr.cell? ⟨g, k, none⟩ = some (f k) := by rw [hB.cell (by omega)]; simp
      have z0 := hB.frozen k
      clear h1
      go_wp2
      go_roundw
      case rel => exact ⟨k + 1, by omega, by go_num, by go_num, (hB.set k _).congr (fun i _ => mark_step f k i), grown_set hG _⟩
      case measure => simp [intOf]; omega
    · go_wp2
      go_ret
      have : k = n := by omega
      subst this
      exact ⟨rfl, hB, hG⟩

theorem markIntS_none (ao : Option Addr) (cap : Nat) (w : World) :
    Calls Try.prog 32 #[.slice ao 0 cap, .int .i64 1] w fun e w' => e = .returned (.int .i64 1) ∧ w' = w := by
  go_enter Try.func32, Try.ntmps32
  go_wp2
  refine wp_loop_rounds 1 ?_
  rw [rounds_succ]
  go_wp2
  go_ret
  exact ⟨rfl, rfl⟩

/-- Marks are written into the slice's own block alone. -/
theorem markIntS_any (b n : Nat) (v : Value) (Z : Nat → Int) (w : World) (hn : n ≤ 1048576) (hb : b ≤ w.heap.size) (h : IntF w b v n Z) :
    Calls Try.prog 32 #[v, .int .i64 1] w fun e w' => e = .returned (.int .i64 (1 + (n : Int))) ∧ IntF w' b v n (fun i => 1 + (i : Int)) ∧ Below b w w' := by
  obtain ⟨ao, cap, rfl, h0⟩ := h
  rcases Nat.eq_zero_or_pos n with rfl | hp
  · refine (markIntS_none ao cap w).mono fun e w' ⟨he, hw⟩ => ?_
    subst hw
    exact ⟨he, ⟨ao, cap, rfl, .inl rfl⟩, Below.refl _ _⟩
  · rcases h0 with h0 | ⟨g, m, f, rfl, h1, h2, h3, h4⟩
    · omega
    · refine (markIntS_some g m cap n f w hn h3 h2).mono fun e w' ⟨he, hB, hG⟩ => ?_
      exact ⟨he, ⟨_, cap, rfl, .inr ⟨g, m, _, rfl, h1, h2, hB, fun i hi => by simp [hi]⟩⟩, (Below.refl _ _).grown hG hb (fun k hk => by simp only [Option.some.injEq] at hk; omega)⟩

end Go.Proofs.Ytlpopfhaephfaaa
