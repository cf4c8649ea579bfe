import Derived.Test.YtlpopfhaephfaabDoorW1
import Derived.BigRegion
import Derived.BigQuiet
import Derived.Deep.QuietTactic
namespace Go.Proofs.YtlpopfhaephfaabDoor
open Go.RowKit

theorem grown_set {w wr : World} {g : Nat} (h : w.grownBy wr (some g)) {i : Nat} (v : Value) : w.grownBy (wr.setCell ⟨g, i, none⟩ v) (some g) :=
  ⟨h.os, h.tape, h.output, by simpa [World.setCell] using h.size, fun k hk hne => (Below.heap_setCell _ _ _ _ (fun e => hne (by rw [e]))).trans (h.block k hk hne)⟩

set_option maxHeartbeats 1000000 in
theorem markCounterS_any (g n : Nat) (G : Nat → Nat → Value) (w : World) (hn : n ≤ 1048576) (h1 : Row w g 81 2 n G) :
    Calls Tryd.prog 42 #[.slice (some ⟨g, 0, none⟩) n n, .int .i64 1] w fun e w' => e = .returned (.int .i64 (1 + 2 * (n : Int))) ∧ w.grownBy w' (some g) := by
  go_enter Tryd.func42, Tryd.ntmps42
  go_wp2
  go_loopw [1, 5] (fun q i wr => ∃ (k : Nat) (G' : Nat → Nat → Value), k ≤ n ∧ i = .int .i64 k ∧ q = .int .i64 (1 + 2 * (k : Int)) ∧ Row wr g 81 2 n G' ∧ w.grownBy wr (some g)) (fun _ i _ => n - (intOf i).toNat)
  case atStart => exact ⟨0, G, Nat.zero_le _, rfl, rfl, h1, World.grownBy.refl _ _⟩
  case round =>
    obtain ⟨k, G', hk, rfl, rfl, hB, hG⟩ := hrel
    by_cases hlt : k < n
    · have c0 := hB.cell0 hlt (by omega)
      have c1 := hB.cell (j := 1) hlt (by omega)
      have z0 := hB.frozen (k * 2)
      have z1 := hB.frozen (k * 2 + 1)
      clear h1
      go_wp2
      go_roundw
      case rel => exact ⟨k + 1, _, by omega, by go_num, by go_num, (hB.set0 (i := k) (by omega) _).set (i := k) (j := 1) (by omega) _, grown_set (grown_set hG _) _⟩
      case measure => simp [intOf]; omega
    · go_wp2
      go_ret
      have : k = n := by omega
      subst this
      exact ⟨rfl, hG⟩

theorem markLayout_any (S : Int) (g n : Nat) (G : Nat → Nat → Value) (w : World) (hn : n ≤ 1048576) (h1 : Row w g 81 2 n G) :
    Calls Tryd.prog 19 #[.agg #[.int .i64 S, .slice (some ⟨g, 0, none⟩) n n], .int .i64 1] w fun e w' => e = .returned (.int .i64 (1 + 2 * (n : Int))) ∧ w.grownBy w' (some g) := by
  have hc := fun o => markCounterS_any g n G _ hn (h1.alloc o)
  go_enter Tryd.func19, Tryd.ntmps19
  go_wp2_with (first | (go_at_call 42; refine (hc _).mono ?_; rintro e w1 ⟨rfl, hg⟩))
  go_ret
  exact ⟨rfl, (World.grownBy_alloc w _ _).trans hg⟩

end Go.Proofs.YtlpopfhaephfaabDoor
