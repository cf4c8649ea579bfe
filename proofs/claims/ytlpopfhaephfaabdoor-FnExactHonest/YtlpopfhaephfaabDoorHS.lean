import Derived.Test.YtlpopfhaephfaabDoorST4
import Derived.Test.YtlpopfhaephfaabDoorEV1
import Derived.Test.YtlpopfhaephfaabDoorMkL
namespace Go.Proofs.YtlpopfhaephfaabDoor
open Go.RowKit

def fromZ (F T : Nat → Int) (f : Nat) (d : Int) : Int := if d = 1 then F f else T f

def toZ (F T : Nat → Int) (f : Nat) (d : Int) : Int := if d = 1 then T f else F f

set_option maxHeartbeats 1000000 in
theorem sides_any (S d : Int) (g n f : Nat) (F T : Nat → Int) (w : World) (hf : f < n) (hrow : Row w g 81 2 n (two F T)) :
    Calls Tryd.prog 74 #[.agg #[.int .i64 f, .int .i64 d], .agg #[.int .i64 S, .slice (some ⟨g, 0, none⟩) n n]] w fun e w' => e = .returned (.tuple #[.int .i64 (fromZ F T f d), .int .i64 (toZ F T f d)]) ∧ Below w.heap.size w w' := by
  have c0 := hrow.cell0 hf (by omega)
  have c1 := hrow.cell (j := 1) hf (by omega)
  simp only [two] at c0 c1
  have hf' : (f : Int) < (n : Int) := by omega
  have lg := hrow.lt
  clear hrow
  by_cases hd : d = 1
  · have e1 : fromZ F T f d = F f := by unfold fromZ; rw [if_pos hd]
    have e2 : toZ F T f d = T f := by unfold toZ; rw [if_pos hd]
    rw [e1, e2]
    subst hd
    clear e1 e2
    go_enter Tryd.func74, Tryd.ntmps74
    go_wp2
    go_region
    all_goals
      go_wp2
      go_ret2
      exact ⟨rfl, by first | exact (by repeat (first | exact Below.refl _ _ | assumption | refine below_alloc ?_ _ | refine Below.setCell ?_ (by first | omega | (simp; done) | (simp; omega)) _ | refine Below.alloc ?_ (by first | omega | (simp; done) | (simp; omega)) _ | refine Below.drew ?_)) | exact Below.drew (by repeat (first | exact Below.refl _ _ | assumption | refine below_alloc ?_ _ | refine Below.setCell ?_ (by first | omega | (simp; done) | (simp; omega)) _ | refine Below.alloc ?_ (by first | omega | (simp; done) | (simp; omega)) _ | refine Below.drew ?_))⟩
  · have e1 : fromZ F T f d = T f := by unfold fromZ; rw [if_neg hd]
    have e2 : toZ F T f d = F f := by unfold toZ; rw [if_neg hd]
    rw [e1, e2]
    clear e1 e2
    go_enter Tryd.func74, Tryd.ntmps74
    go_wp2
    go_region
    all_goals
      go_wp2
      go_ret2
      exact ⟨rfl, by first | exact (by repeat (first | exact Below.refl _ _ | assumption | refine below_alloc ?_ _ | refine Below.setCell ?_ (by first | omega | (simp; done) | (simp; omega)) _ | refine Below.alloc ?_ (by first | omega | (simp; done) | (simp; omega)) _ | refine Below.drew ?_)) | exact Below.drew (by repeat (first | exact Below.refl _ _ | assumption | refine below_alloc ?_ _ | refine Below.setCell ?_ (by first | omega | (simp; done) | (simp; omega)) _ | refine Below.alloc ?_ (by first | omega | (simp; done) | (simp; omega)) _ | refine Below.drew ?_))⟩

end Go.Proofs.YtlpopfhaephfaabDoor
