import Derived.Test.YtlpopfhaephfaabDoorW1
namespace Go.Proofs.YtlpopfhaephfaabDoor
open Go.RowKit

/-- a section's five fields -/
structure Sec where
  told : Int
  count : Int
  lost : Bool
  sweep : Bool
  last : Int

def scell (x : Sec) (j : Nat) : Value := if j = 0 then .int .i64 x.told else if j = 1 then .int .i64 x.count else if j = 2 then .bool x.lost else if j = 3 then .bool x.sweep else .int .i64 x.last
def secs (X : Nat → Sec) (i j : Nat) : Value := scell (X i) j
def sec0 : Sec := ⟨0, 0, false, false, 0⟩

theorem Tryd.infoB : (Tryd.prog.info? 4).map (fun i => (i.zero, i.size, i.bytes)) = some (some (.bool false), 1, 1) := by kernel_rfl

end Go.Proofs.YtlpopfhaephfaabDoor
