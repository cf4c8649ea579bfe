import Derived.Test.YtlpopfhaephfaabGreatDoorST3
namespace Go.Proofs.YtlpopfhaephfaabGreatDoor
open Go.RowKit

/-- the four cells of a Done -/
def dnF (C : Int) (ok : Bool) (v1 v2 : Value) (i : Nat) : Value := if i = 0 then .int .i64 C else if i = 1 then .bool ok else if i = 2 then v1 else v2
def Box4 (w : World) (b : Nat) (C : Int) (ok : Bool) (v1 v2 : Value) : Prop := Blk w b 48 4 (dnF C ok v1 v2)
section
variable {w w' : World} {b : Nat} {C : Int} {ok : Bool} {v1 v2 : Value}
theorem Box4.cells (h : Box4 w b C ok v1 v2) : w.cell? ⟨b, 0, none⟩ = some (.int .i64 C) ∧ w.cell? ⟨b, 1, none⟩ = some (.bool ok) ∧ w.cell? ⟨b, 2, none⟩ = some v1 ∧ w.cell? ⟨b, 3, none⟩ = some v2 :=
  ⟨Blk.cell h (by omega), Blk.cell h (by omega), Blk.cell h (by omega), Blk.cell h (by omega)⟩
theorem Box4.on (h : Box4 w b C ok v1 v2) (hb : Below w.heap.size w w') : Box4 w' b C ok v1 v2 := Blk.on h hb
theorem Box4.drew (h : Box4 w b C ok v1 v2) : Box4 w.drew b C ok v1 v2 := h
theorem Box4.alloc (h : Box4 w b C ok v1 v2) (o : Obj) : Box4 (w.alloc o) b C ok v1 v2 := Blk.alloc h o
theorem Box4.turned {E : Nat → Prop} {lo hi : Nat} (h : Box4 w b C ok v1 v2) (ht : Turned w w' E lo hi) (hd : ¬ E 48) : Box4 w' b C ok v1 v2 := Blk.turned h ht (.inl hd)
theorem Box4.lay (w : World) (C : Int) (ok : Bool) (v1 v2 : Value) : Box4 (w.alloc (.cells #[.int .i64 C, .bool ok, v1, v2] 48)) w.heap.size C ok v1 v2 :=
  Blk.new w #[.int .i64 C, .bool ok, v1, v2] _ _ (fun i hi => by simp at hi; match i, hi with | 0, _ => rfl | 1, _ => rfl | 2, _ => rfl | 3, _ => rfl)
end

end Go.Proofs.YtlpopfhaephfaabGreatDoor
