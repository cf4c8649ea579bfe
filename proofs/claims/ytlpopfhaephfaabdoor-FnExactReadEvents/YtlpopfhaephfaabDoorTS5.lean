import Derived.Defers
import Derived.Recover
import Derived.Test.YtlpopfhaephfaabDoorTS3
namespace Go.Proofs.YtlpopfhaephfaabDoor
open Go.RowKit Go.Maps

theorem Box3.but {w w' : World} {b c : Nat} {e : TypeId} {x y z : Value} (h : Box3 w c e x y z) (hb : w.grownBy w' (some b)) (hc : c ≠ b) : Box3 w' c e x y z :=
  Blk.of_block h (hb.block c (Blk.lt h) (fun e => hc (by injection e)))

theorem Box3.put {w : World} {b : Nat} {e : TypeId} {x y z : Value} (h : Box3 w b e x y z) (x' y' z' : Value) : Box3 (((w.setCell ⟨b, 0, none⟩ x').setCell ⟨b, 1, none⟩ y').setCell ⟨b, 2, none⟩ z') b e x' y' z' :=
  (((Blk.set h 0 x').set 1 y').set 2 z').congr fun i hi => by
    match i, hi with
    | 0, _ => rfl
    | 1, _ => rfl
    | 2, _ => rfl

set_option maxRecDepth 100000 in
/-- The deferred function behind a line that is none. -/
theorem catch_bad (h : Nat) (k : Int) (x y z : Value) (older : List PanicEntry) (w : World) (hb : Box3 w h 40 x y z) :
    CallsD Tryd.prog 58 #[.pointer (some ⟨h, 0, none⟩)] (.panicking ({ v := badV k, recovered := false } :: older)) w fun e u' w' =>
      e = .returned (.tuple #[]) ∧ u' = .panicking ({ v := badV k, recovered := true } :: older) ∧ Box3 w' h 40 (.int .i64 3) (.int .i64 k) (.slice none 0 0) ∧ w.grownBy w' (some h) := by
  unfold badV
  have hta : ∀ W : World, (Instr.typeAssert (.iface 103 (.agg #[.int .i64 k])) 20 103 true).run Tryd.prog W = .ok (.tuple #[.agg #[.int .i64 k], .bool true]) W := fun _ => by kernel_rfl
  have hlt : h < w.heap.size := Blk.lt hb
  have hne : ¬ h = w.heap.size := by omega
  obtain ⟨c0, c1, c2⟩ := hb.cells
  have z0 := Blk.frozen hb 0
  have z1 := Blk.frozen hb 1
  have z2 := Blk.frozen hb 2
  have b1 : Box3 ((((w.setCell ⟨h, 0, none⟩ (.int .i64 3)).setCell ⟨h, 1, none⟩ (.int .i64 k)).setCell ⟨h, 2, none⟩ (.slice none 0 0)).alloc (.cells #[.int .i64 k] 103)) h 40 (.int .i64 3) (.int .i64 k) (.slice none 0 0) := (hb.put _ _ _).alloc _
  have g1 : w.grownBy ((((w.setCell ⟨h, 0, none⟩ (.int .i64 3)).setCell ⟨h, 1, none⟩ (.int .i64 k)).setCell ⟨h, 2, none⟩ (.slice none 0 0)).alloc (.cells #[.int .i64 k] 103)) (some h) :=
    but_on (but_trans (but_trans (but_set w h 0 _) (but_set _ h 1 _)) (but_set _ h 2 _)) (below_alloc (Below.refl _ _) _)
  refine callsD_of_wpS Tryd.func58 rfl fun c₀ cs hu => ?_
  apply wpS_seq
  apply wpS_region
  simp [wpOpsS, go_sem, recoverD, hu, Tryd.ntmps58, Exit.thenS, Array.replicate, List.replicate]
  refine wpS_of_wp ?_
  generalize hQ : (fun (e : Exit) (a' : Act) (w' : World) => bodyPostS Tryd.prog Tryd.f58 c₀ cs _ e a' _ w') = Q'
  go_wp2
  subst hQ
  exact ⟨rfl, _, rfl, .tuple #[], by simp [results, Tryd.results58], rfl, rfl, b1, g1⟩

set_option maxRecDepth 100000 in
/-- The deferred function behind a text that was gone through. -/
theorem catch_idle (h : Nat) (w : World) :
    CallsD Tryd.prog 58 #[.pointer (some ⟨h, 0, none⟩)] .returning w fun e u' w' => e = .returned (.tuple #[]) ∧ u' = .returning ∧ Below w.heap.size w w' := by
  have hta : ∀ W : World, (Instr.typeAssert .nilIface 20 103 true).run Tryd.prog W = .ok (.tuple #[.agg #[.int .i64 0], .bool false]) W := fun _ => by kernel_rfl
  have b1 : Below w.heap.size w (w.alloc (.cells #[.int .i64 0] 103)) := below_alloc (Below.refl _ _) _
  refine callsD_of_wpS Tryd.func58 rfl fun c₀ cs hu => ?_
  apply wpS_seq
  apply wpS_region
  simp [wpOpsS, go_sem, recoverD, hu, Tryd.ntmps58, Exit.thenS, Array.replicate, List.replicate]
  refine wpS_of_wp ?_
  generalize hQ : (fun (e : Exit) (a' : Act) (w' : World) => bodyPostS Tryd.prog Tryd.f58 c₀ cs _ e a' _ w') = Q'
  go_wp2
  subst hQ
  exact ⟨rfl, .returning, by cases c₀; simp at hu; subst hu; rfl, .tuple #[], by simp [results, Tryd.results58], rfl, rfl, b1⟩

end Go.Proofs.YtlpopfhaephfaabDoor
