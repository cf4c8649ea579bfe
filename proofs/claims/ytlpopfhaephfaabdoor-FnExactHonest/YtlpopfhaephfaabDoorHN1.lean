import Derived.Test.YtlpopfhaephfaabDoorW1
import Derived.WalkKit
import Derived.LaidEql
import Derived.Stop.Asserts
namespace Go.Proofs.YtlpopfhaephfaabDoor
open Go.RowKit Go.Extern.Stop Go.Stop Go.Extern

theorem Tryd.esTypeOf (v : Value) (w : World) : (Extern.ReflectliteType.typeOf #[.iface 193 v]).run Tryd.prog w = .ok (.iface 117 (.agg #[.pointer (some ⟨13, 193, none⟩)])) w := by kernel_rfl
theorem Tryd.esComparable (w : World) : ((Extern.ReflectliteType.method fun t => do Rtype.noPackHeld "Comparable" t; pure (.bool (← typeInfo t).comparable)) #[.agg #[.pointer (some ⟨13, 193, none⟩)]]).run Tryd.prog w = .ok (.bool true) w := by kernel_rfl
theorem Tryd.esCallT (v : Value) (w : World) : (callFunc 49 #[.iface 193 v]).run Tryd.prog w = .ok (.value (.iface 117 (.agg #[.pointer (some ⟨13, 193, none⟩)]))) w := by
  rw [@run_callFunc_extern Tryd.prog 49 _ Extern.ReflectliteType.typeOf Tryd.func49 (by kernel_rfl) (by kernel_rfl) (by kernel_rfl) (by kernel_rfl), Tryd.esTypeOf]
  rfl
theorem Tryd.esCallC (w : World) : (callFunc 136 #[.agg #[.pointer (some ⟨13, 193, none⟩)]]).run Tryd.prog w = .ok (.value (.bool true)) w := by
  rw [@run_callFunc_extern Tryd.prog 136 _ (Extern.ReflectliteType.method fun t => do Rtype.noPackHeld "Comparable" t; pure (.bool (← typeInfo t).comparable)) Tryd.func136 (by kernel_rfl) (by kernel_rfl) (by kernel_rfl) (by kernel_rfl), Tryd.esComparable]
  rfl
theorem Tryd.esMethod (v : Value) (w : World) : (Go.method 325 117 v "Comparable").run Tryd.prog w = .ok (136, v) w := by kernel_rfl
theorem Tryd.esComp : (Tryd.prog.info? 193).map (·.comparable) = some true := by kernel_rfl
theorem Tryd.esSize : (Tryd.prog.info? 195).map (·.size) = some 1 := by kernel_rfl
theorem Tryd.esNoIs (v : Value) (xT : TypeId) (w : World) : (Instr.typeAssert (.iface 193 v) xT 119 true).run Tryd.prog w = .ok (.tuple #[.nilIface, .bool false]) w := run_typeAssert_lacksB Tryd.underlying119 (by kernel_rfl) (by kernel_rfl) v xT w
theorem Tryd.esNoUw (v : Value) (xT : TypeId) (w : World) : (Instr.typeAssert (.iface 193 v) xT 122 true).run Tryd.prog w = .ok (.tuple #[.nilIface, .bool false]) w := run_typeAssert_lacksB Tryd.underlying122 (by kernel_rfl) (by kernel_rfl) v xT w
theorem Tryd.esNoUws (v : Value) (xT : TypeId) (w : World) : (Instr.typeAssert (.iface 193 v) xT 124 true).run Tryd.prog w = .ok (.tuple #[.nilIface, .bool false]) w := run_typeAssert_lacksB Tryd.underlying124 (by kernel_rfl) (by kernel_rfl) v xT w

/-- an error of errors.New's make is itself -/
theorem is_same (a : Addr) (w : World) :
    Calls Tryd.prog 29 #[.iface 193 (.pointer (some a)), .iface 193 (.pointer (some a))] w fun e w' => e = .returned (.bool true) ∧ w' = w := by
  obtain ⟨i, hi, hcmp⟩ := Option.map_eq_some_iff.1 Tryd.esComp
  obtain ⟨j, hj, hjs⟩ := Option.map_eq_some_iff.1 Tryd.esSize
  have hT := Tryd.esCallT
  have hM := Tryd.esCallC
  have mR := Tryd.esMethod
  have heq := run_eql_iface_ptr_same (P := Tryd.prog) w a Tryd.underlying58 Tryd.underlying193 hi hcmp hj
  go_enter Tryd.func29, Tryd.ntmps29
  go_wp2
  refine wp_loop_rounds 1 ?_
  rw [rounds_succ]
  go_wp2
  go_ret
  exact ⟨rfl, rfl⟩

theorem is_nil (b : Addr) (w : World) :
    Calls Tryd.prog 29 #[.nilIface, .iface 193 (.pointer (some b))] w fun e w' => e = .returned (.bool false) ∧ w' = w := by
  have hn := run_eql_iface_nil_left (P := Tryd.prog) w 193 (.pointer (some b)) Tryd.underlying58
  go_enter Tryd.func29, Tryd.ntmps29
  go_wp2
  go_ret
  exact ⟨rfl, rfl⟩

/-- two of errors.New's make at different places -/
theorem is_other (a b : Addr) (ca cb : Array Value) (ta tb : TypeId) (w : World) (hne : a ≠ b) (ha : w.heap[a.block]? = some (.cells ca ta (0, 0))) (hb : w.heap[b.block]? = some (.cells cb tb (0, 0))) :
    Calls Tryd.prog 29 #[.iface 193 (.pointer (some a)), .iface 193 (.pointer (some b))] w fun e w' => e = .returned (.bool false) ∧ w' = w := by
  obtain ⟨i, hi, hcmp⟩ := Option.map_eq_some_iff.1 Tryd.esComp
  obtain ⟨j, hj, hjs⟩ := Option.map_eq_some_iff.1 Tryd.esSize
  have hT := Tryd.esCallT
  have hM := Tryd.esCallC
  have mR := Tryd.esMethod
  have nE := Tryd.esNoIs
  have uE := Tryd.esNoUw
  have vE := Tryd.esNoUws
  have heq := run_eql_iface_ptr_other (P := Tryd.prog) w Tryd.underlying58 Tryd.underlying193 hi hcmp hj (by rw [hjs]; decide) hne ha hb
  go_enter Tryd.func29, Tryd.ntmps29
  go_wp2
  refine wp_loop_rounds 1 ?_
  rw [rounds_succ]
  go_wp2
  go_ret
  exact ⟨rfl, rfl⟩

end Go.Proofs.YtlpopfhaephfaabDoor
