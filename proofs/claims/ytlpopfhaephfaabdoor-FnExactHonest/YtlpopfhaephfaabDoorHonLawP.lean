import Derived.Test.YtlpopfhaephfaabDoorHonLaw
import Derived.Test.YtlpopfhaephfaabDoorHN4
import Derived.Test.YtlpopfhaephfaabDoorHN5
import Derived.Test.YtlpopfhaephfaabDoorHN6
import Derived.Test.YtlpopfhaephfaabDoorOpen1
import Derived.Test.YtlpopfhaephfaabDoorOpen3
import Derived.Test.YtlpopfhaephfaabDoorCards
import Derived.Test.YtlpopfhaephfaabDoorTie
import Derived.ChangeSame
import Derived.ChangeVars
import Derived.JoinedOf
import Derived.RowKitTokens
import Derived.LaidLaws
import Derived.LaidHandle
import Derived.Stop.LaidErr
import Derived.Stop.Joined
import Derived.SevenTiedAt
import Derived.WalkSmall
namespace Go.Proofs.YtlpopfhaephfaabDoor
open Go.ChangeShapes Go.WideShapes Go.ChangeAt Go.RowKit Go.Joins

theorem Tryd.gE0 : Tryd.prog.globalNamed "loop.example/treadle/impl.errNoRun" = some 0 := by kernel_rfl
theorem Tryd.gE1 : Tryd.prog.globalNamed "loop.example/treadle/impl.errNoEvent" = some 1 := by kernel_rfl
theorem Tryd.gE2 : Tryd.prog.globalNamed "loop.example/treadle/impl.errSomebody" = some 2 := by kernel_rfl
theorem Tryd.gE3 : Tryd.prog.globalNamed "loop.example/treadle/impl.errBelow" = some 3 := by kernel_rfl
theorem Tryd.gT0 : (Tryd.prog.globals[0]?).map (·.type) = some 58 := by kernel_rfl
theorem Tryd.gT1 : (Tryd.prog.globals[1]?).map (·.type) = some 58 := by kernel_rfl
theorem Tryd.gT2 : (Tryd.prog.globals[2]?).map (·.type) = some 58 := by kernel_rfl
theorem Tryd.gT3 : (Tryd.prog.globals[3]?).map (·.type) = some 58 := by kernel_rfl
theorem Tryd.esCells : Tryd.prog.cellsOf 195 = 1 := by kernel_rfl
theorem Tryd.stCells : Tryd.prog.cellsOf 9 = 1 := by kernel_rfl
theorem esStar : "*" ++ "errors.errorString" = "*errors.errorString" := by decide
theorem Tryd.esRow (u : TypeId) (h : Tryd.prog.typeName? 3 u = some "*errors.errorString") : u = 193 :=
  typeName_ptr_named (nm := "errors.errorString") (by rw [esStar]; kernel_rfl) (by kernel_rfl) (by decide) u (by rw [esStar]; exact h)

/-- the four errors' addresses -/
def four (a0 a1 a2 a3 : Addr) : Nat → Addr
  | 0 => a0
  | 1 => a1
  | 2 => a2
  | _ => a3

set_option maxRecDepth 100000 in
theorem snt_of_laid {W : World} (h : laidMet Tryd.prog [("loop.example/treadle/impl.errNoRun", Rows.laid_loop_example_treadle_impl_errNoRun), ("loop.example/treadle/impl.errNoEvent", Rows.laid_loop_example_treadle_impl_errNoEvent), ("loop.example/treadle/impl.errSomebody", Rows.laid_loop_example_treadle_impl_errSomebody), ("loop.example/treadle/impl.errBelow", Rows.laid_loop_example_treadle_impl_errBelow)] W) :
    ∃ a0 a1 a2 a3 : Addr, W.var? Tryd.prog "loop.example/treadle/impl.errNoRun" = some #[.iface 193 (.pointer (some a0))] ∧ W.var? Tryd.prog "loop.example/treadle/impl.errNoEvent" = some #[.iface 193 (.pointer (some a1))] ∧
      W.var? Tryd.prog "loop.example/treadle/impl.errSomebody" = some #[.iface 193 (.pointer (some a2))] ∧ W.var? Tryd.prog "loop.example/treadle/impl.errBelow" = some #[.iface 193 (.pointer (some a3))] ∧ Snt W (four a0 a1 a2 a3) := by
  obtain ⟨ps, ⟨g0, t0, cs0, f0, p0, q0, hg0, ht0, hv0, hd0, ⟨g1, t1, cs1, f1, p1, q1, hg1, ht1, hv1, hd1, ⟨g2, t2, cs2, f2, p2, q2, hg2, ht2, hv2, hd2, ⟨g3, t3, cs3, f3, p3, q3, hg3, ht3, hv3, hd3, hq3, e3⟩, e2⟩, e1⟩, e0⟩, hnd, hrows⟩ := h
  obtain rfl := Option.some.inj (Tryd.gE0.symm.trans hg0)
  obtain rfl := Option.some.inj (Tryd.gE1.symm.trans hg1)
  obtain rfl := Option.some.inj (Tryd.gE2.symm.trans hg2)
  obtain rfl := Option.some.inj (Tryd.gE3.symm.trans hg3)
  obtain rfl := Option.some.inj (Tryd.gT0.symm.trans ht0)
  obtain rfl := Option.some.inj (Tryd.gT1.symm.trans ht1)
  obtain rfl := Option.some.inj (Tryd.gT2.symm.trans ht2)
  obtain rfl := Option.some.inj (Tryd.gT3.symm.trans ht3)
  have hq3' : q3 = [] := hq3
  subst hq3'
  subst e3
  subst e2
  subst e1
  subst e0
  obtain ⟨l0⟩ := cs0
  obtain ⟨l1⟩ := cs1
  obtain ⟨l2⟩ := cs2
  obtain ⟨l3⟩ := cs3
  have ok0 : ∀ u v, l0 = [.iface u v] → Value.okWide Tryd.prog W .any 0 u v := fun u v e => by
    subst e
    exact (hrows 0 0 (by simp [MemPlace.row])).2 u v (by simpa using World.var?_cell hg0 hv0 0)
  have ok1 : ∀ u v, l1 = [.iface u v] → Value.okWide Tryd.prog W .any 0 u v := fun u v e => by
    subst e
    exact (hrows 1 0 (by simp [MemPlace.row])).2 u v (by simpa using World.var?_cell hg1 hv1 0)
  have ok2 : ∀ u v, l2 = [.iface u v] → Value.okWide Tryd.prog W .any 0 u v := fun u v e => by
    subst e
    exact (hrows 2 0 (by simp [MemPlace.row])).2 u v (by simpa using World.var?_cell hg2 hv2 0)
  have ok3 : ∀ u v, l3 = [.iface u v] → Value.okWide Tryd.prog W .any 0 u v := fun u v e => by
    subst e
    exact (hrows 3 0 (by simp [MemPlace.row])).2 u v (by simpa using World.var?_cell hg3 hv3 0)
  obtain ⟨a0, s0, rfl, hc0, hs0, hz0, rfl⟩ := errorString_of_trod Tryd.underlying58 Tryd.esRow Tryd.underlying193 Tryd.underlying195 rfl rfl Tryd.underlying9 Tryd.esCells Tryd.stCells hd0 ok0
  obtain ⟨a1, s1, rfl, hc1, hs1, hz1, rfl⟩ := errorString_of_trod Tryd.underlying58 Tryd.esRow Tryd.underlying193 Tryd.underlying195 rfl rfl Tryd.underlying9 Tryd.esCells Tryd.stCells hd1 ok1
  obtain ⟨a2, s2, rfl, hc2, hs2, hz2, rfl⟩ := errorString_of_trod Tryd.underlying58 Tryd.esRow Tryd.underlying193 Tryd.underlying195 rfl rfl Tryd.underlying9 Tryd.esCells Tryd.stCells hd2 ok2
  obtain ⟨a3, s3, rfl, hc3, hs3, hz3, rfl⟩ := errorString_of_trod Tryd.underlying58 Tryd.esRow Tryd.underlying193 Tryd.underlying195 rfl rfl Tryd.underlying9 Tryd.esCells Tryd.stCells hd3 ok3
  have b0 := (hrows a0.block a0.off (by simp [MemPlace.row])).1
  have b1 := (hrows a1.block a1.off (by simp [MemPlace.row])).1
  have b2 := (hrows a2.block a2.off (by simp [MemPlace.row])).1
  have b3 := (hrows a3.block a3.off (by simp [MemPlace.row])).1
  have c0 : W.cell? ⟨0, 0, none⟩ = some (.iface 193 (.pointer (some a0))) := by simpa using World.var?_cell hg0 hv0 0
  have c1 : W.cell? ⟨1, 0, none⟩ = some (.iface 193 (.pointer (some a1))) := by simpa using World.var?_cell hg1 hv1 0
  have c2 : W.cell? ⟨2, 0, none⟩ = some (.iface 193 (.pointer (some a2))) := by simpa using World.var?_cell hg2 hv2 0
  have c3 : W.cell? ⟨3, 0, none⟩ = some (.iface 193 (.pointer (some a3))) := by simpa using World.var?_cell hg3 hv3 0
  have n01 : a0 ≠ a1 := by rintro rfl; simp [MemPlace.row] at hnd
  have n02 : a0 ≠ a2 := by rintro rfl; simp [MemPlace.row] at hnd
  have n03 : a0 ≠ a3 := by rintro rfl; simp [MemPlace.row] at hnd
  have n12 : a1 ≠ a2 := by rintro rfl; simp [MemPlace.row] at hnd
  have n13 : a1 ≠ a3 := by rintro rfl; simp [MemPlace.row] at hnd
  have n23 : a2 ≠ a3 := by rintro rfl; simp [MemPlace.row] at hnd
  refine ⟨a0, a1, a2, a3, hv0, hv1, hv2, hv3, ⟨fun i hi => ?_, fun i hi => ?_, fun i j hi hj hij => ?_⟩⟩
  · match i, hi with
    | 0, _ => exact c0
    | 1, _ => exact c1
    | 2, _ => exact c2
    | 3, _ => exact c3
  · match i, hi with
    | 0, _ => exact b0
    | 1, _ => exact b1
    | 2, _ => exact b2
    | 3, _ => exact b3
  · match i, hi, j, hj, hij with
    | 0, _, 1, _, _ => exact n01
    | 0, _, 2, _, _ => exact n02
    | 0, _, 3, _, _ => exact n03
    | 1, _, 0, _, _ => exact n01.symm
    | 1, _, 2, _, _ => exact n12
    | 1, _, 3, _, _ => exact n13
    | 2, _, 0, _, _ => exact n02.symm
    | 2, _, 1, _, _ => exact n12.symm
    | 2, _, 3, _, _ => exact n23
    | 3, _, 0, _, _ => exact n03.symm
    | 3, _, 1, _, _ => exact n13.symm
    | 3, _, 2, _, _ => exact n23.symm
    | 0, _, 0, _, h => exact absurd rfl h
    | 1, _, 1, _, h => exact absurd rfl h
    | 2, _, 2, _, h => exact absurd rfl h
    | 3, _, 3, _, h => exact absurd rfl h

theorem vars_read4 {H : Type} (enc : TypeId × Value → H) {W : World} {x0 x1 x2 x3 : Value} (h0 : W.var? Tryd.prog "loop.example/treadle/impl.errNoRun" = some #[x0]) (h1 : W.var? Tryd.prog "loop.example/treadle/impl.errNoEvent" = some #[x1]) (h2 : W.var? Tryd.prog "loop.example/treadle/impl.errSomebody" = some #[x2]) (h3 : W.var? Tryd.prog "loop.example/treadle/impl.errBelow" = some #[x3]) (i0 : IsIface x0) (i1 : IsIface x1) (i2 : IsIface x2) (i3 : IsIface x3) (sp : Nat → Bool) :
    DataW.TrodVars enc Tryd.prog W sp ["loop.example/treadle/impl.errNoRun", "loop.example/treadle/impl.errNoEvent", "loop.example/treadle/impl.errSomebody", "loop.example/treadle/impl.errBelow"] [tok enc x0, tok enc x1, tok enc x2, tok enc x3] [.cell 0 0, .cell 1 0, .cell 2 0, .cell 3 0] :=
  ⟨0, 58, #[x0], 1, [], [.cell 1 0, .cell 2 0, .cell 3 0], Tryd.gE0, Tryd.gT0, h0, trod_held Tryd.underlying58 i0 0, ⟨1, 58, #[x1], 1, [], [.cell 2 0, .cell 3 0], Tryd.gE1, Tryd.gT1, h1, trod_held Tryd.underlying58 i1 0, ⟨2, 58, #[x2], 1, [], [.cell 3 0], Tryd.gE2, Tryd.gT2, h2, trod_held Tryd.underlying58 i2 0, ⟨3, 58, #[x3], 1, [], [], Tryd.gE3, Tryd.gT3, h3, trod_held Tryd.underlying58 i3 0, rfl, rfl⟩, rfl⟩, rfl⟩, rfl⟩

/-- both Honests answer alike -/
theorem honests (S : Int) (n : Nat) (F T : Nat → Int) (m : Nat) (P : Nat → Nat → Int) (a : Nat → Addr) (hm : m ≤ 1048576) : ∃ B : Bool,
    (∀ g ge W, Row W g 81 2 n (two F T) → Row W ge 51 3 m (evs P) → Calls Tryd.prog 8 #[.agg #[.int .i64 S, .slice (some ⟨g, 0, none⟩) n n], .slice (some ⟨ge, 0, none⟩) m m] W fun e w' => e = .returned (.bool B) ∧ Below W.heap.size W w') ∧
    (∀ g ge W, Row W g 81 2 n (two F T) → Row W ge 51 3 m (evs P) → Snt W a → Calls Tryd.prog 11 #[.agg #[.int .i64 S, .slice (some ⟨g, 0, none⟩) n n], .slice (some ⟨ge, 0, none⟩) m m] W fun e w' => e = .returned (.bool B) ∧ Below W.heap.size W w') := by
  by_cases hok : lokZ S n F T = 0 ∧ m ≤ 2000
  · obtain ⟨hl, hm2⟩ := hok
    obtain ⟨r1, r2, r3⟩ := lok_range hl
    obtain ⟨ns, rfl⟩ : ∃ ns : Nat, S = (ns : Int) := ⟨S.toNat, by omega⟩
    have key : ∃ B : Bool, (B = true ↔ honP (ns : Int) n ns F T P m) := by
      by_cases h : honP (ns : Int) n ns F T P m
      · exact ⟨true, ⟨fun _ => h, fun _ => rfl⟩⟩
      · exact ⟨false, ⟨fun h' => (by cases h'), fun h' => absurd h' h⟩⟩
    obtain ⟨B, hB⟩ := key
    refine ⟨B, fun g ge W hr hv => ?_, fun g ge W hr hv ha => ?_⟩
    · refine (specHonest_ok g n ge m ns F T P W hr hv hl hm2).mono ?_
      rintro e w' ⟨b, rfl, hb, hbe⟩
      have : b = B := Bool.eq_iff_iff.2 (hb.trans hB.symm)
      subst this
      exact ⟨rfl, hbe⟩
    · have bV : Below W.heap.size W (W.alloc (.cells #[.int .i64 (ns : Int), .slice (some ⟨g, 0, none⟩) n n] 31)) := below_alloc (Below.refl _ _) _
      refine (honest_of (ns : Int) g n _ a W _ _ ha rfl (lie_ok g n ge (ge + 1) m ns m _ F T P a _ (hr.on bV) (SlF.of_row (Row.on hv bV) (Nat.le_refl _) (Nat.lt_succ_self _)) (ha.on bV) hl hm2)).mono ?_
      rintro e w' ⟨o, rfl, hq, hbe⟩
      have : o.isNone = B := Bool.eq_iff_iff.2 (by rw [Option.isNone_iff_eq_none]; exact hq.trans hB.symm)
      rw [this]
      exact ⟨rfl, hbe⟩
  · refine ⟨false, fun g ge W hr hv => specHonest_bad S g n m m _ F T W hm hr hok, fun g ge W hr hv ha => ?_⟩
    have bV : Below W.heap.size W (W.alloc (.cells #[.int .i64 S, .slice (some ⟨g, 0, none⟩) n n] 31)) := below_alloc (Below.refl _ _) _
    refine (honest_of S g n _ a W _ (fun o => o = some 0) ha rfl ((lie_bad S g n m m _ F T a _ hm (hr.on bV) (ha.on bV) hok).mono fun e w' ⟨h1, h2⟩ => ⟨some 0, h1, fun i h => (by cases h; omega), rfl, h2⟩)).mono ?_
    rintro e w' ⟨o, rfl, rfl, hbe⟩
    exact ⟨rfl, hbe⟩

/-- a world in which the four errors are laid -/
def laidW (P : Program) (os : Os) : World :=
  let k := (World.holding P default ⟨#[], #[], []⟩).heap.size
  let w0 := World.holding P os ⟨#[.cells #[.string { data := #[116, 104, 101, 32, 108, 97, 121, 111, 117, 116, 32, 105, 115, 32, 110, 111, 116, 32, 114, 105, 103, 104, 116, 44, 32, 111, 114, 32, 116, 104, 101, 32, 101, 118, 101, 110, 116, 115, 32, 97, 114, 101, 32, 116, 111, 111, 32, 109, 97, 110, 121] }] 195, .cells #[.string { data := #[97, 110, 32, 101, 118, 101, 110, 116, 32, 105, 115, 32, 110, 111, 110, 101] }] 195, .cells #[.string { data := #[97, 32, 115, 101, 99, 116, 105, 111, 110, 32, 105, 115, 32, 114, 101, 115, 101, 116, 32, 119, 105, 116, 104, 32, 115, 111, 109, 101, 98, 111, 100, 121, 32, 105, 110, 32, 105, 116] }] 195, .cells #[.string { data := #[102, 101, 119, 101, 114, 32, 116, 104, 97, 110, 32, 110, 111, 98, 111, 100, 121, 32, 97, 114, 101, 32, 105, 110, 32, 97, 32, 115, 101, 99, 116, 105, 111, 110] }] 195], #[], []⟩
  { w0 with heap := (((w0.heap.modify 0 fun
      | .cells _ t frozen => .cells #[.iface 193 (.pointer (some ⟨k, 0, none⟩))] t frozen
      | o => o).modify 1 fun
      | .cells _ t frozen => .cells #[.iface 193 (.pointer (some ⟨k + 1, 0, none⟩))] t frozen
      | o => o).modify 2 fun
      | .cells _ t frozen => .cells #[.iface 193 (.pointer (some ⟨k + 2, 0, none⟩))] t frozen
      | o => o).modify 3 fun
      | .cells _ t frozen => .cells #[.iface 193 (.pointer (some ⟨k + 3, 0, none⟩))] t frozen
      | o => o }
theorem laidW_met (os : Os) (args : Array Value) : laidMet Tryd.prog Rows.fnExactHonestRow.laid ((laidW Tryd.prog os).forCall (fun _ _ => 0) ⟨#[], args, []⟩).memory :=
  laidMet_of_run (ps := [.cell 0 0, .cell (World.holding Tryd.prog default ⟨#[], #[], []⟩).heap.size 0, .cell 1 0, .cell ((World.holding Tryd.prog default ⟨#[], #[], []⟩).heap.size + 1) 0, .cell 2 0, .cell ((World.holding Tryd.prog default ⟨#[], #[], []⟩).heap.size + 2) 0, .cell 3 0, .cell ((World.holding Tryd.prog default ⟨#[], #[], []⟩).heap.size + 3) 0]) 8 (by kernel_rfl) (by kernel_rfl) (by kernel_rfl)

set_option maxRecDepth 100000 in
theorem fnExactHonest_lifted (os : Os) (started : os.Started) (H : Type) (enc : TypeId × Value → H) :
    ReturnsInHanded {} Tryd.checked os 3 .any (fun w args => (Rows.fnExactHonestSpec.pre enc Tryd.prog Tryd.f3 [] false w args ∧ laidMet Tryd.prog Rows.fnExactHonestRow.laid w) ∧ sizedMet enc Tryd.prog Tryd.f3 (OpenSpec.ofChange Rows.fnExactHonestSpec) false w args)
      (Rows.fnExactHonestSpec.post enc Tryd.prog Tryd.f3 false true false false) := by
  refine returnsInHanded_of_change_and (C := Tryd.checked) (X := fun w _ => laidMet Tryd.prog Rows.fnExactHonestRow.laid w) (fun _ _ _ hh h => h.of_heap hh) Tryd.own started (by kernel_rfl) Tryd.func3
    (ChangeSpec.witness_at (enc := enc) (C := Tryd.checked) (os := os) (X := fun w _ => laidMet Tryd.prog Rows.fnExactHonestRow.laid w) false (laidW Tryd.prog os) #[.agg #[.int .i64 0, .slice none 0 0], .slice none 0 0] 8 rfl (by kernel_rfl) (by kernel_rfl) (by kernel_rfl) (by kernel_rfl) (by kernel_rfl) (laidW_met os _)) ?_
  intro W base args ds gs before hval0 hW _ _ hL _
  have hval : ∀ (j : Nat) t v, Tryd.f3.params[j]? = some t → args[j]? = some v → Value.okWide Tryd.prog W .any base t v := hval0
  have hW' := hW
  obtain ⟨p, q, hA0, hV0, rfl, hfz, hnd⟩ := hW
  have hA : DataW.TrodAll enc Tryd.prog W 0 (fun _ => true) true Tryd.f3.params.toList args.toList ds p := hA0
  have hV : DataW.TrodVars enc Tryd.prog W (fun _ => true) ["loop.example/treadle/impl.errNoRun", "loop.example/treadle/impl.errNoEvent", "loop.example/treadle/impl.errSomebody", "loop.example/treadle/impl.errBelow"] gs q := hV0
  rw [Tryd.params3] at hA hval
  obtain ⟨v0, vs0, d0, ds0, p0, q0, hargs, rfl, rfl, h0, r0⟩ := trodAll_cons hA
  obtain ⟨v1, vs1, d1, ds1, p1, q1, rfl, rfl, rfl, h1, r1⟩ := trodAll_cons r0
  obtain ⟨rfl, rfl, rfl⟩ := trodAll_nil r1
  obtain rfl : args = #[v0, v1] := by rw [← Array.toList_inj]; exact hargs
  obtain ⟨a0, a1, a2, a3, x0, x1, x2, x3, hS⟩ := snt_of_laid hL
  obtain ⟨rfl, rfl⟩ := hV.unique (vars_read4 enc x0 x1 x2 x3 trivial trivial trivial trivial _)
  have hl0 : ∀ x ∈ p0, x.block < W.heap.size := fun x hx => by simpa using hW'.lt x (by simp [hx])
  have hl1 : ∀ x ∈ p1, x.block < W.heap.size := fun x hx => by simpa using hW'.lt x (by simp [hx])
  obtain ⟨S, ao, n, cap, F, T, rfl, hn, hc, _⟩ := open_layout (hval 0 24 v0 rfl rfl) h0
  obtain ⟨ap, nP, capP, rfl⟩ := okWide_slice Tryd.underlying25 (hval 1 25 v1 rfl rfl)
  obtain ⟨P, hnP, hcP⟩ : ∃ P, nP ≤ maxLen ∧ Came3 W ap nP P := by
    obtain ⟨fuel, hf⟩ := h1
    obtain ⟨ao', n', cap', P, e, hm, hc⟩ := came3_of_trod (c := .slice ap nP capP) hf
    simp only [Value.slice.injEq] at e
    obtain ⟨rfl, rfl, rfl⟩ := e
    exact ⟨P, hm, hc⟩
  clear hA0 hval0 hV0
  have key : Calls Tryd.prog 3 #[.agg #[.int .i64 S, .slice ao n cap], .slice ap nP capP] W fun e w' => e = .returned (.bool true) ∧ Below W.heap.size W w' := by
    by_cases h : (n : Int) ≤ 1048576
    · by_cases hp : (nP : Int) ≤ 1048576 - n
      · obtain ⟨B, kS, kI⟩ := honests S n F T nP P (four a0 a1 a2 a3) (by omega)
        exact honest_small S ao ap n cap nP capP F T P _ W h hp hc hcP hS B kS kI
      · exact honest_great2 S ao ap n cap nP capP W hn hnP h hp
    · exact honest_great S ao ap n cap nP capP W hn h
  refine key.mono fun e W' ⟨he, hb⟩ => ?_
  subst he
  have lt : ∀ i, i < 4 → i < W.heap.size := fun i hi => World.block_lt_of_cell? W _ (hS.cell i hi)
  refine ⟨_, rfl, _, _, _, [], p0 ++ (p1 ++ []), [.cell 0 0, .cell 1 0, .cell 2 0, .cell 3 0], hW', ?_, ?_, ?_, hb.frame _, fun h => by cases h⟩
  · exact trodAll_mk1 (shut_bool Tryd.underlying4 true)
  · exact trodAll_cons_mk (Below.trod Tryd.laidOut (by kernel_rfl) (of_decide_eq_true (by kernel_rfl)) h0 hb hl0) (trodAll_cons_mk (Below.trod Tryd.laidOut (by kernel_rfl) (of_decide_eq_true (by kernel_rfl)) h1 hb hl1) trodAll_mk0)
  · exact vars_read4 enc (var?_below hb Tryd.gE0 (lt 0 (by omega)) x0) (var?_below hb Tryd.gE1 (lt 1 (by omega)) x1) (var?_below hb Tryd.gE2 (lt 2 (by omega)) x2) (var?_below hb Tryd.gE3 (lt 3 (by omega)) x3) trivial trivial trivial trivial _

theorem fnExactHonest_row : Rows.FnExactHonestSaid :=
  OpenClaim.holds_of_wide 3 Tryd.f3 rfl rfl rfl rfl rfl rfl rfl ⟨rfl, rfl, rfl, rfl, rfl⟩ rfl rfl rfl rfl rfl (by kernel_rfl) Tryd.func3 (by kernel_rfl)
    (of_decide_eq_true (by kernel_rfl)) (by unfold Func.isWrapper; first | (rw [if_pos (by decide +kernel)]; kernel_rfl) | (rw [if_neg (by decide +kernel)]; exact ⟨rfl, rfl⟩))
    (fun os started H enc _ => fnExactHonest_lifted os started H enc)

theorem fnExactHonest_holds : Rows.FnExactHonestCardSaid :=
  Claim7.holds_tied_plain_at .later [] [.sentinel, .sentinel, .sentinel, .sentinel] true (true, "63445a523dcad1b86ad655c32deafe18bd45c1614bc0c2229d9e27a68d4877f7") true
    fnExactHonest_row (fun _ h => by cases h) (by kernel_rfl) (fun _ h => by cases h) fnExactHonest_row_tie rfl ⟨rfl, rfl⟩ (by kernel_rfl) rfl
    (fun f fn hf hfn => by
      obtain rfl : f = 3 := Option.some.inj ((show Tryd.prog.funcNamed "loop.example/treadle/laws.FnExactHonest" = some 3 by kernel_rfl).symm.trans hf) |>.symm
      obtain rfl : fn = Tryd.f3 := (Option.some.inj (Tryd.func3.symm.trans hfn)).symm
      exact ⟨by kernel_rfl, fun j t ht => by
        rw [Tryd.params3] at ht
        match j with
        | 0 =>
          have h3 : t = 24 := by simpa using ht.symm
          subst h3
          exact (show Tryd.prog.wantsStandIn 24 = false by kernel_rfl)
        | 1 =>
          have h3 : t = 25 := by simpa using ht.symm
          subst h3
          exact (show Tryd.prog.wantsStandIn 25 = false by kernel_rfl)
        | j + 2 => simp at ht⟩)
    (by kernel_rfl)

#print axioms fnExactHonest_holds

end Go.Proofs.YtlpopfhaephfaabDoor
