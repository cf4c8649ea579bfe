import Derived.Test.YtlpopfhaephfaaaDoorW1
import Derived.WalkKit
import Derived.LaidEql
import Derived.Stop.Asserts
import Derived.Test.YtlpopfhaephfaaaDoorCR
import Derived.Test.YtlpopfhaephfaaaDoorQT
namespace Go.Proofs.YtlpopfhaephfaaaDoor
open Go.RowKit Go.Extern.Stop Go.Stop Go.Extern

theorem Tryd.esTypeOf (v : Value) (w : World) : (Extern.ReflectliteType.typeOf #[.iface 155 v]).run Tryd.prog w = .ok (.iface 127 (.agg #[.pointer (some ⟨4, 155, none⟩)])) w := by kernel_rfl
theorem Tryd.esComparable (w : World) : ((Extern.ReflectliteType.method fun t => do Rtype.noPackHeld "Comparable" t; pure (.bool (← typeInfo t).comparable)) #[.agg #[.pointer (some ⟨4, 155, none⟩)]]).run Tryd.prog w = .ok (.bool true) w := by kernel_rfl
theorem Tryd.esCallT (v : Value) (w : World) : (callFunc 45 #[.iface 155 v]).run Tryd.prog w = .ok (.value (.iface 127 (.agg #[.pointer (some ⟨4, 155, none⟩)]))) w := by
  rw [@run_callFunc_extern Tryd.prog 45 _ Extern.ReflectliteType.typeOf Tryd.func45 (by kernel_rfl) (by kernel_rfl) (by kernel_rfl) (by kernel_rfl), Tryd.esTypeOf]
  rfl
theorem Tryd.esCallC (w : World) : (callFunc 94 #[.agg #[.pointer (some ⟨4, 155, none⟩)]]).run Tryd.prog w = .ok (.value (.bool true)) w := by
  rw [@run_callFunc_extern Tryd.prog 94 _ (Extern.ReflectliteType.method fun t => do Rtype.noPackHeld "Comparable" t; pure (.bool (← typeInfo t).comparable)) Tryd.func94 (by kernel_rfl) (by kernel_rfl) (by kernel_rfl) (by kernel_rfl), Tryd.esComparable]
  rfl
theorem Tryd.esMethod (v : Value) (w : World) : (Go.method 292 127 v "Comparable").run Tryd.prog w = .ok (94, v) w := by kernel_rfl
theorem Tryd.esComp : (Tryd.prog.info? 155).map (·.comparable) = some true := by kernel_rfl
theorem Tryd.esSize : (Tryd.prog.info? 180).map (·.size) = some 1 := by kernel_rfl
theorem Tryd.esNoIs (v : Value) (xT : TypeId) (w : World) : (Instr.typeAssert (.iface 155 v) xT 129 true).run Tryd.prog w = .ok (.tuple #[.nilIface, .bool false]) w := run_typeAssert_lacksB Tryd.underlying129 (by kernel_rfl) (by kernel_rfl) v xT w
theorem Tryd.esNoUw (v : Value) (xT : TypeId) (w : World) : (Instr.typeAssert (.iface 155 v) xT 132 true).run Tryd.prog w = .ok (.tuple #[.nilIface, .bool false]) w := run_typeAssert_lacksB Tryd.underlying132 (by kernel_rfl) (by kernel_rfl) v xT w
theorem Tryd.esNoUws (v : Value) (xT : TypeId) (w : World) : (Instr.typeAssert (.iface 155 v) xT 134 true).run Tryd.prog w = .ok (.tuple #[.nilIface, .bool false]) w := run_typeAssert_lacksB Tryd.underlying134 (by kernel_rfl) (by kernel_rfl) v xT w

/-- an error of errors.New's make is itself -/
theorem is_same (a : Addr) (w : World) :
    Calls Tryd.prog 24 #[.iface 155 (.pointer (some a)), .iface 155 (.pointer (some a))] w fun e w' => e = .returned (.bool true) ∧ w' = w := by
  obtain ⟨i, hi, hcmp⟩ := Option.map_eq_some_iff.1 Tryd.esComp
  obtain ⟨j, hj, hjs⟩ := Option.map_eq_some_iff.1 Tryd.esSize
  have hT := Tryd.esCallT
  have hM := Tryd.esCallC
  have mR := Tryd.esMethod
  have heq := run_eql_iface_ptr_same (P := Tryd.prog) w a Tryd.underlying65 Tryd.underlying155 hi hcmp hj
  go_enter Tryd.func24, Tryd.ntmps24
  go_wp2
  refine wp_loop_rounds 1 ?_
  rw [rounds_succ]
  go_wp2
  go_ret
  exact ⟨rfl, rfl⟩

theorem is_nil (b : Addr) (w : World) :
    Calls Tryd.prog 24 #[.nilIface, .iface 155 (.pointer (some b))] w fun e w' => e = .returned (.bool false) ∧ w' = w := by
  have hn := run_eql_iface_nil_left (P := Tryd.prog) w 155 (.pointer (some b)) Tryd.underlying65
  go_enter Tryd.func24, Tryd.ntmps24
  go_wp2
  go_ret
  exact ⟨rfl, rfl⟩

/-- two of errors.New's make at different places -/
theorem is_other (a b : Addr) (ca cb : Array Value) (ta tb : TypeId) (w : World) (hne : a ≠ b) (ha : w.heap[a.block]? = some (.cells ca ta (0, 0))) (hb : w.heap[b.block]? = some (.cells cb tb (0, 0))) :
    Calls Tryd.prog 24 #[.iface 155 (.pointer (some a)), .iface 155 (.pointer (some b))] w fun e w' => e = .returned (.bool false) ∧ w' = w := by
  obtain ⟨i, hi, hcmp⟩ := Option.map_eq_some_iff.1 Tryd.esComp
  obtain ⟨j, hj, hjs⟩ := Option.map_eq_some_iff.1 Tryd.esSize
  have hT := Tryd.esCallT
  have hM := Tryd.esCallC
  have mR := Tryd.esMethod
  have nE := Tryd.esNoIs
  have uE := Tryd.esNoUw
  have vE := Tryd.esNoUws
  have heq := run_eql_iface_ptr_other (P := Tryd.prog) w Tryd.underlying65 Tryd.underlying155 hi hcmp hj (by rw [hjs]; decide) hne ha hb
  go_enter Tryd.func24, Tryd.ntmps24
  go_wp2
  refine wp_loop_rounds 1 ?_
  rw [rounds_succ]
  go_wp2
  go_ret
  exact ⟨rfl, rfl⟩

end Go.Proofs.YtlpopfhaephfaaaDoor

namespace Go.Proofs.YtlpopfhaephfaaaDoor
open Go.RowKit

/-- an error that is none, or one of the four -/
def errV (a : Nat → Addr) : Option Nat → Value
  | none => .nilIface
  | some i => .iface 155 (.pointer (some (a i)))

/-- The four errors at package level, as they were laid. -/
structure Snt (W : World) (a : Nat → Addr) : Prop where
  cell : ∀ i, i < 4 → W.cell? ⟨i, 0, none⟩ = some (.iface 155 (.pointer (some (a i))))
  blk : ∀ i, i < 4 → ∃ c t, W.heap[(a i).block]? = some (.cells c t (0, 0))
  ne : ∀ i j, i < 4 → j < 4 → i ≠ j → a i ≠ a j

theorem Snt.on {W W' : World} {a : Nat → Addr} (h : Snt W a) (hb : Below W.heap.size W W') : Snt W' a :=
  ⟨fun i hi => (hb.cell (p := ⟨i, 0, none⟩) (World.block_lt_of_cell? W _ (h.cell i hi))).trans (h.cell i hi),
   fun i hi => by obtain ⟨c, t, hc⟩ := h.blk i hi; exact ⟨c, t, (hb.block _ (Array.getElem?_eq_some_iff.1 hc).1).trans hc⟩, h.ne⟩

/-- why an event lies, the row behind it being given -/
def lieE (S : Int) (n ns : Nat) (Z : Nat → Int) (op f d : Int) : Option Nat :=
  if evB S n op f d = false then some 1 else if op = 5 ∧ ¬ Z f.toNat = 0 then some 2 else if (List.range ns).any (fun s => decide (Z s < 0)) then some 3 else none

theorem min_one (Z : Nat → Int) : Z 0 < 0 ↔ ∃ s, s < 1 ∧ Z s < 0 := by
  constructor
  · exact fun h => ⟨0, by omega, h⟩
  · rintro ⟨s, h1, h2⟩
    have h0 : s = 0 := by omega
    rw [h0] at h2
    exact h2
theorem min_step {Z : Nat → Int} {k : Nat} {z y x : Int} (hz : z < 0 ↔ ∃ s, s < k ∧ Z s < 0) (ey : Z k = y) (hx : (x < 0 ↔ z < 0 ∨ y < 0)) : x < 0 ↔ ∃ s, s < k + 1 ∧ Z s < 0 := by
  rw [hx, hz]
  constructor
  · rintro (⟨s, h1, h2⟩ | h)
    · exact ⟨s, by omega, h2⟩
    · exact ⟨k, by omega, by rw [ey]; exact h⟩
  · rintro ⟨s, h1, h2⟩
    rcases (show s < k ∨ s = k by omega) with h | h
    · exact .inl ⟨s, h, h2⟩
    · subst h; right; rw [← ey]; exact h2

set_option maxHeartbeats 1000000 in
theorem minS_any (rb ns : Nat) (Z : Nat → Int) (w : World) (hp : 0 < ns) (hn : ns ≤ 60) (hb : IntB w rb ns Z) :
    Calls Tryd.prog 62 #[.slice (some ⟨rb, 0, none⟩) ns ns] w fun e w' => ∃ z, e = .returned (.int .i64 z) ∧ (z < 0 ↔ (List.range ns).any (fun s => decide (Z s < 0)) = true) ∧ w' = w := by
  have c0 := Blk.cell hb hp
  have hp' : ¬ (ns : Int) < 1 := by omega
  have hp1 : (0 : Int) < (ns : Int) := by omega
  go_enter Tryd.func62, Tryd.ntmps62
  go_wp2
  go_loopw [3, 4] (fun q i wr => ∃ (k : Nat) (z : Int), 1 ≤ k ∧ k ≤ ns ∧ i = .int .i64 k ∧ q = .int .i64 z ∧ (z < 0 ↔ ∃ s, s < k ∧ Z s < 0) ∧ wr = w) (fun _ i _ => ns - (intOf i).toNat)
  case atStart => exact ⟨1, Z 0, Nat.le_refl _, hp, rfl, rfl, min_one Z, rfl⟩
  case round =>
    obtain ⟨k, z, hk1, hk, rfl, rfl, hz, rfl⟩ := hrel
    by_cases hlt : k < ns
    · have ck := Blk.cell hb hlt
      have hk2 : (k : Int) < (ns : Int) := by omega
      obtain ⟨y, ey⟩ : ∃ y, Z k = y := ⟨_, rfl⟩
      simp only [ey] at ck
      have HZ : Hid _ := hz
      have EY : Hid _ := ey
      clear hz ey c0
      by_cases hyz : y < z
      · go_wp2
        go_roundw
        case rel => exact ⟨k + 1, y, by omega, by omega, by go_num, rfl, min_step HZ.out EY.out (by omega), trivial⟩
        case measure => simp [intOf]; omega
      · go_wp2
        go_roundw
        case rel => exact ⟨k + 1, z, by omega, by omega, by go_num, rfl, min_step HZ.out EY.out (by omega), trivial⟩
        case measure => simp [intOf]; omega
    · have : k = ns := by omega
      subst this
      go_wp2
      go_ret
      refine ⟨z, rfl, ?_, rfl⟩
      rw [hz, List.any_eq_true]
      simp

set_option maxRecDepth 100000 in
set_option maxHeartbeats 2000000 in
theorem lieAt_any (S op f d : Int) (g n ns rb : Nat) (Z : Nat → Int) (a : Nat → Addr) (w : World) (hn : n ≤ 120) (hp : 0 < ns) (hs : ns ≤ 60) (hS : (ns : Int) = S) (hb : IntB w rb ns Z) (ha : Snt w a) :
    Calls Tryd.prog 44 #[.agg #[.int .i64 S, .slice (gA g) n (gC g)], .agg #[.int .i64 op, .int .i64 f, .int .i64 d], .slice (some ⟨rb, 0, none⟩) ns ns] w fun e w' => e = .returned (errV a (lieE S n ns Z op f d)) ∧ Below w.heap.size w w' := by
  have kh := fun W => happensIn_any S op f d n g W hn
  have G := fun W (hW : Below w.heap.size w W) i (hi : i < 4) => (ha.on hW).cell i hi
  have km := fun W (hW : Below w.heap.size w W) => minS_any rb ns Z W hp hs (Blk.on hb hW)
  have eLB : lieE S n ns Z op f d = if evB S n op f d = false then some 1 else if op = 5 ∧ ¬ Z f.toNat = 0 then some 2 else if (List.range ns).any (fun s => decide (Z s < 0)) then some 3 else none := rfl
  obtain ⟨B, eB⟩ : ∃ B, (List.range ns).any (fun s => decide (Z s < 0)) = B := ⟨_, rfl⟩
  simp only [eB] at km eLB
  rw [eLB]
  clear eLB eB
  cases hev : evB S n op f d
  · have e1 : hapI S n op f d = .nilIface := by unfold hapI; rw [hev]; rfl
    rw [e1] at kh
    rw [if_pos rfl]
    clear e1 hev
    go_enter Tryd.func44, Tryd.ntmps44
    go_wp2_with fail
    refine (kh _).mono ?_
    rintro e w1 ⟨rfl, hb1⟩
    have B1 := below_on (show Below w.heap.size w _ from (by repeat (first | exact Below.refl _ _ | assumption | refine below_alloc ?_ _ | refine Below.setCell ?_ (by first | omega | (simp; done) | (simp; omega)) _ | refine Below.alloc ?_ (by first | omega | (simp; done) | (simp; omega)) _ | refine Below.drew ?_))) hb1
    have c1 := G _ B1 1 (by omega)
    go_wp2
    go_ret
    exact ⟨rfl, B1⟩
  · have e1 : hapI S n op f d = hapV op f d := by unfold hapI; rw [hev]; rfl
    rw [e1] at kh
    by_cases h5 : op = 5
    · subst h5
      unfold evB at hev
      rw [if_neg (by omega), if_neg (by omega), if_pos rfl] at hev
      simp only [decide_eq_true_eq] at hev
      obtain ⟨h1, h2, rfl⟩ := hev
      obtain ⟨k, rfl⟩ : ∃ k : Nat, f = (k : Int) := ⟨f.toNat, by omega⟩
      have hk : k < ns := by omega
      have hk' : (k : Int) < (ns : Int) := by omega
      have v1 : hapV 5 (k : Int) 0 = .iface 123 (.agg #[.int .i64 (k : Int)]) := by simp [hapV]
      rw [v1] at kh
      have as_reset : ∀ (v : Value) (W : World), (Instr.typeAssert (.iface 123 v) 98 123 true).run Tryd.prog W = .ok (.tuple #[v, .bool true]) W := fun _ _ => by kernel_rfl
      rw [if_neg (by decide)]
      simp only [true_and, Int.toNat_natCast]
      clear v1 e1
      obtain ⟨x, ex⟩ : ∃ x, Z k = x := ⟨_, rfl⟩
      have XC := fun W (hW : Below w.heap.size w W) => Blk.cell (Blk.on hb hW) hk
      simp only [ex] at XC ⊢
      have zrb := Blk.lt hb
      clear ex
      by_cases hx : x = 0
      · subst hx
        rw [if_neg (by decide)]
        go_enter Tryd.func44, Tryd.ntmps44
        go_wp2_with fail
        refine (kh _).mono ?_
        rintro e w1 ⟨rfl, hb1⟩
        have B1 := below_on (show Below w.heap.size w _ from (by repeat (first | exact Below.refl _ _ | assumption | refine below_alloc ?_ _ | refine Below.setCell ?_ (by first | omega | (simp; done) | (simp; omega)) _ | refine Below.alloc ?_ (by first | omega | (simp; done) | (simp; omega)) _ | refine Below.drew ?_))) hb1
        have c1 := XC _ B1
        have zr1 : rb < w1.heap.size := by have := B1.size; omega
        go_wp2_with fail
        refine (km _ (below_alloc B1 _)).mono ?_
        rintro e w2 ⟨z, rfl, hz, rfl⟩
        have c3 := G _ (below_alloc B1 (.cells #[.int .i64 (k : Int)] 123)) 3 (by omega)
        cases B
        · have hz0 : ¬ z < 0 := fun h => by cases hz.1 h
          go_wp2
          go_ret
          exact ⟨rfl, below_alloc B1 _⟩
        · have hz0 : z < 0 := hz.2 rfl
          go_wp2
          go_ret
          exact ⟨rfl, below_alloc B1 _⟩
      · rw [if_pos hx]
        have hx' : (x == 0) = false := by simp [hx]
        go_enter Tryd.func44, Tryd.ntmps44
        go_wp2_with fail
        refine (kh _).mono ?_
        rintro e w1 ⟨rfl, hb1⟩
        have B1 := below_on (show Below w.heap.size w _ from (by repeat (first | exact Below.refl _ _ | assumption | refine below_alloc ?_ _ | refine Below.setCell ?_ (by first | omega | (simp; done) | (simp; omega)) _ | refine Below.alloc ?_ (by first | omega | (simp; done) | (simp; omega)) _ | refine Below.drew ?_))) hb1
        have c1 := XC _ B1
        have zr1 : rb < w1.heap.size := by have := B1.size; omega
        have c3 := G _ B1 2 (by omega)
        have z2 : 2 < w1.heap.size := World.block_lt_of_cell? w1 _ c3
        go_wp2
        go_ret
        exact ⟨rfl, below_alloc B1 _⟩
    · rw [if_neg (by decide), if_neg (fun h => h5 h.1)]
      obtain ⟨t, v, hv⟩ := hap_ne hev
      have no : ∀ (W : World), (Instr.typeAssert (hapV op f d) 98 123 true).run Tryd.prog W = .ok (.tuple #[.agg #[.int .i64 0], .bool false]) W := by
        have k1 : ∀ (W : World), (Instr.typeAssert (.iface 140 (.agg #[.int .i64 f, .int .i64 d])) 98 123 true).run Tryd.prog W = .ok (.tuple #[.agg #[.int .i64 0], .bool false]) W := fun _ => by kernel_rfl
        have k2 : ∀ (W : World), (Instr.typeAssert (.iface 147 (.agg #[.int .i64 f, .int .i64 d])) 98 123 true).run Tryd.prog W = .ok (.tuple #[.agg #[.int .i64 0], .bool false]) W := fun _ => by kernel_rfl
        have k3 : ∀ (W : World), (Instr.typeAssert (.iface 149 (.agg #[.int .i64 f])) 98 123 true).run Tryd.prog W = .ok (.tuple #[.agg #[.int .i64 0], .bool false]) W := fun _ => by kernel_rfl
        have k4 : ∀ (W : World), (Instr.typeAssert (.iface 150 (.agg #[.int .i64 f])) 98 123 true).run Tryd.prog W = .ok (.tuple #[.agg #[.int .i64 0], .bool false]) W := fun _ => by kernel_rfl
        have k5 : ∀ (W : World), (Instr.typeAssert .nilIface 98 123 true).run Tryd.prog W = .ok (.tuple #[.agg #[.int .i64 0], .bool false]) W := fun _ => by kernel_rfl
        intro W
        unfold hapV
        by_cases h2 : d = 1 ∨ d = -1
        · rw [if_pos h2]
          by_cases h3 : op = 1
          · rw [if_pos h3]; exact k1 W
          · rw [if_neg h3]
            by_cases h4 : op = 2
            · rw [if_pos h4]; exact k2 W
            · rw [if_neg h4]; exact k5 W
        · rw [if_neg h2]
          by_cases h3 : d = 0
          · rw [if_pos h3]
            by_cases h4 : op = 3
            · rw [if_pos h4]; exact k3 W
            · rw [if_neg h4]
              by_cases h6 : op = 4
              · rw [if_pos h6]; exact k4 W
              · rw [if_neg h6, if_neg h5]; exact k5 W
          · rw [if_neg h3]; exact k5 W
      rw [← e1, hv] at no
      rw [← e1, hv] at kh
      clear hv e1
      go_enter Tryd.func44, Tryd.ntmps44
      go_wp2_with fail
      refine (kh _).mono ?_
      rintro e w1 ⟨rfl, hb1⟩
      have B1 := below_on (show Below w.heap.size w _ from (by repeat (first | exact Below.refl _ _ | assumption | refine below_alloc ?_ _ | refine Below.setCell ?_ (by first | omega | (simp; done) | (simp; omega)) _ | refine Below.alloc ?_ (by first | omega | (simp; done) | (simp; omega)) _ | refine Below.drew ?_))) hb1
      go_wp2_with fail
      refine (km _ (below_alloc B1 _)).mono ?_
      rintro e w2 ⟨z, rfl, hz, rfl⟩
      have c3 := G _ (below_alloc B1 (.cells #[.int .i64 0] 123)) 3 (by omega)
      cases B
      · have hz0 : ¬ z < 0 := fun h => by cases hz.1 h
        go_wp2
        go_ret
        exact ⟨rfl, below_alloc B1 _⟩
      · have hz0 : z < 0 := hz.2 rfl
        go_wp2
        go_ret
        exact ⟨rfl, below_alloc B1 _⟩

end Go.Proofs.YtlpopfhaephfaaaDoor

namespace Go.Proofs.YtlpopfhaephfaaaDoor
open Go.RowKit Go.Shelf
attribute [local go_sem] Oper.semAt_some

/-- How a round's body is left here: it goes on, or it returns. -/
def onPostX (R Rx : World → Prop) : Exit → Act → World → Prop
  | .normal, _, W' => R W'
  | .ret, _, W' => Rx W'
  | .exit _, _, _ => False
  | .goto _, _, _ => False
  | .panic _, _, _ => False
  | .outgrown, _, _ => False

/-- An iterator that makes one block of its own (at the heap's end), turns it ahead of each of m rounds, and hands it to the round. -/
def SeqX (n : Nat) (P : Program) (gf : Nat) (lb : Array Value) (encs : Nat → Nat → Array Value) (m : Nat) (Rw : Nat → Nat → World → Prop) (Kp : World → World → Prop) (w0 : World) : Prop :=
  ∀ (l : Nat) (J : Nat → World → Prop) (Jx : World → Prop) (W : World), Below w0.heap.size w0 W →
    (∀ k A B row, J k A → A.grownBy B row → (∀ r, row = some r → r = W.heap.size) → J k B) →
    (∀ k W1, k < m → J k W1 → Rw W.heap.size k W1 → YieldAt Fence.wide (n - 1) P l (encs W.heap.size k) W1 fun e W' => (e = .returned (.bool true) ∧ J (k + 1) W' ∧ Rw W.heap.size k W' ∧ Kp W1 W') ∨ (e = .returned (.bool false) ∧ Jx W')) →
    J 0 W → CallsIn Fence.wide n P gf (#[.func (.yield l) #[] #[]] ++ lb) W fun e W' => (∃ v, e = .returned v) ∧ (J m W' ∨ Jx W')

theorem range_rowsX {P : Program} {n : Nat} {g : Operand} {ps : Array Tmp} {assign body : Code} {Q : Exit → Act → World → Prop} {a : Act} {w : World} {gf : Nat} {lb : Array Value}
    (hg : a.eval g = .func (.func gf) #[] lb) (eg : ∀ args w, (callFunc gf args).run P w = .ok (.enter gf args) w)
    {encs : Nat → Nat → Array Value} {m : Nat} {Rw : Nat → Nat → World → Prop} {Kp : World → World → Prop} (hseq : SeqX (n - 1) P gf lb encs m Rw Kp w)
    (hps : ∀ rb k, (encs rb k).size = ps.size)
    (hRp : ∀ rb k W l o o', Rw rb k W → W.heap[l]? = some o → o.isCells = false → Rw rb k (W.putObj l o'))
    (hKt : ∀ {A B C : World}, Kp A B → Kp B C → Kp A C) (hKb : ∀ (W : World) (l : Nat) (o o' : Obj), W.heap[l]? = some o → o.isCells = false → Kp W (W.putObj l o'))
    (I : Nat → World → Prop)
    (hI : ∀ k A B row, I k A → A.grownBy B row → (∀ r, row = some r → r = w.heap.size + 1 + 1 ∨ (w.heap.size ≤ r ∧ ∃ o : Obj, A.heap[r]? = some o ∧ o.isCells = false)) → I k B)
    (Ix : World → Prop) (hIx : ∀ A B row, Ix A → A.grownBy B row → (∀ r, row = some r → w.heap.size ≤ r ∧ ∃ o : Obj, A.heap[r]? = some o ∧ o.isCells = false) → Ix B)
    (h0 : I 0 w) (a₁ : Nat → Act)
    (hassign : ∀ (l k : Nat) (W : World) (K : Act → World → Prop), K (a₁ k) W →
      assign.wpIn (Fence.wide.inRound l) (n - 1 - 1) P (Exit.then K (fun _ _ _ => False)) { tmps := (ps.zip (encs (w.heap.size + 1 + 1) k)).foldl (fun t (p, v) => t.setIfInBounds p v) a.tmps, defers := [] } W)
    (hbody : ∀ (l k : Nat) (W : World), k < m → I k W → Rw (w.heap.size + 1 + 1) k W → body.wpIn (Fence.wide.inRound l) (n - 1 - 1) P (onPostX (fun W' => KeepsOthers W W' ∧ Kp W W' ∧ Rw (w.heap.size + 1 + 1) k W' ∧ I (k + 1) W') (fun W' => KeepsOthers W W' ∧ Ix W')) (a₁ k) W)
    (hdone : ∀ (W : World), I m W → W.heap[w.heap.size]? = some (.deferred (some [])) → Q .normal { a with defers := { target := .collected w.heap.size, args := #[] } :: a.defers } W)
    (hstop : ∀ (W : World), Ix W → W.heap[w.heap.size]? = some (.deferred (some [])) → Code.ret.wpIn Fence.wide n P Q { a with defers := { target := .collected w.heap.size, args := #[] } :: a.defers } W) :
    (Code.rangeFunc g ps assign body).wpIn Fence.wide n P Q a w := by
  refine wpIn_rangeFunc ?_
  intro fn hfn
  obtain ⟨rec, hrec⟩ : ∃ rec : LoopState → Option Code → Loop, rec = fun st pe => { state := st, pending := pe, fn, tmps := a.tmps, params := ps, assign, body, defers := w.heap.size } := ⟨_, rfl⟩
  obtain ⟨W1, hW1⟩ : ∃ W1, (w.alloc (.deferred (some []))).alloc (.loop (rec .ready none)) = W1 := ⟨_, rfl⟩
  have hL1 : W1.heap[w.heap.size + 1]? = some (.loop (rec .ready none)) := by
    rw [← hW1]; have := World.alloc_heap_new (w.alloc (.deferred (some []))) (.loop (rec .ready none)); rwa [World.size_alloc] at this
  have hK1 : W1.heap[w.heap.size]? = some (.deferred (some [])) := by
    rw [← hW1]; exact (Below.heap_alloc _ _ _ (by simp)).trans (World.alloc_heap_new w _)
  have hI1 : I 0 W1 := by rw [← hW1]; exact hI _ _ _ none (hI _ _ _ none h0 (World.grownBy_alloc w _ none) (fun r e => by cases e)) (World.grownBy_alloc _ _ none) (fun r e => by cases e)
  have hb1 : Below w.heap.size w W1 := by
    rw [← hW1]; exact ((Below.refl _ w).alloc (Nat.le_refl _) _).alloc (by simp) _
  have hs1 : W1.heap.size = w.heap.size + 1 + 1 := by rw [← hW1]; simp
  refine ⟨w.heap.size + 1, [{ target := .collected w.heap.size, args := #[] }], W1, { target := .fn (.func gf) lb, args := #[.func (.yield (w.heap.size + 1)) #[] #[]] }, W1, gf,
    #[.func (.yield (w.heap.size + 1)) #[] #[]] ++ lb, W1, ?_, ?_, ?_, ?_, fun h => (by cases h), ?_⟩
  · rw [← hW1, hrec]; exact run_enterLoop_outer _ _ _ _ _
  · simp only [resolve, hg]
    simp [go_sem]
  · intro f' hf'; trivial
  · simp [invoke, go_sem, eg]
  · refine (hseq (w.heap.size + 1)
      (fun k W => I k W ∧ W.heap[w.heap.size + 1]? = some (.loop (rec .ready none)) ∧ W.heap[w.heap.size]? = some (.deferred (some [])))
      (fun W => Ix W ∧ W.heap[w.heap.size + 1]? = some (.loop (rec .done (some .ret))) ∧ W.heap[w.heap.size]? = some (.deferred (some [])))
      W1 hb1
      (fun k A B row hs hg' hr => ⟨hI k A B row hs.1 hg' (fun r e => .inl (by rw [hr r e, hs1])),
        (hg'.block _ (Array.getElem?_eq_some_iff.1 hs.2.1).1 (fun e => by have := hr _ e.symm; omega)).trans hs.2.1, (hg'.block _ (Array.getElem?_eq_some_iff.1 hs.2.2).1 (fun e => by have := hr _ e.symm; omega)).trans hs.2.2⟩)
      ?_ ⟨hI1, hL1, hK1⟩).mono ?_
    · rw [hs1]
      rintro k W hk ⟨hi, hl, hd⟩ hrw
      have hlt : w.heap.size + 1 < W.heap.size := (Array.getElem?_eq_some_iff.1 hl).1
      have hy := run_yield (P := P) (args := encs (w.heap.size + 1 + 1) k) hl (by rw [hrec]; exact hps _ k)
      rw [hrec] at hy
      refine ⟨fn, _, assign, body, hy, roundIn_of_wpIn hfn (hassign _ k W _ ⟨_, run_beginRound hl (by rw [hrec]), ?_⟩)⟩
      have hl2 : (W.putObj (w.heap.size + 1) (.loop { rec .ready none with state := .busy })).heap[w.heap.size + 1]? = some (.loop { rec .ready none with state := .busy }) := World.putObj_heap_same hlt
      have hk2 : (W.putObj (w.heap.size + 1) (.loop { rec .ready none with state := .busy })).heap[w.heap.size]? = some (.deferred (some [])) := (World.putObj_heap_other (by omega)).trans hd
      have hw2 : Kp W (W.putObj (w.heap.size + 1) (.loop { rec .ready none with state := .busy })) := hKb _ _ _ _ hl rfl
      have hi2 : I k (W.putObj (w.heap.size + 1) (.loop { rec .ready none with state := .busy })) := hI _ _ _ (some (w.heap.size + 1)) hi (grownBy_putObj' _ _ _) (fun r e => by cases e; exact .inr ⟨by omega, _, hl, rfl⟩)
      refine wpIn_mono (hbody _ k _ hk hi2 (hRp _ _ _ _ _ _ hrw hl rfl)) ?_
      rintro e a3 W3 hp
      cases e with
      | normal =>
        obtain ⟨hk3, hkp3, hr3, hi3⟩ := hp
        have hl3 := hk3.same _ _ hl2 rfl
        have hd3 := hk3.same _ _ hk2 rfl
        have he := run_endRound (P := P) none hl3
        refine ⟨_, _, he, .inl ⟨rfl, ⟨hI _ _ _ (some (w.heap.size + 1)) hi3 (grownBy_putObj' _ _ _) (fun r e => by cases e; exact .inr ⟨by omega, _, hl3, rfl⟩), ?_, (World.putObj_heap_other (by omega)).trans hd3⟩, hRp _ _ _ _ _ _ hr3 hl3 rfl, hKt (hKt hw2 hkp3) (hKb _ _ _ _ hl3 rfl)⟩⟩
        rw [World.putObj_heap_same (Array.getElem?_eq_some_iff.1 hl3).1, hrec]
        rfl
      | ret =>
        obtain ⟨hk3, hi3⟩ := hp
        have hl3 := hk3.same _ _ hl2 rfl
        have hd3 := hk3.same _ _ hk2 rfl
        have he := run_endRound (P := P) (some .ret) hl3
        refine ⟨_, _, he, .inr ⟨rfl, hIx _ _ (some (w.heap.size + 1)) hi3 (grownBy_putObj' _ _ _) (fun r e => by cases e; exact ⟨by omega, _, hl3, rfl⟩), ?_, (World.putObj_heap_other (by omega)).trans hd3⟩⟩
        rw [World.putObj_heap_same (Array.getElem?_eq_some_iff.1 hl3).1, hrec]
        rfl
      | exit id => exact hp.elim
      | goto t => exact hp.elim
      | panic ch => exact hp.elim
      | outgrown => exact hp.elim
    · rintro e W2 ⟨⟨v, rfl⟩, ⟨hi, hl, hd⟩ | ⟨hi, hl, hd⟩⟩
      · exact ⟨none, _, by have := run_endLoop (P := P) hl (by rw [hrec]; simp); rw [hrec] at this; exact this, hdone _ (hI _ _ _ (some (w.heap.size + 1)) hi (grownBy_putObj' _ _ _) (fun r e => by cases e; exact .inr ⟨by omega, _, hl, rfl⟩)) ((World.putObj_heap_other (by omega)).trans hd)⟩
      · exact ⟨some .ret, _, by have := run_endLoop (P := P) hl (by rw [hrec]; simp); rw [hrec] at this; exact this, hstop _ (hIx _ _ (some (w.heap.size + 1)) hi (grownBy_putObj' _ _ _) (fun r e => by cases e; exact ⟨by omega, _, hl, rfl⟩)) ((World.putObj_heap_other (by omega)).trans hd)⟩

set_option maxRecDepth 100000 in
set_option maxHeartbeats 2000000 in
theorem rows1_inX (q bl be g n le he m ce ns : Nat) (ae : Option Addr) (F T : Nat → Int) (P : Nat → Nat → Int) (w0 : World) (hl : lokZ (ns : Int) n F T = 0) (hm : m ≤ 2000) (hE : EnvT w0 bl be (ns : Int) g n le he m ae ce F T P) :
    SeqX q Tryd.prog 47 #[.pointer (some ⟨bl, 0, none⟩), .pointer (some ⟨be, 0, none⟩)] (fun rb k => #[.int .i64 (k : Int), .slice (some ⟨rb, 0, none⟩) ns ns]) m (fun rb k W => IntB W rb ns (trZ (ns : Int) n F T P (k + 1))) KpT w0 := by
  intro l J Jx W hW hJ hY h0
  obtain ⟨r1, r2, r3⟩ := lok_range hl
  obtain ⟨Cs, zs, eCs, mk0⟩ := made_ints ns
  have mk := fun W => mk0 W (by omega)
  have EW : EnvT W bl be (ns : Int) g n le he m ae ce F T P := hE.kept (KpT.of_turned (Turned.of_below (E := fun _ => False) (lo := 0) (hi := 0) hW) id id id id)
  have y0 := EW.1.cell (i := 0) (by omega)
  have y1 := EW.2.1.cell (i := 0) (by omega)
  simp only [if_true] at y0 y1
  have b0 : IntB (W.alloc (.cells Cs 3)) W.heap.size ns (trZ (ns : Int) n F T P 0) := by
    have := Blk.new W Cs 3 (fun _ => .int .i64 0) (fun i hi => eCs i (by omega))
    rw [zs] at this
    exact this
  have EA : EnvT (W.alloc (.cells Cs 3)) bl be (ns : Int) g n le he m ae ce F T P := EW.kept (KpT.of_turned (Turned.of_below (E := fun _ => False) (lo := 0) (hi := 0) (below_alloc (Below.refl _ _) _)) id id id id)
  have JA : J 0 (W.alloc (.cells Cs 3)) := hJ _ _ _ none h0 (World.grownBy_alloc _ _ _) (fun r e => by cases e)
  have zl := EW.1.lt
  have ze := EW.2.1.lt
  clear mk0 eCs h0 hE
  refine callsIn_of_wp Tryd.func47 rfl trivial ?_ rfl
  simp only [Tryd.ntmps47, List.size_toArray, List.length_cons, List.length_nil, Nat.reduceAdd, Nat.reduceSub, Array.replicate_succ, Array.replicate_zero, List.push_toArray, List.append_toArray, List.nil_append, List.cons_append]
  gi_wp2
  gi_loopw [12] (fun i wr => ∃ k : Nat, k ≤ m ∧ i = .int .i64 k ∧ IntB wr W.heap.size ns (trZ (ns : Int) n F T P k) ∧ EnvT wr bl be (ns : Int) g n le he m ae ce F T P ∧ J k wr) (fun i _ => m - (intOf i).toNat)
  case atStart => exact ⟨0, Nat.zero_le _, rfl, b0, EA, JA⟩
  case round =>
    clear b0 EA JA EW y0 y1 mk
    obtain ⟨k, hk, rfl, hB, hE, hJk⟩ := hrel
    by_cases hlt : k < m
    · have hE' := hE
      obtain ⟨bL, bE, hrow, ⟨ae', ce', ee, he0⟩⟩ := hE'
      simp only [Value.slice.injEq] at ee
      obtain ⟨rfl, _, rfl⟩ := ee
      rcases he0 with he0 | ⟨ge, me, fe, rfl, _, _, h2, h3, h4⟩
      · omega
      obtain ⟨c0, c1, c2⟩ := trio h3 h2 hlt h4
      have y0 := bL.cell (i := 0) (by omega)
      have y1 := bL.cell (i := 1) (by omega)
      simp only [if_true, Nat.one_ne_zero, if_false] at y0 y1
      have zl' := bL.lt
      have eZ : trZ (ns : Int) n F T P (k + 1) = stepZ (ns : Int) n F T (trZ (ns : Int) n F T P k) (P k 0) (P k 1) (P k 2) := rfl
      obtain ⟨op, eop⟩ : ∃ op, P k 0 = op := ⟨_, rfl⟩
      obtain ⟨f, ef⟩ : ∃ f, P k 1 = f := ⟨_, rfl⟩
      obtain ⟨d, ed⟩ : ∃ d, P k 2 = d := ⟨_, rfl⟩
      rw [eop] at c0 eZ
      rw [ef] at c1 eZ
      rw [ed] at c2 eZ
      have hBU := below_alloc (Below.refl wr.heap.size wr) (.cells #[.int .i64 op, .int .i64 f, .int .i64 d] 56)
      have km := move_any (ns : Int) op f d g n ns W.heap.size F T (trZ (ns : Int) n F T P k) (wr.alloc (.cells #[.int .i64 op, .int .i64 f, .int .i64 d] 56)) hl rfl (hrow.alloc _) (Blk.on hB hBU) (fun s _ => by have := trZ_bound (ns : Int) n F T P k s; omega)
      rw [← eZ] at km
      have EU := hE.kept (KpT.of_turned (Turned.of_below (E := fun _ => False) (lo := 0) (hi := 0) hBU) id id id id)
      have JU := hJ _ _ _ none hJk (grown_of_below hBU) (fun r e => by cases e)
      have hi1 : (k : Int) < (m : Int) := by omega
      clear eZ eop ef ed h3 h4 bE hrow hE hJk hBU bL hB
      gi_wp2_with fail
      refine ⟨trivial, fun h => (by cases h), ?_⟩
      refine (callsIn_wide.2 km).mono ?_
      clear km
      rintro e w1 ⟨⟨v, rfl⟩, hB1, hT1⟩
      have J1 := hJ _ _ _ (some W.heap.size) JU hT1.grown1 (fun r e => by cases e; rfl)
      have E1 := EU.kept (KpT.of_turned hT1 (by decide) (by decide) (by decide) (by decide))
      obtain ⟨fn, tmps, assign, body, hy, hR⟩ := hY k w1 hlt J1 hB1
      clear J1 JU EU hT1 y0 y1 c0 c1 c2
      gi_wp2
      refine ⟨fun h => (by cases h), hR.mono ?_⟩
      rintro e W3 (⟨rfl, hJ3, hB3, hk3⟩ | ⟨rfl, hx⟩)
      · have E3 := E1.kept hk3
        clear hR hy
        gi_wp2
        go_roundw
        case rel => exact ⟨k + 1, by omega, by go_num, hB3, E3, hJ3⟩
        case measure => simp [intOf]; omega
      · gi_wp2
        refine bodyPost_ret (results_none rfl _ _ _) rfl ?_
        exact ⟨⟨_, rfl⟩, .inr hx⟩
    · gi_wp2
      go_end0
      have : k = m := by omega
      subst this
      exact ⟨⟨_, rfl⟩, .inl hJk⟩

end Go.Proofs.YtlpopfhaephfaaaDoor

namespace Go.Proofs.YtlpopfhaephfaaaDoor
open Go.RowKit Go.Shelf
attribute [local go_sem] Oper.semAt_some

/-- no event lies -/
def honP (S : Int) (n ns : Nat) (F T : Nat → Int) (P : Nat → Nat → Int) (m : Nat) : Prop := ∀ k, k < m → lieE S n ns (trZ S n F T P (k + 1)) (P k 0) (P k 1) (P k 2) = none

theorem lieE_lt {S op f d : Int} {n ns : Nat} {Z : Nat → Int} {i : Nat} (h : lieE S n ns Z op f d = some i) : i < 4 := by
  unfold lieE at h
  split at h
  · cases h; omega
  · split at h
    · cases h; omega
    · split at h
      · cases h; omega
      · cases h

theorem lie_bad (S : Int) (g n m ce : Nat) (ae : Option Addr) (F T : Nat → Int) (a : Nat → Addr) (w : World) (hm : m ≤ 1048576) (hrow : CRow w g n F T) (ha : Snt w a) (hb : ¬ (lokZ S n F T = 0 ∧ m ≤ 2000)) :
    Calls Tryd.prog 23 #[.agg #[.int .i64 S, .slice (gA g) n (gC g)], .slice ae m ce] w fun e w' => e = .returned (errV a (some 0)) ∧ Below w.heap.size w w' := by
  have kc := fun W hr => runOk_any S g n m ce ae F T W hm hr
  have e0 : (lokZ S n F T == 0 && decide (m ≤ 2000)) = false := by
    cases h1 : (lokZ S n F T == 0)
    · rfl
    · simp only [beq_iff_eq] at h1
      simp only [Bool.true_and, decide_eq_false_iff_not]
      exact fun h => hb ⟨h1, h⟩
  rw [e0] at kc
  go_enter Tryd.func23, Tryd.ntmps23
  go_wp2_with fail
  refine (kc _ (((hrow.alloc _).alloc _).alloc _)).mono ?_
  rintro e w1 ⟨rfl, hb1⟩
  have B1 := below_on (show Below w.heap.size w _ from (by repeat (first | exact Below.refl _ _ | assumption | refine below_alloc ?_ _ | refine Below.setCell ?_ (by first | omega | (simp; done) | (simp; omega)) _ | refine Below.alloc ?_ (by first | omega | (simp; done) | (simp; omega)) _ | refine Below.drew ?_))) hb1
  have c0 := (ha.on B1).cell 0 (by omega)
  have bx : Blk w1 (w.heap.size + 1 + 1) 65 1 (fun _ => .nilIface) := by
    have := (Blk.new ((w.alloc (.cells #[.int .i64 S, .slice (gA g) n (gC g)] 25)).alloc (.cells #[.slice ae m ce] 26)) #[.nilIface] 65 (fun _ => .nilIface) (fun i hi => by simp at hi; match i, hi with | 0, _ => rfl)).on hb1
    simp only [World.size_alloc] at this
    exact this
  have x0 := bx.cell (i := 0) (by omega)
  have f0 := bx.frozen 0
  have y0 := (blk_one bx (.iface 155 (.pointer (some (a 0))))).cell (i := 0) (by omega)
  go_wp2
  exact bodyPost_ret (v := .iface 155 (.pointer (some (a 0)))) (by simp only [results, Tryd.results23]; simp [go_sem, y0]) rfl ⟨rfl, B1.setCell (by first | omega | (simp; done) | (simp; omega)) _⟩

set_option maxRecDepth 100000 in
set_option maxHeartbeats 4000000 in
theorem lie_ok (g n le he m ns ce : Nat) (ae : Option Addr) (F T : Nat → Int) (P : Nat → Nat → Int) (a : Nat → Addr) (w : World) (hrow : CRow w g n F T) (hev : SlF w 56 3 le he (.slice ae m ce) m (evs P)) (ha : Snt w a) (hl : lokZ (ns : Int) n F T = 0) (hm : m ≤ 2000) :
    Calls Tryd.prog 23 #[.agg #[.int .i64 (ns : Int), .slice (gA g) n (gC g)], .slice ae m ce] w fun e w' => ∃ o, e = .returned (errV a o) ∧ (∀ i, o = some i → i < 4) ∧ (o = none ↔ honP (ns : Int) n ns F T P m) ∧ Below w.heap.size w w' := by
  obtain ⟨r1, r2, r3⟩ := lok_range hl
  have hp : 0 < ns := by omega
  have hm' : m ≤ 1048576 := by omega
  have kc := fun W hr => runOk_any (ns : Int) g n m ce ae F T W hm' hr
  have e0 : (lokZ (ns : Int) n F T == 0 && decide (m ≤ 2000)) = true := by simp [hl, hm]
  rw [e0] at kc
  clear e0
  obtain ⟨V, eV⟩ : ∃ V, ((w.alloc (.cells #[.int .i64 (ns : Int), .slice (gA g) n (gC g)] 25)).alloc (.cells #[.slice ae m ce] 26)).alloc (.cells #[.nilIface] 65) = V := ⟨_, rfl⟩
  have sV : V.heap.size = w.heap.size + 1 + 1 + 1 := by rw [← eV]; simp
  have bV : Below w.heap.size w V := by rw [← eV]; exact (by repeat (first | exact Below.refl _ _ | assumption | refine below_alloc ?_ _ | refine Below.setCell ?_ (by first | omega | (simp; done) | (simp; omega)) _ | refine Below.alloc ?_ (by first | omega | (simp; done) | (simp; omega)) _ | refine Below.drew ?_))
  have bL : Blk V w.heap.size 25 2 (fun i => if i = 0 then .int .i64 (ns : Int) else .slice (gA g) n (gC g)) := by
    rw [← eV]
    exact ((Blk.new w #[.int .i64 (ns : Int), .slice (gA g) n (gC g)] 25 _ (fun i hi => by simp at hi; match i, hi with | 0, _ => rfl | 1, _ => rfl)).alloc _).alloc _
  have bE : Blk V (w.heap.size + 1) 26 1 (fun _ => .slice ae m ce) := by
    rw [← eV]
    have := (Blk.new (w.alloc (.cells #[.int .i64 (ns : Int), .slice (gA g) n (gC g)] 25)) #[.slice ae m ce] 26 (fun _ => .slice ae m ce) (fun i hi => by simp at hi; match i, hi with | 0, _ => rfl)).alloc (.cells #[.nilIface] 65)
    simp only [World.size_alloc] at this
    exact this
  have bR : Blk V (w.heap.size + 1 + 1) 65 1 (fun _ => .nilIface) := by
    rw [← eV]
    have := Blk.new ((w.alloc (.cells #[.int .i64 (ns : Int), .slice (gA g) n (gC g)] 25)).alloc (.cells #[.slice ae m ce] 26)) #[.nilIface] 65 (fun _ => .nilIface) (fun i hi => by simp at hi; match i, hi with | 0, _ => rfl)
    simp only [World.size_alloc] at this
    exact this
  have P0 : ∀ W, Below V.heap.size V W → W.cell? ⟨w.heap.size, 0, none⟩ = some (.int .i64 (ns : Int)) ∧ W.cell? ⟨w.heap.size, 1, none⟩ = some (.slice (gA g) n (gC g)) ∧ W.cell? ⟨w.heap.size + 1, 0, none⟩ = some (.slice ae m ce) := fun W hb => ⟨(bL.on hb).cell (i := 0) (by omega), (bL.on hb).cell (i := 1) (by omega), (bE.on hb).cell (i := 0) (by omega)⟩
  have EV : Hid _ := eV
  clear eV bL bE
  refine (callsIn_wide (n := 3)).1 ?_
  refine callsIn_of_wp_marks Tryd.func23 rfl trivial ?_ rfl
  simp only [Tryd.ntmps23, List.size_toArray, List.length_cons, List.length_nil, Nat.reduceAdd, Nat.reduceSub, Array.replicate_succ, Array.replicate_zero, List.push_toArray, List.append_toArray, List.nil_append, List.cons_append]
  gi_wp2_with fail
  rw [EV.out]
  refine ⟨trivial, (callsIn_wide.2 (kc _ (hrow.on bV))).mono ?_⟩
  clear kc
  rintro e w1 ⟨rfl, B1⟩
  obtain ⟨y0, y1, y2⟩ := P0 w1 B1
  gi_wp2_with fail
  refine ⟨trivial, (callsIn_wide.2 (rows_any (ns : Int) g n m ce ae w1)).mono ?_⟩
  rintro e w3 ⟨rfl, hw3⟩
  have h13 : Below w1.heap.size w1 w3 := by rw [hw3]; exact (by repeat (first | exact Below.refl _ _ | assumption | refine below_alloc ?_ _ | refine Below.setCell ?_ (by first | omega | (simp; done) | (simp; omega)) _ | refine Below.alloc ?_ (by first | omega | (simp; done) | (simp; omega)) _ | refine Below.drew ?_))
  have z3 : w3.heap.size = w1.heap.size + 1 + 1 := by rw [hw3]; simp
  have BV3 := below_on B1 h13
  have B3 := below_on bV BV3
  have eL : Blk w3 w1.heap.size 25 2 (fun i => if i = 0 then .int .i64 (ns : Int) else .slice (gA g) n (gC g)) := by
    rw [hw3]
    exact (Blk.new w1 #[.int .i64 (ns : Int), .slice (gA g) n (gC g)] 25 _ (fun i hi => by simp at hi; match i, hi with | 0, _ => rfl | 1, _ => rfl)).alloc _
  have eE : Blk w3 (w1.heap.size + 1) 26 1 (fun _ => .slice ae m ce) := by
    rw [hw3]
    have := Blk.new (w1.alloc (.cells #[.int .i64 (ns : Int), .slice (gA g) n (gC g)] 25)) #[.slice ae m ce] 26 (fun _ => .slice ae m ce) (fun i hi => by simp at hi; match i, hi with | 0, _ => rfl)
    rw [World.size_alloc] at this
    exact this
  have EN : EnvT w3 w1.heap.size (w1.heap.size + 1) (ns : Int) g n le he m ae ce F T P := ⟨eL, eE, hrow.on B3, hev.on B3⟩
  have zV3 : V.heap.size ≤ w3.heap.size := BV3.size
  have hmx : Tryd.prog.follows .mixedOrders = true := by kernel_rfl
  clear hw3 eL eE h13 B1 EV z3 y0 y1 y2
  gi_wp2_with fail
  refine range_rowsX (gf := 47) (lb := #[.pointer (some ⟨w1.heap.size, 0, none⟩), .pointer (some ⟨w1.heap.size + 1, 0, none⟩)]) rfl (enters_of Tryd.func47 (by kernel_rfl) rfl) (rows1_inX _ w1.heap.size (w1.heap.size + 1) g n le he m ce ns ae F T P w3 hl hm EN) (fun _ _ => rfl)
    (fun rb k W l o o' h h1 h2 => Blk.of_block h (World.putObj_heap_other (fun e1 => by subst e1; obtain ⟨o2, h3, h4⟩ := blk_cells h; rw [h1] at h3; cases h3; rw [h2] at h4; cases h4)))
    KpT.trans KpT.putObj
    (fun k W => honP (ns : Int) n ns F T P k ∧ Below V.heap.size V W) ?own
    (fun W => ∃ i, i < 4 ∧ ¬ honP (ns : Int) n ns F T P m ∧ W.cell? ⟨w.heap.size + 1 + 1, 0, none⟩ = some (errV a (some i)) ∧ Below w.heap.size w W) ?ownx
    ⟨fun k hk => by omega, BV3⟩
    (fun k => { tmps := #[.agg #[.int .i64 (ns : Int), .slice (gA g) n (gC g)], .slice ae m ce, .pointer (some ⟨w.heap.size, 0, none⟩), .pointer (some ⟨w.heap.size + 1, 0, none⟩), .pointer (some ⟨w.heap.size + 1 + 1, 0, none⟩), .int .i64 (k : Int), .slice (some ⟨w3.heap.size + 1 + 1, 0, none⟩) ns ns, undef, .agg #[.int .i64 (ns : Int), .slice (gA g) n (gC g)], .slice ae m ce, .bool true, .bool false, undef, .agg #[.int .i64 (ns : Int), .slice (gA g) n (gC g)], .slice ae m ce, .func (.func 47) #[] #[.pointer (some ⟨w1.heap.size, 0, none⟩), .pointer (some ⟨w1.heap.size + 1, 0, none⟩)], .int .i64 (k : Int), .slice (some ⟨w3.heap.size + 1 + 1, 0, none⟩) ns ns, undef, undef, undef, undef, undef, undef, undef, undef, undef, undef], defers := [] }) ?assign ?body ?done ?stop
  case own =>
    rintro k A B row ⟨h1, hB⟩ hg hr
    refine ⟨h1, hB.grown hg hB.size (fun r e => ?_)⟩
    rcases hr r e with h | ⟨h, _⟩ <;> omega
  case ownx =>
    rintro A B row ⟨i, h1, h2, h3, hB⟩ hg hr
    exact ⟨i, h1, h2, cell_kept h3 hg (fun r e => (hr r e).2), hB.grown hg hB.size (fun r e => by have := (hr r e).1; omega)⟩
  case assign =>
    intro l k W K hK
    gi_wp2
    exact hK
  case body =>
    rintro l k W hk ⟨hh, hB⟩ hrw
    have hi1 : (k : Int) < (m : Int) := by omega
    have Bw := below_on bV hB
    obtain ⟨y0, y1, y2⟩ := P0 W hB
    obtain ⟨ae', ce', ee, he0⟩ := id (hev.on Bw)
    simp only [Value.slice.injEq] at ee
    obtain ⟨rfl, _, rfl⟩ := ee
    rcases he0 with he0 | ⟨ge, me, fe, rfl, _, _, h2, h3, h4⟩
    · omega
    obtain ⟨c0, c1, c2⟩ := trio h3 h2 hk h4
    have kl := lieAt_any (ns : Int) (P k 0) (P k 1) (P k 2) g n ns (w3.heap.size + 1 + 1) (trZ (ns : Int) n F T P (k + 1)) a W.drew r3 hp (by omega) rfl hrw ((ha.on Bw).on (Below.refl W.heap.size W).drew)
    have hst : honP (ns : Int) n ns F T P k → lieE (ns : Int) n ns (trZ (ns : Int) n F T P (k + 1)) (P k 0) (P k 1) (P k 2) = none → honP (ns : Int) n ns F T P (k + 1) := fun h h' j hj => by
      rcases (show j < k ∨ j = k by omega) with h9 | h9
      · exact h j h9
      · subst h9; exact h'
    have hno : ∀ i, lieE (ns : Int) n ns (trZ (ns : Int) n F T P (k + 1)) (P k 0) (P k 1) (P k 2) = some i → ¬ honP (ns : Int) n ns F T P m := fun i h h' => by rw [h' k hk] at h; cases h
    have hlt4 : ∀ i, lieE (ns : Int) n ns (trZ (ns : Int) n F T P (k + 1)) (P k 0) (P k 1) (P k 2) = some i → i < 4 := fun i h => lieE_lt h
    obtain ⟨op, eop⟩ : ∃ op, P k 0 = op := ⟨_, rfl⟩
    obtain ⟨f, ef⟩ : ∃ f, P k 1 = f := ⟨_, rfl⟩
    obtain ⟨d, ed⟩ : ∃ d, P k 2 = d := ⟨_, rfl⟩
    rw [eop] at c0 kl hst hno hlt4
    rw [ef] at c1 kl hst hno hlt4
    rw [ed] at c2 kl hst hno hlt4
    obtain ⟨o, eo⟩ : ∃ o, lieE (ns : Int) n ns (trZ (ns : Int) n F T P (k + 1)) op f d = o := ⟨_, rfl⟩
    rw [eo] at kl hst hno hlt4
    have kl' := (callsIn_wide (n := 0)).2 kl
    have HST : Hid _ := hst
    have HNO : Hid _ := hno
    have HLT : Hid _ := hlt4
    have zr : w3.heap.size + 1 + 1 < W.heap.size := Blk.lt hrw
    have lgE := h3.lt
    clear kl eop ef ed eo hst hno hlt4 h3 h4
    gi_wp2_with fail
    cases o with
    | none =>
      have EN0 : errV a none = .nilIface := rfl
      rw [EN0] at kl'
      have HH : Hid _ := HST.out hh rfl
      clear HST HNO HLT
      gi_region_with_o (refine ⟨trivial, ?_⟩; gi_at_call 44; refine (CallsIn.inRound l kl').mono ?_; rintro e w5 ⟨rfl, hb5⟩)
      all_goals
        have h5 : Below W.heap.size W w5 := (Below.refl W.heap.size W).drew.trans hb5
        gi_wp2
        exact ⟨keeps_turned (Turned.of_below (E := fun _ => False) (lo := 0) (hi := 0) h5), KpT.of_turned (Turned.of_below (E := fun _ => False) (lo := 0) (hi := 0) h5) id id id id, Blk.on hrw h5, HH.out, below_on hB h5⟩
    | some i =>
      have EN0 : errV a (some i) = .iface 155 (.pointer (some (a i))) := rfl
      have h4 := HLT.out i rfl
      have hn4 := HNO.out i rfl
      rw [EN0] at kl'
      have HN4 : Hid _ := hn4
      clear HST HNO HLT hn4
      gi_region_with_o (refine ⟨trivial, ?_⟩; gi_at_call 44; refine (CallsIn.inRound l kl').mono ?_; rintro e w5 ⟨rfl, hb5⟩)
      all_goals
        have h5 : Below W.heap.size W w5 := (Below.refl W.heap.size W).drew.trans hb5
        have b5 := bR.on (below_on hB h5)
        have x5 := b5.cell (i := 0) (by omega)
        have u5 := b5.frozen 0
        gi_wp2
        exact ⟨(keeps_turned (Turned.of_below (E := fun _ => False) (lo := 0) (hi := 0) h5)).trans (KeepsOthers.setCell _ _ _), i, h4, HN4.out, (blk_one b5 _).cell (i := 0) (by omega), (below_on Bw h5).setCell (p := ⟨w.heap.size + 1 + 1, 0, none⟩) (show w.heap.size ≤ w.heap.size + 1 + 1 by omega) _⟩
  case done =>
    rintro W ⟨hh, hB⟩ hD
    have b5 := bR.on hB
    have x5 := b5.cell (i := 0) (by omega)
    have u5 := b5.frozen 0
    have hD' := (KeepsOthers.setCell W ⟨w.heap.size + 1 + 1, 0, none⟩ .nilIface).same _ _ hD rfl
    have c6 := cell_kept ((blk_one b5 .nilIface).cell (i := 0) (by omega)) (grownBy_putObj' (W.setCell ⟨w.heap.size + 1 + 1, 0, none⟩ .nilIface) w3.heap.size (.deferred none)) (fun r e => by cases e; exact ⟨_, hD', rfl⟩)
    have B6 : Below w.heap.size w (W.setCell ⟨w.heap.size + 1 + 1, 0, none⟩ .nilIface) := (below_on bV hB).setCell (p := ⟨w.heap.size + 1 + 1, 0, none⟩) (show w.heap.size ≤ w.heap.size + 1 + 1 by omega) _
    have B7 := B6.grown (grownBy_putObj' (W.setCell ⟨w.heap.size + 1 + 1, 0, none⟩ .nilIface) w3.heap.size (.deferred none)) B6.size (fun r e => by cases e; omega)
    gi_wp2
    refine ⟨by simp, .inl ⟨_, _, rfl, run_takeDeferred hD', ?_⟩⟩
    refine ⟨.nilIface, ?_, none, rfl, fun i h => (by cases h), ⟨fun _ => hh, fun _ => rfl⟩, B7⟩
    simp only [results, Tryd.results23]
    simp [go_sem, c6]
  case stop =>
    rintro W ⟨i, h1, h2, h3, hB⟩ hD
    have c6 := cell_kept h3 (grownBy_putObj' W w3.heap.size (.deferred none)) (fun r e => by cases e; exact ⟨_, hD, rfl⟩)
    have B7 := hB.grown (grownBy_putObj' W w3.heap.size (.deferred none)) hB.size (fun r e => by cases e; omega)
    gi_wp2
    refine ⟨by simp, .inl ⟨_, _, rfl, run_takeDeferred hD, ?_⟩⟩
    refine ⟨errV a (some i), ?_, some i, rfl, fun j h => (by cases h; exact h1), ⟨fun h => (by cases h), fun h => absurd h h2⟩, B7⟩
    simp only [results, Tryd.results23]
    simp [go_sem, c6]

end Go.Proofs.YtlpopfhaephfaaaDoor

namespace Go.Proofs.YtlpopfhaephfaaaDoor
open Go.RowKit

/-- Honest's answer from the lie that was found -/
def honI (w : World) (Q : Option Nat → Prop) (e : Ending) (w' : World) : Prop := ∃ o : Option Nat, e = .returned (.bool o.isNone) ∧ Q o ∧ Below w.heap.size w w'

theorem honest_of (S : Int) (g n : Nat) (E : Value) (a : Nat → Addr) (w V : World) (Q : Option Nat → Prop) (ha : Snt w a) (eV : w.alloc (.cells #[.int .i64 S, .slice (gA g) n (gC g)] 25) = V)
    (kl : Calls Tryd.prog 23 #[.agg #[.int .i64 S, .slice (gA g) n (gC g)], E] V fun e w' => ∃ o, e = .returned (errV a o) ∧ (∀ i, o = some i → i < 4) ∧ Q o ∧ Below V.heap.size V w') :
    Calls Tryd.prog 7 #[.agg #[.int .i64 S, .slice (gA g) n (gC g)], E] w fun e w' => honI w Q e w' := by
  have bV : Below w.heap.size w V := by rw [← eV]; exact (by repeat (first | exact Below.refl _ _ | assumption | refine below_alloc ?_ _ | refine Below.setCell ?_ (by first | omega | (simp; done) | (simp; omega)) _ | refine Below.alloc ?_ (by first | omega | (simp; done) | (simp; omega)) _ | refine Below.drew ?_))
  have EV : Hid _ := eV
  clear eV
  go_enter Tryd.func7, Tryd.ntmps7
  go_wp2_with fail
  rw [EV.out]
  refine kl.mono ?_
  rintro e w1 ⟨o, rfl, hi, hq, hb⟩
  have hB := below_on bV hb
  have hs := ha.on hB
  have c0 := hs.cell 0 (by omega)
  have c1 := hs.cell 1 (by omega)
  have c2 := hs.cell 2 (by omega)
  have c3 := hs.cell 3 (by omega)
  clear EV bV
  cases o with
  | none =>
    have EN0 : errV a none = .nilIface := rfl
    rw [EN0]
    go_wp2_with fail
    refine (is_nil _ w1).mono ?_
    rintro _ _ ⟨rfl, rfl⟩
    go_wp2_with fail
    refine (is_nil _ _).mono ?_
    rintro _ _ ⟨rfl, rfl⟩
    go_wp2_with fail
    refine (is_nil _ _).mono ?_
    rintro _ _ ⟨rfl, rfl⟩
    go_wp2_with fail
    refine (is_nil _ _).mono ?_
    rintro _ _ ⟨rfl, rfl⟩
    go_wp2
    go_ret
    exact ⟨none, rfl, hq, hB⟩
  | some i =>
    have i4 := hi i rfl
    have EN0 : errV a (some i) = .iface 155 (.pointer (some (a i))) := rfl
    rw [EN0]
    obtain ⟨ca, ta, ba⟩ := hs.blk i i4
    have ko : ∀ j, j < 4 → j ≠ i → Calls Tryd.prog 24 #[.iface 155 (.pointer (some (a i))), .iface 155 (.pointer (some (a j)))] w1 fun e w' => e = .returned (.bool false) ∧ w' = w1 := fun j hj h => by
      obtain ⟨cb, tb, bb⟩ := hs.blk j hj
      exact is_other (a i) (a j) ca cb ta tb w1 (hs.ne i j i4 hj (fun h' => h h'.symm)) ba bb
    have ks := is_same (a i) w1
    have HQ : Hid _ := hq
    clear ha hs ba EN0 hi hq
    go_wp2_with fail
    by_cases h0 : i = 0
    · subst h0
      refine ks.mono ?_
      rintro _ _ ⟨rfl, rfl⟩
      go_wp2
      go_ret
      exact ⟨some 0, rfl, HQ.out, hB⟩
    refine (ko 0 (by omega) (by omega)).mono ?_
    rintro _ _ ⟨rfl, rfl⟩
    go_wp2_with fail
    by_cases h1 : i = 1
    · subst h1
      refine ks.mono ?_
      rintro _ _ ⟨rfl, rfl⟩
      go_wp2
      go_ret
      exact ⟨some 1, rfl, HQ.out, hB⟩
    refine (ko 1 (by omega) (by omega)).mono ?_
    rintro _ _ ⟨rfl, rfl⟩
    go_wp2_with fail
    by_cases h2 : i = 2
    · subst h2
      refine ks.mono ?_
      rintro _ _ ⟨rfl, rfl⟩
      go_wp2
      go_ret
      exact ⟨some 2, rfl, HQ.out, hB⟩
    refine (ko 2 (by omega) (by omega)).mono ?_
    rintro _ _ ⟨rfl, rfl⟩
    go_wp2_with fail
    have h3 : i = 3 := by omega
    subst h3
    refine ks.mono ?_
    rintro _ _ ⟨rfl, rfl⟩
    go_wp2
    go_ret
    exact ⟨some 3, rfl, HQ.out, hB⟩

end Go.Proofs.YtlpopfhaephfaaaDoor
