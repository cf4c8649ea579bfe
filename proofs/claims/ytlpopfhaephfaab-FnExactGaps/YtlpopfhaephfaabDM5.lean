import Derived.Test.YtlpopfhaephfaabDM4
import Derived.Test.YtlpopfhaephfaabEV2
namespace Go.Proofs.Ytlpopfhaephfaab
open Go.RowKit Go.Maps Go.Sort

/-- what an event answers, and what stands behind it (before it is told) -/
def effC (n : Nat) (F T : Nat → Int) (X : Nat → Sec) (D : Nat → Bool) (op f : Int) : Int := if op = 1 ∨ op = 2 then passC D f.toNat else if op = 5 then rstC n F T X D f.toNat else 0
def effX (n : Nat) (F T : Nat → Int) (X : Nat → Sec) (D : Nat → Bool) (op f d : Int) : Nat → Sec :=
  if op = 1 then passY F T X D f.toNat d true else if op = 2 then passY F T X D f.toNat d false else if op = 3 then lostSide (lostSide X (F f.toNat)) (T f.toNat) else if op = 5 then rstY n F T X D f.toNat else X
def effD (D : Nat → Bool) (op f : Int) : Nat → Bool := if op = 3 then setB D f.toNat true else if op = 4 then setB D f.toNat false else D

/-- A board's value. -/
def brdV (S : Int) (g n B : Nat) (ok : Bool) (v1 v2 : Value) : Value := .agg #[.int .i64 S, .slice (some ⟨g, 0, none⟩) n n, .map (some B), .bool ok, v1, v2]

set_option maxRecDepth 100000 in
set_option maxHeartbeats 1000000 in
theorem change_nil (S : Int) (g n B : Nat) (ok : Bool) (a1 : Option Addr) (ns c1 : Nat) (a2 : Option Addr) (nd c2 : Nat) (w : World) :
    Calls Try.prog 93 #[brdV S g n B ok (.slice a1 ns c1) (.slice a2 nd c2), .nilIface] w fun e w' => e = .returned (.int .i64 1) ∧ Below w.heap.size w w' := by
  unfold brdV
  have no_axlePasses : ∀ (W : World), (Instr.typeAssert .nilIface 81 142 true).run Try.prog W = .ok (.tuple #[.agg #[.int .i64 0, .int .i64 0], .bool false]) W := fun _ => by kernel_rfl
  have no_ghostPasses : ∀ (W : World), (Instr.typeAssert .nilIface 81 143 true).run Try.prog W = .ok (.tuple #[.agg #[.int .i64 0, .int .i64 0], .bool false]) W := fun _ => by kernel_rfl
  have no_counterDies : ∀ (W : World), (Instr.typeAssert .nilIface 81 145 true).run Try.prog W = .ok (.tuple #[.agg #[.int .i64 0], .bool false]) W := fun _ => by kernel_rfl
  have no_counterLives : ∀ (W : World), (Instr.typeAssert .nilIface 81 146 true).run Try.prog W = .ok (.tuple #[.agg #[.int .i64 0], .bool false]) W := fun _ => by kernel_rfl
  have no_sectionReset : ∀ (W : World), (Instr.typeAssert .nilIface 81 148 true).run Try.prog W = .ok (.tuple #[.agg #[.int .i64 0], .bool false]) W := fun _ => by kernel_rfl
  go_enter Try.func93, Try.ntmps93
  go_wp2
  go_ret
  exact ⟨rfl, (by repeat (first | exact Below.refl _ _ | assumption | refine below_alloc ?_ _ | refine Below.setCell ?_ (by first | omega | (simp; done) | (simp; omega)) _ | refine Below.alloc ?_ (by first | omega | (simp; done) | (simp; omega)) _ | refine Below.drew ?_))⟩

set_option maxRecDepth 100000 in
set_option maxHeartbeats 1000000 in
theorem change_pass (S d : Int) (g n B lo hi : Nat) (F T : Nat → Int) (ok : Bool) (gs c1 ns f : Nat) (a2 : Option Addr) (c2 t : Nat) (there : Bool) (ht : (t = 142 ∧ there = true) ∨ (t = 143 ∧ there = false)) (X : Nat → Sec) (D : Nat → Bool) (w : World) (hf : f < n) (hr : ∀ i, i < n → -1 ≤ F i ∧ F i < (ns : Int) ∧ -1 ≤ T i ∧ T i < (ns : Int)) (hc : ∀ k, k < ns → -1000000 ≤ (X k).count ∧ (X k).count ≤ 1000000)
    (hrow : Row w g 88 2 n (two F T)) (hL : Lst w lo hi (.slice (some ⟨gs, 0, none⟩) ns c1) ns X (.slice a2 n c2) n D) :
    Calls Try.prog 93 #[brdV S g n B ok (.slice (some ⟨gs, 0, none⟩) ns c1) (.slice a2 n c2), .iface t (.agg #[.int .i64 f, .int .i64 d])] w fun e w' => e = .returned (.int .i64 (passC D f)) ∧ Lst w' lo hi (.slice (some ⟨gs, 0, none⟩) ns c1) ns (passY F T X D f d there) (.slice a2 n c2) n D ∧ Turned w w' isSt lo hi := by
  unfold brdV
  rcases ht with ⟨rfl, rfl⟩ | ⟨rfl, rfl⟩
  · have as_axlePasses : ∀ (v : Value) (W : World), (Instr.typeAssert (.iface 142 v) 81 142 true).run Try.prog W = .ok (.tuple #[v, .bool true]) W := fun _ _ => by kernel_rfl
    go_enter Try.func93, Try.ntmps93
    go_wp2_with fail
    refine (pass_any S d g n B lo hi F T ok gs c1 ns f a2 c2 true X D _ hf hr hc (hrow.on (by repeat (first | exact Below.refl _ _ | assumption | refine below_alloc ?_ _ | refine Below.setCell ?_ (by first | omega | (simp; done) | (simp; omega)) _ | refine Below.alloc ?_ (by first | omega | (simp; done) | (simp; omega)) _ | refine Below.drew ?_))) (hL.on (by repeat (first | exact Below.refl _ _ | assumption | refine below_alloc ?_ _ | refine Below.setCell ?_ (by first | omega | (simp; done) | (simp; omega)) _ | refine Below.alloc ?_ (by first | omega | (simp; done) | (simp; omega)) _ | refine Below.drew ?_)))).mono ?_
    rintro e w1 ⟨rfl, l1, t1⟩
    go_wp2
    go_ret
    exact ⟨rfl, l1, (Turned.of_below (by repeat (first | exact Below.refl _ _ | assumption | refine below_alloc ?_ _ | refine Below.setCell ?_ (by first | omega | (simp; done) | (simp; omega)) _ | refine Below.alloc ?_ (by first | omega | (simp; done) | (simp; omega)) _ | refine Below.drew ?_))).trans t1⟩
  · have no_axlePasses : ∀ (W : World), (Instr.typeAssert (.iface 143 (.agg #[.int .i64 f, .int .i64 d])) 81 142 true).run Try.prog W = .ok (.tuple #[.agg #[.int .i64 0, .int .i64 0], .bool false]) W := fun _ => by kernel_rfl
    have as_ghostPasses : ∀ (v : Value) (W : World), (Instr.typeAssert (.iface 143 v) 81 143 true).run Try.prog W = .ok (.tuple #[v, .bool true]) W := fun _ _ => by kernel_rfl
    go_enter Try.func93, Try.ntmps93
    go_wp2_with fail
    refine (pass_any S d g n B lo hi F T ok gs c1 ns f a2 c2 false X D _ hf hr hc (hrow.on (by repeat (first | exact Below.refl _ _ | assumption | refine below_alloc ?_ _ | refine Below.setCell ?_ (by first | omega | (simp; done) | (simp; omega)) _ | refine Below.alloc ?_ (by first | omega | (simp; done) | (simp; omega)) _ | refine Below.drew ?_))) (hL.on (by repeat (first | exact Below.refl _ _ | assumption | refine below_alloc ?_ _ | refine Below.setCell ?_ (by first | omega | (simp; done) | (simp; omega)) _ | refine Below.alloc ?_ (by first | omega | (simp; done) | (simp; omega)) _ | refine Below.drew ?_)))).mono ?_
    rintro e w1 ⟨rfl, l1, t1⟩
    go_wp2
    go_ret
    exact ⟨rfl, l1, (Turned.of_below (by repeat (first | exact Below.refl _ _ | assumption | refine below_alloc ?_ _ | refine Below.setCell ?_ (by first | omega | (simp; done) | (simp; omega)) _ | refine Below.alloc ?_ (by first | omega | (simp; done) | (simp; omega)) _ | refine Below.drew ?_))).trans t1⟩

set_option maxRecDepth 100000 in
set_option maxHeartbeats 1000000 in
theorem change_die (S : Int) (g n B lo hi : Nat) (F T : Nat → Int) (ok : Bool) (gs c1 ns f gd c2 : Nat) (X : Nat → Sec) (D : Nat → Bool) (w : World) (hf : f < n) (hn : n ≤ 120) (hp : 0 < ns) (hr : -1 ≤ F f ∧ F f < (ns : Int) ∧ -1 ≤ T f ∧ T f < (ns : Int) ∧ F f ≠ T f)
    (hrow : Row w g 88 2 n (two F T)) (hL : Lst w lo hi (.slice (some ⟨gs, 0, none⟩) ns c1) ns X (.slice (some ⟨gd, 0, none⟩) n c2) n D) :
    Calls Try.prog 93 #[brdV S g n B ok (.slice (some ⟨gs, 0, none⟩) ns c1) (.slice (some ⟨gd, 0, none⟩) n c2), .iface 145 (.agg #[.int .i64 f])] w fun e w' => e = .returned (.int .i64 0) ∧ Lst w' lo hi (.slice (some ⟨gs, 0, none⟩) ns c1) ns (lostSide (lostSide X (F f)) (T f)) (.slice (some ⟨gd, 0, none⟩) n c2) n (setB D f true) ∧ Turned w w' isSt lo hi := by
  unfold brdV
  have no_axlePasses : ∀ (W : World), (Instr.typeAssert (.iface 145 (.agg #[.int .i64 f])) 81 142 true).run Try.prog W = .ok (.tuple #[.agg #[.int .i64 0, .int .i64 0], .bool false]) W := fun _ => by kernel_rfl
  have no_ghostPasses : ∀ (W : World), (Instr.typeAssert (.iface 145 (.agg #[.int .i64 f])) 81 143 true).run Try.prog W = .ok (.tuple #[.agg #[.int .i64 0, .int .i64 0], .bool false]) W := fun _ => by kernel_rfl
  have as_counterDies : ∀ (v : Value) (W : World), (Instr.typeAssert (.iface 145 v) 81 145 true).run Try.prog W = .ok (.tuple #[v, .bool true]) W := fun _ _ => by kernel_rfl
  go_enter Try.func93, Try.ntmps93
  go_wp2_with fail
  refine (die_any S g n B lo hi F T ok gs c1 ns f gd c2 X D _ hf hn hp hr (hrow.on (by repeat (first | exact Below.refl _ _ | assumption | refine below_alloc ?_ _ | refine Below.setCell ?_ (by first | omega | (simp; done) | (simp; omega)) _ | refine Below.alloc ?_ (by first | omega | (simp; done) | (simp; omega)) _ | refine Below.drew ?_))) (hL.on (by repeat (first | exact Below.refl _ _ | assumption | refine below_alloc ?_ _ | refine Below.setCell ?_ (by first | omega | (simp; done) | (simp; omega)) _ | refine Below.alloc ?_ (by first | omega | (simp; done) | (simp; omega)) _ | refine Below.drew ?_)))).mono ?_
  rintro e w1 ⟨rfl, l1, t1⟩
  go_wp2
  go_ret
  exact ⟨rfl, l1, (Turned.of_below (by repeat (first | exact Below.refl _ _ | assumption | refine below_alloc ?_ _ | refine Below.setCell ?_ (by first | omega | (simp; done) | (simp; omega)) _ | refine Below.alloc ?_ (by first | omega | (simp; done) | (simp; omega)) _ | refine Below.drew ?_))).trans t1⟩

set_option maxRecDepth 100000 in
set_option maxHeartbeats 1000000 in
theorem change_alive (S : Int) (g n B lo hi : Nat) (ok : Bool) (gs c1 ns f gd c2 : Nat) (X : Nat → Sec) (D : Nat → Bool) (w : World) (hf : f < n) (hL : Lst w lo hi (.slice (some ⟨gs, 0, none⟩) ns c1) ns X (.slice (some ⟨gd, 0, none⟩) n c2) n D) :
    Calls Try.prog 93 #[brdV S g n B ok (.slice (some ⟨gs, 0, none⟩) ns c1) (.slice (some ⟨gd, 0, none⟩) n c2), .iface 146 (.agg #[.int .i64 f])] w fun e w' => e = .returned (.int .i64 0) ∧ Lst w' lo hi (.slice (some ⟨gs, 0, none⟩) ns c1) ns X (.slice (some ⟨gd, 0, none⟩) n c2) n (setB D f false) ∧ Turned w w' isSt lo hi := by
  unfold brdV
  obtain ⟨_, _, md, fd, d1, d2, d3⟩ := hL.2.blk (by omega)
  have ed := one d2 d1 hf d3
  have zd := d2.frozen f
  have lgd := d2.lt
  have q1 : gd < w.heap.size + 1 := by omega
  have hf' : (f : Int) < (n : Int) := by omega
  have HE : Hid _ := die_end hL hf false
  clear d2 d3 hL
  have no_axlePasses : ∀ (W : World), (Instr.typeAssert (.iface 146 (.agg #[.int .i64 f])) 81 142 true).run Try.prog W = .ok (.tuple #[.agg #[.int .i64 0, .int .i64 0], .bool false]) W := fun _ => by kernel_rfl
  have no_ghostPasses : ∀ (W : World), (Instr.typeAssert (.iface 146 (.agg #[.int .i64 f])) 81 143 true).run Try.prog W = .ok (.tuple #[.agg #[.int .i64 0, .int .i64 0], .bool false]) W := fun _ => by kernel_rfl
  have no_counterDies : ∀ (W : World), (Instr.typeAssert (.iface 146 (.agg #[.int .i64 f])) 81 145 true).run Try.prog W = .ok (.tuple #[.agg #[.int .i64 0], .bool false]) W := fun _ => by kernel_rfl
  have as_counterLives : ∀ (v : Value) (W : World), (Instr.typeAssert (.iface 146 v) 81 146 true).run Try.prog W = .ok (.tuple #[v, .bool true]) W := fun _ _ => by kernel_rfl
  go_enter Try.func93, Try.ntmps93
  go_wp2
  go_ret
  refine ⟨rfl, HE.out.1.on ?_, HE.out.2.trans (Turned.of_below ?_)⟩
  · exact (by repeat (first | exact Below.refl _ _ | assumption | refine below_alloc ?_ _ | refine Below.setCell ?_ (by first | omega | (simp; done) | (simp; omega)) _ | refine Below.alloc ?_ (by first | omega | (simp; done) | (simp; omega)) _ | refine Below.drew ?_))
  · exact (by repeat (first | exact Below.refl _ _ | assumption | refine below_alloc ?_ _ | refine Below.setCell ?_ (by first | omega | (simp; done) | (simp; omega)) _ | refine Below.alloc ?_ (by first | omega | (simp; done) | (simp; omega)) _ | refine Below.drew ?_))

set_option maxRecDepth 100000 in
set_option maxHeartbeats 1000000 in
theorem change_reset (S : Int) (g n B lo hi : Nat) (F T : Nat → Int) (ok : Bool) (gs c1 ns k : Nat) (a2 : Option Addr) (c2 : Nat) (X : Nat → Sec) (D : Nat → Bool) (w : World) (hk : k < ns) (hn : n ≤ 120) (hns : ns ≤ 60) (hg : Grp w B (2 * n) (zsAt F T n)) (hL : Lst w lo hi (.slice (some ⟨gs, 0, none⟩) ns c1) ns X (.slice a2 n c2) n D) :
    Calls Try.prog 93 #[brdV S g n B ok (.slice (some ⟨gs, 0, none⟩) ns c1) (.slice a2 n c2), .iface 148 (.agg #[.int .i64 k])] w fun e w' => e = .returned (.int .i64 (rstC n F T X D k)) ∧ Lst w' lo hi (.slice (some ⟨gs, 0, none⟩) ns c1) ns (rstY n F T X D k) (.slice a2 n c2) n D ∧ Turned w w' isSt lo hi := by
  unfold brdV
  have no_axlePasses : ∀ (W : World), (Instr.typeAssert (.iface 148 (.agg #[.int .i64 k])) 81 142 true).run Try.prog W = .ok (.tuple #[.agg #[.int .i64 0, .int .i64 0], .bool false]) W := fun _ => by kernel_rfl
  have no_ghostPasses : ∀ (W : World), (Instr.typeAssert (.iface 148 (.agg #[.int .i64 k])) 81 143 true).run Try.prog W = .ok (.tuple #[.agg #[.int .i64 0, .int .i64 0], .bool false]) W := fun _ => by kernel_rfl
  have no_counterDies : ∀ (W : World), (Instr.typeAssert (.iface 148 (.agg #[.int .i64 k])) 81 145 true).run Try.prog W = .ok (.tuple #[.agg #[.int .i64 0], .bool false]) W := fun _ => by kernel_rfl
  have no_counterLives : ∀ (W : World), (Instr.typeAssert (.iface 148 (.agg #[.int .i64 k])) 81 146 true).run Try.prog W = .ok (.tuple #[.agg #[.int .i64 0], .bool false]) W := fun _ => by kernel_rfl
  have as_sectionReset : ∀ (v : Value) (W : World), (Instr.typeAssert (.iface 148 v) 81 148 true).run Try.prog W = .ok (.tuple #[v, .bool true]) W := fun _ _ => by kernel_rfl
  go_enter Try.func93, Try.ntmps93
  go_wp2_with fail
  refine (reset_any S g n B lo hi F T ok gs c1 ns k a2 c2 X D _ hk hn hns (hg.on (by repeat (first | exact Below.refl _ _ | assumption | refine below_alloc ?_ _ | refine Below.setCell ?_ (by first | omega | (simp; done) | (simp; omega)) _ | refine Below.alloc ?_ (by first | omega | (simp; done) | (simp; omega)) _ | refine Below.drew ?_))) (hL.on (by repeat (first | exact Below.refl _ _ | assumption | refine below_alloc ?_ _ | refine Below.setCell ?_ (by first | omega | (simp; done) | (simp; omega)) _ | refine Below.alloc ?_ (by first | omega | (simp; done) | (simp; omega)) _ | refine Below.drew ?_)))).mono ?_
  rintro e w1 ⟨rfl, l1, t1⟩
  go_wp2
  go_ret
  exact ⟨rfl, l1, (Turned.of_below (by repeat (first | exact Below.refl _ _ | assumption | refine below_alloc ?_ _ | refine Below.setCell ?_ (by first | omega | (simp; done) | (simp; omega)) _ | refine Below.alloc ?_ (by first | omega | (simp; done) | (simp; omega)) _ | refine Below.drew ?_))).trans t1⟩

end Go.Proofs.Ytlpopfhaephfaab
