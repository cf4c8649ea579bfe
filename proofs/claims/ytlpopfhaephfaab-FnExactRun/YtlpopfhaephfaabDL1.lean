import Derived.Test.YtlpopfhaephfaabST3
namespace Go.Proofs.Ytlpopfhaephfaab
open Go.RowKit

/-- the four cells of a Done -/
def dnF (C : Int) (ok : Bool) (v1 v2 : Value) (i : Nat) : Value := if i = 0 then .int .i64 C else if i = 1 then .bool ok else if i = 2 then v1 else v2
def Box4 (w : World) (b : Nat) (C : Int) (ok : Bool) (v1 v2 : Value) : Prop := Blk w b 46 4 (dnF C ok v1 v2)
section
variable {w w' : World} {b : Nat} {C : Int} {ok : Bool} {v1 v2 : Value}
theorem Box4.cells (h : Box4 w b C ok v1 v2) : w.cell? ⟨b, 0, none⟩ = some (.int .i64 C) ∧ w.cell? ⟨b, 1, none⟩ = some (.bool ok) ∧ w.cell? ⟨b, 2, none⟩ = some v1 ∧ w.cell? ⟨b, 3, none⟩ = some v2 :=
  ⟨Blk.cell h (by omega), Blk.cell h (by omega), Blk.cell h (by omega), Blk.cell h (by omega)⟩
theorem Box4.on (h : Box4 w b C ok v1 v2) (hb : Below w.heap.size w w') : Box4 w' b C ok v1 v2 := Blk.on h hb
theorem Box4.drew (h : Box4 w b C ok v1 v2) : Box4 w.drew b C ok v1 v2 := h
theorem Box4.alloc (h : Box4 w b C ok v1 v2) (o : Obj) : Box4 (w.alloc o) b C ok v1 v2 := Blk.alloc h o
theorem Box4.turned {E : Nat → Prop} {lo hi : Nat} (h : Box4 w b C ok v1 v2) (ht : Turned w w' E lo hi) (hd : ¬ E 46) : Box4 w' b C ok v1 v2 := Blk.turned h ht (.inl hd)
theorem Box4.lay (w : World) (C : Int) (ok : Bool) (v1 v2 : Value) : Box4 (w.alloc (.cells #[.int .i64 C, .bool ok, v1, v2] 46)) w.heap.size C ok v1 v2 :=
  Blk.new w #[.int .i64 C, .bool ok, v1, v2] _ _ (fun i hi => by simp at hi; match i, hi with | 0, _ => rfl | 1, _ => rfl | 2, _ => rfl | 3, _ => rfl)
end

set_option maxHeartbeats 1000000 in
theorem eqDone_same (lo hi lo' hi' ns nd : Nat) (C : Int) (a1 a2 a1' a2' : Option Addr) (c1 c2 c1' c2' : Nat) (ok : Bool) (X X' : Nat → Sec) (D D' : Nat → Bool) (w : World) (hs : ns ≤ 1048576) (hd : nd ≤ 1048576) (h : StF w lo hi (.agg #[.bool ok, .slice a1 ns c1, .slice a2 nd c2]) ok ns nd X D) (h' : StF w lo' hi' (.agg #[.bool ok, .slice a1' ns c1', .slice a2' nd c2']) ok ns nd X' D') (hx : ∀ i, i < ns → X' i = X i) (he : ∀ i, i < nd → D' i = D i) :
    Calls Try.prog 19 #[.agg #[.int .i64 C, .bool ok, .slice a1 ns c1, .slice a2 nd c2], .agg #[.int .i64 C, .bool ok, .slice a1' ns c1', .slice a2' nd c2']] w fun e w' => e = .returned (.bool true) ∧ Below w.heap.size w w' := by
  have ke := fun W (hW : Below w.heap.size w W) => eqState_same lo hi lo' hi' ns nd _ _ ok X X' D D' W hs hd (h.on hW) (h'.on hW) hx he
  clear h h'
  go_enter Try.func19, Try.ntmps19
  go_wp2_with fail
  refine (ke _ (by repeat (first | exact Below.refl _ _ | assumption | refine below_alloc ?_ _ | refine Below.setCell ?_ (by first | omega | (simp; done) | (simp; omega)) _ | refine Below.alloc ?_ (by first | omega | (simp; done) | (simp; omega)) _ | refine Below.drew ?_))).mono ?_
  rintro e w1 ⟨rfl, hb1⟩
  go_wp2
  go_ret
  exact ⟨rfl, below_on (show Below w.heap.size w _ from (by repeat (first | exact Below.refl _ _ | assumption | refine below_alloc ?_ _ | refine Below.setCell ?_ (by first | omega | (simp; done) | (simp; omega)) _ | refine Below.alloc ?_ (by first | omega | (simp; done) | (simp; omega)) _ | refine Below.drew ?_))) hb1⟩

set_option maxHeartbeats 1000000 in
theorem markDone_any (lo hi ns nd : Nat) (C q0 : Int) (a1 a2 : Option Addr) (c1 c2 : Nat) (ok : Bool) (X : Nat → Sec) (D : Nat → Bool) (w : World) (hs : ns ≤ 1048576) (hd : nd ≤ 1048576) (hq0 : 0 ≤ q0) (hq1 : q0 ≤ 10000000000) (h : StF w lo hi (.agg #[.bool ok, .slice a1 ns c1, .slice a2 nd c2]) ok ns nd X D) :
    Calls Try.prog 23 #[.agg #[.int .i64 C, .bool ok, .slice a1 ns c1, .slice a2 nd c2], .int .i64 q0] w fun e w' => e = .returned (.int .i64 (q0 + 5 * (ns : Int) + (nd : Int))) ∧ MkF w' lo hi (.agg #[.bool ok, .slice a1 ns c1, .slice a2 nd c2]) ok ns nd q0 ∧ Turned w w' isSt lo hi := by
  have ke := fun W (hW : Below w.heap.size w W) => markState_any lo hi ns nd _ ok q0 X D W hs hd hq0 hq1 (h.on hW)
  clear h
  go_enter Try.func23, Try.ntmps23
  go_wp2_with fail
  refine (ke _ (by repeat (first | exact Below.refl _ _ | assumption | refine below_alloc ?_ _ | refine Below.setCell ?_ (by first | omega | (simp; done) | (simp; omega)) _ | refine Below.alloc ?_ (by first | omega | (simp; done) | (simp; omega)) _ | refine Below.drew ?_))).mono ?_
  rintro e w1 ⟨rfl, m1, t1⟩
  go_wp2
  go_ret
  exact ⟨rfl, m1, (Turned.of_below (by repeat (first | exact Below.refl _ _ | assumption | refine below_alloc ?_ _ | refine Below.setCell ?_ (by first | omega | (simp; done) | (simp; omega)) _ | refine Below.alloc ?_ (by first | omega | (simp; done) | (simp; omega)) _ | refine Below.drew ?_))).trans t1⟩

set_option maxHeartbeats 1000000 in
theorem heldDone_any (lo hi ns nd : Nat) (C q0 : Int) (a1 a2 : Option Addr) (c1 c2 : Nat) (ok : Bool) (w : World) (hs : ns ≤ 1048576) (hd : nd ≤ 1048576) (hq0 : 0 ≤ q0) (hq1 : q0 ≤ 10000000000) (h : MkF w lo hi (.agg #[.bool ok, .slice a1 ns c1, .slice a2 nd c2]) ok ns nd q0) :
    Calls Try.prog 24 #[.agg #[.int .i64 C, .bool ok, .slice a1 ns c1, .slice a2 nd c2], .int .i64 q0] w fun e w' => e = .returned (.int .i64 (q0 + 5 * (ns : Int) + (nd : Int))) ∧ Below w.heap.size w w' := by
  have ke := fun W (hW : Below w.heap.size w W) => heldState_any lo hi ns nd _ ok q0 W hs hd hq0 hq1 (StF.on h hW)
  clear h
  have p : 0 ≤ q0 + 5 * (ns : Int) + (nd : Int) := by omega
  go_enter Try.func24, Try.ntmps24
  go_wp2_with fail
  refine (ke _ (by repeat (first | exact Below.refl _ _ | assumption | refine below_alloc ?_ _ | refine Below.setCell ?_ (by first | omega | (simp; done) | (simp; omega)) _ | refine Below.alloc ?_ (by first | omega | (simp; done) | (simp; omega)) _ | refine Below.drew ?_))).mono ?_
  rintro e w1 ⟨rfl, hb1⟩
  go_wp2
  go_ret
  exact ⟨rfl, below_on (show Below w.heap.size w _ from (by repeat (first | exact Below.refl _ _ | assumption | refine below_alloc ?_ _ | refine Below.setCell ?_ (by first | omega | (simp; done) | (simp; omega)) _ | refine Below.alloc ?_ (by first | omega | (simp; done) | (simp; omega)) _ | refine Below.drew ?_))) hb1⟩

end Go.Proofs.Ytlpopfhaephfaab
