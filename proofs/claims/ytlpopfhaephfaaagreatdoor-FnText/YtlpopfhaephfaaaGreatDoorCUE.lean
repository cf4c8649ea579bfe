import Derived.Test.YtlpopfhaephfaaaGreatDoorCU2
import Derived.Test.YtlpopfhaephfaaaGreatDoorRE1
import Derived.Test.YtlpopfhaephfaaaGreatDoorW3
namespace Go.Proofs.YtlpopfhaephfaaaGreatDoor
open Go.RowKit

theorem Tryz.infoEw : (Tryz.prog.info? 47).map (fun i => (i.zero, i.size, i.bytes)) = some (some (.agg #[.int .i64 0, .int .i64 0, .int .i64 0]), 3, 24) := by kernel_rfl
theorem Tryz.infoIw : (Tryz.prog.info? 3).map (fun i => (i.zero, i.size, i.bytes)) = some (some (.int .i64 0), 1, 8) := by kernel_rfl

theorem esAct_0 (C : Nat → Int) (m : Nat) (S : Int) (F T : Nat → Int) (hon : Bool) (e : Es) (k : Int) (c : Cu) : esAct C m S F T hon e k 0 c = ⟨pkC C m c 2, e.out ++ [(2, k, 1 - 2 * pkV C m c 2)], e.th, e.dead⟩ := by simp [esAct]
theorem esAct_1 (C : Nat → Int) (m : Nat) (S : Int) (F T : Nat → Int) (hon : Bool) (e : Es) (k : Int) (c : Cu) : esAct C m S F T hon e k 1 c = ⟨c, e.out ++ [(3, k, 0)], e.th, k⟩ := by simp [esAct]
theorem esAct_2 (C : Nat → Int) (m : Nat) (S : Int) (F T : Nat → Int) (hon : Bool) (e : Es) (k t : Int) (c : Cu) (h : t = 2 ∨ t = 3) : esAct C m S F T hon e k t c = ⟨c, e.out ++ [(4, if 0 ≤ e.dead then e.dead else k, 0)], e.th, -1⟩ := by
  unfold esAct
  rw [if_neg (by omega), if_neg (by omega), if_pos h]
theorem esAct_4 (C : Nat → Int) (m : Nat) (S : Int) (F T : Nat → Int) (hon : Bool) (e : Es) (k t : Int) (c : Cu) (h : t = 4 ∨ t = 5 ∨ t = 6) : esAct C m S F T hon e k t c = esReset C m S hon e c := by
  unfold esAct
  rw [if_neg (by omega), if_neg (by omega), if_neg (by omega), if_pos h]
theorem esAct_7 (C : Nat → Int) (m : Nat) (S : Int) (F T : Nat → Int) (hon : Bool) (e : Es) (k t : Int) (c : Cu) (h : 7 ≤ t) : esAct C m S F T hon e k t c = esPass C m F T hon e k (1 - 2 * pkV C m c 2) (pkC C m c 2) := by
  unfold esAct
  rw [if_neg (by omega), if_neg (by omega), if_neg (by omega), if_neg (by omega)]

theorem thSt_to (th : Int → Int) (j a : Nat) : thSt th (-1) (j : Int) (a : Int) = if a = j then th (j : Int) + 1 else th (a : Int) := by
  unfold thSt
  rw [if_neg (by omega)]
  by_cases h : a = j
  · subst h; rw [if_pos ⟨rfl, by omega⟩, if_pos rfl]
  · rw [if_neg (by omega), if_neg h]; omega
theorem thSt_fr (th : Int → Int) (j a : Nat) : thSt th (j : Int) (-1) (a : Int) = if a = j then th (j : Int) - 1 else th (a : Int) := by
  unfold thSt
  rw [if_neg (show ¬ ((a : Int) = -1 ∧ (0 : Int) ≤ -1) by omega)]
  by_cases h : a = j
  · subst h; rw [if_pos ⟨rfl, by omega⟩, if_pos rfl]; omega
  · rw [if_neg (by omega), if_neg h]; omega
theorem thSt_mid (th : Int → Int) (i a : Nat) (z : Int) : (if (a : Int) = (i : Int) then z - 1 else th (a : Int)) = if a = i then z - 1 else th (a : Int) := by
  by_cases h : a = i
  · subst h; simp
  · rw [if_neg (by omega), if_neg h]
theorem thSt_both (th : Int → Int) {i j : Nat} (hij : ¬ i = j) (a : Nat) : thSt th (i : Int) (j : Int) (a : Int) = if a = j then th (j : Int) + 1 else if (a : Int) = (i : Int) then th (i : Int) - 1 else th (a : Int) := by
  unfold thSt
  by_cases h : a = j
  · subst h
    rw [if_neg (by omega), if_pos ⟨rfl, by omega⟩, if_pos rfl]
  · rw [if_neg (show ¬ ((a : Int) = (j : Int) ∧ (0 : Int) ≤ (j : Int)) by omega), if_neg h]
    by_cases h' : a = i
    · subst h'; rw [if_pos ⟨rfl, by omega⟩, if_pos rfl]; omega
    · rw [if_neg (by omega), if_neg (by omega)]; omega

/-- what stands ahead of a round: the boxed layout lb, the row of those who are there tb, the events so far -/
structure EvI (w wr : World) (B p : Nat) (ao : Option Addr) (m cap : Nat) (C : Nat → Int) (lb tb : Nat) (ns g n : Nat) (F T : Nat → Int) (u : Value) (e : Es) : Prop where
  cur : Cur wr B p ao m cap C e.cu
  lay : Box2 wr lb 25 (.int .i64 (ns : Int)) (.slice (gA g) n (gC g))
  row : CRow wr g n F T
  own : wr.ownsRow (tb + 1) 47 3 u e.out.length (trC e.out)
  the : Blk wr tb 3 ns (fun i => .int .i64 (e.th (i : Int)))
  tur : Turned w wr (· = 39) p (p + 1)
  rq : w.heap.size ≤ lb ∧ lb < tb ∧ p < w.heap.size
section
variable {w wr w' U w6 : World} {B p : Nat} {ao : Option Addr} {m cap : Nat} {C : Nat → Int} {lb tb ns g n : Nat} {F T : Nat → Int} {u v : Value} {e : Es}
theorem EvI.on (h : EvI w wr B p ao m cap C lb tb ns g n F T u e) (hb : Below wr.heap.size wr w') : EvI w w' B p ao m cap C lb tb ns g n F T u e :=
  ⟨h.cur.on hb, h.lay.on hb, h.row.on hb, ow_on h.own hb, h.the.on hb, h.tur.trans (Turned.of_below hb), h.rq⟩
theorem EvI.alloc (h : EvI w wr B p ao m cap C lb tb ns g n F T u e) (o : Obj) : EvI w (wr.alloc o) B p ao m cap C lb tb ns g n F T u e := h.on (by repeat (first | exact Below.refl _ _ | assumption | refine below_alloc ?_ _ | refine Below.setCell ?_ (by first | omega | (simp; done) | (simp; omega)) _ | refine Below.alloc ?_ (by first | omega | (simp; done) | (simp; omega)) _ | refine Below.drew ?_))
theorem EvI.pick (h : EvI w wr B p ao m cap C lb tb ns g n F T u e) {c : Cu} (hc : Cur w' B p ao m cap C c) (ht : Turned wr w' (· = 39) p (p + 1)) : EvI w w' B p ao m cap C lb tb ns g n F T u ⟨c, e.out, e.th, e.dead⟩ :=
  ⟨hc, h.lay.turned ht (.inl (by decide)), h.row.turned ht (by decide), ow_turned h.own ht (by decide), h.the.turned ht (.inl (by decide)), h.tur.trans ht, h.rq⟩
theorem EvI.dead (h : EvI w wr B p ao m cap C lb tb ns g n F T u e) (d : Int) : EvI w wr B p ao m cap C lb tb ns g n F T u ⟨e.cu, e.out, e.th, d⟩ :=
  ⟨h.cur, h.lay, h.row, h.own, h.the, h.tur, h.rq⟩
/-- one more event -/
theorem EvI.app (h : EvI w U B p ao m cap C lb tb ns g n F T u e) (x : Int × Int × Int) (hown : w6.ownsRow (tb + 1) 47 3 v (e.out.length + 1) (trC e.out ++ [.int .i64 x.1, .int .i64 x.2.1, .int .i64 x.2.2])) (hg : Turned U w6 (· = 47) (tb + 1) U.heap.size) : EvI w w6 B p ao m cap C lb tb ns g n F T v ⟨e.cu, e.out ++ [x], e.th, e.dead⟩ := by
  obtain ⟨h1, h2, h3⟩ := h.rq
  have h4 := h.the.lt
  have h5 := h.cur.2.2.1
  refine ⟨h.cur.turned hg (.inl (by decide)) (by omega), h.lay.turned hg (.inl (by decide)), h.row.turned hg (by decide), ?_, h.the.turned hg (.inl (by decide)), ?_, h.rq⟩
  · simp only
    rw [trC_snoc, List.length_append]
    exact hown
  · exact h.tur.more ((hg.below (Nat.le_refl _) (by omega)).mono (by omega))
/-- somebody comes or goes -/
theorem EvI.set (h : EvI w wr B p ao m cap C lb tb ns g n F T u e) {i : Nat} (x : Int) {th : Int → Int} (hth : ∀ j : Nat, j < ns → th (j : Int) = if j = i then x else e.th (j : Int)) : EvI w (wr.setCell ⟨tb, i, none⟩ (.int .i64 x)) B p ao m cap C lb tb ns g n F T u ⟨e.cu, e.out, th, e.dead⟩ := by
  obtain ⟨h1, h2, h3⟩ := h.rq
  have h5 := h.cur.2.2.1
  have t1 : Turned wr (wr.setCell ⟨tb, i, none⟩ (.int .i64 x)) (· = 3) tb (tb + 1) := Turned.set (E := (· = 3)) h.the rfl (Nat.le_refl _) (Nat.lt_succ_self _) _
  refine ⟨h.cur.turned t1 (.inl (by decide)) (by omega), h.lay.turned t1 (.inl (by decide)), h.row.turned t1 (by decide), ow_turned h.own t1 (by decide), (h.the.set i _).congr (fun j hj => ?_), h.tur.more ((Below.refl _ _).setCell (show w.heap.size ≤ tb by omega) _), h.rq⟩
  simp only [hth j hj]
  split <;> rfl
end

end Go.Proofs.YtlpopfhaephfaaaGreatDoor
