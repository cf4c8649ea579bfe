import Derived.Test.YtlpopfhaephfaaaBase
import Derived.Test.YtlpopfhaephfaaaRows
import Derived.Maps.GroupsBeside
import Derived.Deep.RegionLaw
namespace Go.Proofs.Ytlpopfhaephfaaa
open Go.RowKit Go.Maps Go.ChangeShapes

theorem Try.infoI : (Try.prog.info? 3).map (fun i => (i.zero, i.size, i.bytes)) = some (some (.int .i64 0), 1, 8) := by kernel_rfl
theorem klaw : Keyed Try.prog 3 := int_keyed Try.underlying3
theorem zeroIS (w : World) : (zeroValue 48).run Try.prog w = .ok (.slice none 0 0) w := by kernel_rfl

/-- append to a slice of the call's own, as one step of a region that draws its order. -/
theorem step_append_own {P : Program} {ops : Array Oper} {o : Oper} {a : Act} {w : World} {K : Act → World → Prop} {Q : Exit → Act → World → Prop} {E : Prop}
    (hgd : o.guard = none) (s x : Operand) (t : TypeId) (ho : o.op = .call { callee := .builtin .append, args := #[s, x], argTypes := #[t, t] })
    (base : Nat) (e : TypeId) (i : TypeInfo) (z : Value) (size bytes : Nat) (ht : P.underlying t = some (.slice e)) (hi : P.info? e = some i) (hz : i.zero = some z)
    (hsize : i.size = size) (hby : i.bytes = bytes) (hzs : z.cells.size = size) (hsz : 0 < size)
    (v : Value) (n : Nat) (xs : List Value) (hs : a.eval s = v) (hown : w.ownsRow base e size v n xs)
    (ad : Addr) (m c : Nat) (news : List Value) (hx : a.eval x = .slice (some ad) m c) (hl : news.length = m * size) (hnews : ∀ j u, news[j]? = some u → w.cell? (ad.add j) = some u) (h1 : ∀ u ∈ news, u.oneCell' = true)
    (h63 : n + m ≤ maxLen) (hbytes : (n + m) * bytes ≤ 140737488355328) (hbase : base ≤ w.heap.size)
    (h : ∀ v' w', w'.ownsRow base e size v' (n + m) (xs ++ news) → w.grownBy w' v.ownBlock → (v'.ownBlock = v.ownBlock ∨ v'.ownBlock = some w.heap.size) → K (a.put o.dst v') w') :
    if Region.wanted o (yielded ops a.tmps) = true then Oper.wp P o a w K Q else E := by
  have hw : Region.wanted o (yielded ops a.tmps) = true := by simp [Region.wanted, hgd]
  rw [if_pos hw]
  obtain ⟨v', w', hr, h2, h3, _, h5⟩ := run_append_own_at (P := P) w base t o.type e i z size bytes ht hi hz hsize hby hzs hsz v n xs hown ad m c news hl hnews h1 h63 hbytes hbase
  unfold Oper.wp execOp
  simp only [ho, resolve, invoke, builtin, Sem.run_bind, Sem.run_pure, Result.andThen_ok, List.map_toArray, List.map_cons, List.map_nil, hs, hx, hr]
  exact h v' w' h2 h3 h5

/-- what lies at a key, as a list -/
def items : DataW Unit → List (DataW Unit)
  | .slice es _ => es
  | _ => []

def DOk (D : DataW Unit) (Z : Int → List Int) : Prop := ∀ s, (Lit.int .i64 s).wf = true → items (D.atKey (.int .i64 s) .nil) = lits .i64 (Z s)

theorem items_row {w : World} {base e : Nat} {v : Value} {zs : List Int} (h : w.ownsInts base e .i64 v zs) : items (rowDatum .i64 v zs) = lits .i64 zs := by
  rcases h.datum (H := Unit) with ⟨h1, h2⟩ | h1
  · rw [h1, h2]; rfl
  · rw [h1]; rfl

theorem lits_inj {a b : List Int} (h : lits (H := Unit) .i64 a = lits .i64 b) : a = b := by
  induction a generalizing b with
  | nil => cases b <;> simp [lits] at h ⊢
  | cons x a ih =>
    cases b with
    | nil => simp [lits] at h
    | cons y b =>
      simp only [lits, List.map_cons, List.cons.injEq, DataW.lit.injEq, Lit.int.injEq, true_and] at h
      rw [h.1, ih (by simpa [lits] using h.2)]

/-- Block B is a map from ints to slices of ints of the call's own: at s lie the numbers Z s. -/
def Grp (w : World) (B n : Nat) (Z : Int → List Int) : Prop := ∃ D : DataW Unit, w.ownsGroups Try.prog 3 (B + 1) 3 .i64 B n D ∧ DOk D Z

theorem Grp.made (w : World) : Grp (w.alloc (.map #[] 0)) w.heap.size 0 (fun _ => []) := ⟨.map [], World.ownsGroups_made _ _ _ _ _, fun _ _ => rfl⟩

theorem Grp.alloc {w : World} {B n : Nat} {Z : Int → List Int} (h : Grp w B n Z) (o : Obj) : Grp (w.alloc o) B n Z := by
  obtain ⟨D, h1, h2⟩ := h
  exact ⟨D, h1.kept (World.grownBy_alloc w o none) (by simp) (fun es clock hb x hx => by cases x.val.ownBlock <;> simp), h2⟩

theorem Grp.drew {w : World} {B n : Nat} {Z : Int → List Int} (h : Grp w B n Z) : Grp w.drew B n Z := by
  obtain ⟨D, h1, h2⟩ := h
  exact ⟨D, h1.kept (row := none) ⟨rfl, rfl, rfl, Nat.le_refl _, fun _ _ _ => rfl⟩ (by simp) (fun es clock hb x hx => by cases x.val.ownBlock <;> simp), h2⟩

theorem Grp.congr {w : World} {B n : Nat} {Z Z' : Int → List Int} (h : Grp w B n Z) (hz : ∀ s, Z s = Z' s) : Grp w B n Z' := by
  rwa [show Z' = Z from funext fun s => (hz s).symm]

theorem Grp.look {w : World} {B n : Nat} {Z : Int → List Int} (h : Grp w B n Z) (hn : n < maxLen) (s : Int) (hs : (Lit.int .i64 s).wf = true) :
    ∃ v, (Instr.lookup 89 (.map (some B)) (.int .i64 s) false).run Try.prog w = .ok v w ∧ w.ownsInts (B + 1) 3 .i64 v (Z s) ∧ (Z s).length ≤ n ∧
      ∀ (w1 : World) (v' : Value) (zs' : List Int), w.grownBy w1 v.ownBlock → w1.ownsInts (B + 1) 3 .i64 v' zs' → zs'.length ≤ n + 1 → (v'.ownBlock = v.ownBlock ∨ ∃ g, v'.ownBlock = some g ∧ w.heap.size ≤ g) →
        ∃ w2, (Instr.mapUpdate 89 (.map (some B)) (.int .i64 s) v').run Try.prog w1 = .ok () w2 ∧ Grp w2 B (n + 1) (fun x => if x = s then zs' else Z x) ∧ w1.grownBy w2 (some B) := by
  obtain ⟨D, h1, h2⟩ := h
  have hm : IsMap D := by obtain ⟨es, clock, _, _, _, rfl, _⟩ := h1; exact ⟨_, rfl⟩
  obtain ⟨v, zs, hrun, hat, hoi, hl, hback⟩ := h1.at klaw Try.underlying89 (zeroIS w) hn (keyOf_int_mk Try.underlying3 hs)
  have hz : zs = Z s := by
    have := h2 s hs
    rw [hat, items_row hoi] at this
    exact lits_inj this
  subst hz
  refine ⟨v, hrun, hoi, hl, fun w1 v' zs' hg ho hl' hloc => ?_⟩
  obtain ⟨w2, hup, hg2, hgr⟩ := hback w1 v' zs' hg ho hl' hloc
  refine ⟨w2, hup, ⟨_, hg2, fun x hx => ?_⟩, hgr⟩
  by_cases e : x = s
  · subst e
    rw [atKey_put_same (k := .int .i64 x) hm trivial, items_row ho]
    simp only [if_true]
  · rw [atKey_put_other (by simpa using e)]
    simp only [if_neg e]
    exact h2 x hx

/-- a row of ints is no block of another element type -/
theorem own_ne {w : World} {base : Nat} {v : Value} {zs : List Int} {g e m : Nat} {f : Nat → Value} (h : w.ownsInts base 3 .i64 v zs) (hb : Blk w g e m f) (he : e ≠ 3) : v.ownBlock ≠ some g := by
  intro hv
  obtain ⟨xs, h1, _⟩ := hb
  rcases h.1.2 with ⟨rfl, _⟩ | ⟨g', cap, cur, rfl, _, hh, _⟩
  · cases hv
  · simp only [Value.ownBlock, Option.some.injEq] at hv
    subst hv
    rw [hh] at h1
    simp only [Option.some.injEq, Obj.cells.injEq] at h1
    exact he h1.2.1.symm

theorem Blk.grown {w w' : World} {row : Option Nat} {g e m : Nat} {f : Nat → Value} (h : Blk w g e m f) (hg : w.grownBy w' row) (hne : row ≠ some g) : Blk w' g e m f := h.of_block (hg.block g h.lt (fun x => hne x.symm))

#print axioms Grp.look
end Go.Proofs.Ytlpopfhaephfaaa
