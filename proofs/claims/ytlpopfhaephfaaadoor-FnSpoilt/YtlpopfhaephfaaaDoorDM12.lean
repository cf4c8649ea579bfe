import Derived.Test.YtlpopfhaephfaaaDoorDM6
namespace Go.Proofs.YtlpopfhaephfaaaDoor
open Go.RowKit Go.Maps Go.Sort

theorem own_some {w : World} {base e sz n : Nat} {v : Value} {xs : List Value} (h : w.ownsRow base e sz v n xs) (hn : 0 < n) : ∃ g cap, v = .slice (some ⟨g, 0, none⟩) n cap := by
  rcases h.2 with ⟨_, h0⟩ | ⟨g, cap, cur, rfl, _⟩
  · omega
  · exact ⟨g, cap, rfl⟩

theorem own_apart {w : World} {base e e' sz sz' n n' : Nat} {v v' : Value} {xs xs' : List Value} (h : w.ownsRow base e sz v n xs) (h' : w.ownsRow base e' sz' v' n' xs') (he : e ≠ e') : v.ownBlock = none ∨ v.ownBlock ≠ v'.ownBlock := by
  rcases h.2 with ⟨rfl, _⟩ | ⟨g, cap, cur, rfl, _, hh, _⟩
  · exact .inl rfl
  · right
    rcases h'.2 with ⟨rfl, _⟩ | ⟨g', cap', cur', rfl, _, hh', _⟩
    · simp [Value.ownBlock]
    · intro e1
      simp only [Value.ownBlock, Option.some.injEq] at e1
      subst e1
      rw [hh] at hh'
      simp only [Option.some.injEq, Obj.cells.injEq] at hh'
      exact he hh'.2.1

theorem new_cells (w : World) (x : Sec) (e : TypeId) : ∀ j u, (scells x)[j]? = some u → (w.alloc (.cells #[.int .i64 x.told, .int .i64 x.count, .bool x.lost, .bool x.sweep, .int .i64 x.last] e)).cell? ((⟨w.heap.size, 0, none⟩ : Addr).add j) = some u := by
  intro j u hu
  have hj : j < 5 := (List.getElem?_eq_some_iff.1 hu).1
  have ea : (⟨w.heap.size, 0, none⟩ : Addr).add j = ⟨w.heap.size, j, none⟩ := by simp [Addr.add]; exact fun h => h.symm
  rw [ea]
  match j, hj with
  | 0, _ => simpa [scells] using hu
  | 1, _ => simpa [scells] using hu
  | 2, _ => simpa [scells] using hu
  | 3, _ => simpa [scells] using hu
  | 4, _ => simpa [scells] using hu

theorem new_cell1 (w : World) (b : Bool) (e : TypeId) : ∀ j u, [Value.bool b][j]? = some u → (w.alloc (.cells #[.bool b] e)).cell? ((⟨w.heap.size, 0, none⟩ : Addr).add j) = some u := by
  intro j u hu
  have hj : j < 1 := (List.getElem?_eq_some_iff.1 hu).1
  have hj0 : j = 0 := by omega
  subst hj0
  simpa [Addr.add] using hu

theorem Box3.set1 {w : World} {b : Nat} {e : TypeId} {x y z : Value} (h : Box3 w b e x y z) (u : Value) : Box3 (w.setCell ⟨b, 1, none⟩ u) b e x u z :=
  (Blk.set h 1 u).congr fun i hi => by match i, hi with | 0, _ => rfl | 1, _ => rfl | 2, _ => rfl
theorem Box3.set2 {w : World} {b : Nat} {e : TypeId} {x y z : Value} (h : Box3 w b e x y z) (u : Value) : Box3 (w.setCell ⟨b, 2, none⟩ u) b e x y u :=
  (Blk.set h 2 u).congr fun i hi => by match i, hi with | 0, _ => rfl | 1, _ => rfl | 2, _ => rfl

end Go.Proofs.YtlpopfhaephfaaaDoor
