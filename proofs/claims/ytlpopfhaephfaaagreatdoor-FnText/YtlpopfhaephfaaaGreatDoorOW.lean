import Derived.Test.YtlpopfhaephfaaaGreatDoorCR
import Derived.Test.YtlpopfhaephfaaaGreatDoorMkL
namespace Go.Proofs.YtlpopfhaephfaaaGreatDoor
open Go.RowKit

theorem ow_slf {w : World} {base e sz n : Nat} {v : Value} {xs : List Value} {G : Nat → Nat → Value} (h : w.ownsRow base e sz v n xs) (hG : ∀ i, i < n → ∀ j, j < sz → xs[i * sz + j]? = some (G i j)) : SlF w e sz base w.heap.size v n G := by
  rcases h.2 with ⟨rfl, h0⟩ | ⟨g, cap, cur, rfl, hb, hh, hn, hm, hs, ht⟩
  · exact ⟨none, 0, by rw [h0], .inl h0⟩
  · have hlt : g < w.heap.size := (Array.getElem?_eq_some_iff.1 hh).1
    have hle : n * sz ≤ cap * sz := Nat.mul_le_mul_right sz hn
    refine ⟨_, cap, rfl, .inr ⟨g, cap * sz, fun i => cur.toList.getD i (.int .i64 0), rfl, hb, hlt, hle, ⟨cur, hh, by simpa using hs, fun i hi => ?_⟩, fun i hi j hj => ?_⟩⟩
    · have : i < cur.size := by rw [hs]; exact hi
      simp [this]
    · have hlt2 := idx_lt hi hj
      have e1 := hG i hi j hj
      rw [← ht, List.getElem?_take_of_lt hlt2] at e1
      simp [List.getD, e1]
theorem ow_some {w : World} {base e sz n : Nat} {v : Value} {xs : List Value} (h : w.ownsRow base e sz v n xs) (hn : 0 < n) : ∃ g cap, v = .slice (some ⟨g, 0, none⟩) n cap := by
  rcases h.2 with ⟨_, h0⟩ | ⟨g, cap, cur, rfl, _⟩
  · omega
  · exact ⟨g, cap, rfl⟩
theorem ow_blk {w : World} {base e sz n g : Nat} {v : Value} {xs : List Value} (h : w.ownsRow base e sz v n xs) (hg : v.ownBlock = some g) : base ≤ g ∧ ∃ m f, Blk w g e m f := by
  rcases h.2 with ⟨rfl, _⟩ | ⟨g', cap, cur, rfl, hb, hh, _⟩
  · cases hg
  · simp only [Value.ownBlock, Option.some.injEq] at hg
    subst hg
    exact ⟨hb, cur.size, fun i => cur.toList.getD i (.int .i64 0), cur, hh, rfl, fun i hi => by simp [hi]⟩

theorem ow_turned {w w' : World} {base e sz n lo hi : Nat} {v : Value} {xs : List Value} {E : Nat → Prop} (h : w.ownsRow base e sz v n xs) (ht : Turned w w' E lo hi) (hd : ¬ E e) : w'.ownsRow base e sz v n xs := by
  refine ⟨h.1, ?_⟩
  rcases h.2 with hn | ⟨g, cap, cur, rfl, hb, hgg, rest⟩
  · exact .inl hn
  · obtain ⟨_, m, f, hB⟩ := ow_blk h rfl
    refine .inr ⟨g, cap, cur, rfl, hb, ?_, rest⟩
    rcases ht.block g (Array.getElem?_eq_some_iff.1 hgg).1 with h' | ⟨_, _, e', m', f', a3, a4⟩
    · rw [h']; exact hgg
    · exact absurd (by rw [← a4.type_eq hB]; exact a3) hd

theorem ow_on {w w' : World} {base e sz n : Nat} {v : Value} {xs : List Value} (h : w.ownsRow base e sz v n xs) (hb : Below w.heap.size w w') : w'.ownsRow base e sz v n xs := ow_turned h (Turned.of_below (E := fun _ => False) (lo := 0) (hi := 0) hb) id

theorem ow_grown {w w' : World} {base e sz n : Nat} {v : Value} {xs : List Value} (h : w.ownsRow base e sz v n xs) (hg : w.grownBy w' v.ownBlock) : Turned w w' (· = e) base w.heap.size := by
  refine ⟨hg.os, hg.tape, hg.output, hg.size, fun k hk => ?_⟩
  by_cases hk' : some k = v.ownBlock
  · obtain ⟨hb, m, f, hB⟩ := ow_blk h hk'.symm
    exact .inr ⟨hb, hk, e, m, f, rfl, hB⟩
  · exact .inl (hg.block k hk hk')

theorem nw_cells2 (w : World) (a b : Value) (e : TypeId) : ∀ j u, [a, b][j]? = some u → (w.alloc (.cells #[a, b] e)).cell? ((⟨w.heap.size, 0, none⟩ : Addr).add j) = some u := by
  intro j u hu
  have hj : j < 2 := (List.getElem?_eq_some_iff.1 hu).1
  have ea : (⟨w.heap.size, 0, none⟩ : Addr).add j = ⟨w.heap.size, j, none⟩ := by simp [Addr.add]; exact fun h => h.symm
  rw [ea]
  match j, hj with
  | 0, _ => simpa using hu
  | 1, _ => simpa using hu

theorem nw_cells3 (w : World) (a b c : Value) (e : TypeId) : ∀ j u, [a, b, c][j]? = some u → (w.alloc (.cells #[a, b, c] e)).cell? ((⟨w.heap.size, 0, none⟩ : Addr).add j) = some u := by
  intro j u hu
  have hj : j < 3 := (List.getElem?_eq_some_iff.1 hu).1
  have ea : (⟨w.heap.size, 0, none⟩ : Addr).add j = ⟨w.heap.size, j, none⟩ := by simp [Addr.add]; exact fun h => h.symm
  rw [ea]
  match j, hj with
  | 0, _ => simpa using hu
  | 1, _ => simpa using hu
  | 2, _ => simpa using hu

/-- the cells of a list of pairs; of triples -/
def prC (l : List (Int × Int)) : List Value := l.flatMap fun p => [.int .i64 p.1, .int .i64 p.2]
theorem prC_snoc (l : List (Int × Int)) (p : Int × Int) : prC (l ++ [p]) = prC l ++ [.int .i64 p.1, .int .i64 p.2] := by simp [prC]
def trC (l : List (Int × Int × Int)) : List Value := l.flatMap fun p => [.int .i64 p.1, .int .i64 p.2.1, .int .i64 p.2.2]
theorem trC_snoc (l : List (Int × Int × Int)) (p : Int × Int × Int) : trC (l ++ [p]) = trC l ++ [.int .i64 p.1, .int .i64 p.2.1, .int .i64 p.2.2] := by simp [trC]

/-- a list of counters as two functions; of events as one -/
def fstF (l : List (Int × Int)) (i : Nat) : Int := (l.getD i (0, 0)).1
def sndF (l : List (Int × Int)) (i : Nat) : Int := (l.getD i (0, 0)).2
def trP (l : List (Int × Int × Int)) (i j : Nat) : Int := if j = 0 then (l.getD i (0, 0, 0)).1 else if j = 1 then (l.getD i (0, 0, 0)).2.1 else (l.getD i (0, 0, 0)).2.2

theorem prC_get (l : List (Int × Int)) (i j : Nat) (hi : i < l.length) (hj : j < 2) : (prC l)[i * 2 + j]? = some (two (fstF l) (sndF l) i j) := by
  induction l generalizing i with
  | nil => simp at hi
  | cons a l ih =>
    simp only [prC, List.flatMap_cons]
    cases i with
    | zero =>
      rw [List.getElem?_append_left (by simp; omega)]
      rcases (show j = 0 ∨ j = 1 by omega) with rfl | rfl <;> simp [two, fstF, sndF]
    | succ i =>
      rw [List.getElem?_append_right (by simp; omega)]
      simp only [List.length_cons, List.length_nil]
      rw [show (i + 1) * 2 + j - (0 + 1 + 1) = i * 2 + j by omega]
      have := ih i (by simpa using hi)
      simp only [prC] at this
      rw [this]
      simp [two, fstF, sndF]

theorem trC_get (l : List (Int × Int × Int)) (i j : Nat) (hi : i < l.length) (hj : j < 3) : (trC l)[i * 3 + j]? = some (.int .i64 (trP l i j)) := by
  induction l generalizing i with
  | nil => simp at hi
  | cons a l ih =>
    simp only [trC, List.flatMap_cons]
    cases i with
    | zero =>
      rw [List.getElem?_append_left (by simp; omega)]
      rcases (show j = 0 ∨ j = 1 ∨ j = 2 by omega) with rfl | rfl | rfl <;> simp [trP]
    | succ i =>
      rw [List.getElem?_append_right (by simp; omega)]
      simp only [List.length_cons, List.length_nil]
      rw [show (i + 1) * 3 + j - (0 + 1 + 1 + 1) = i * 3 + j by omega]
      have := ih i (by simpa using hi)
      simp only [trC] at this
      rw [this]
      simp [trP]

/-- counters that the call has made by append -/
theorem CRow.of_own {w : World} {base : Nat} {v : Value} {l : List (Int × Int)} (h : w.ownsRow base 75 2 v l.length (prC l)) : ∃ g, v = .slice (gA g) l.length (gC g) ∧ CRow w g l.length (fstF l) (sndF l) := by
  obtain ⟨ao, cap, rfl, h0⟩ := ow_slf h (fun i hi j hj => prC_get l i j hi hj)
  rcases h0 with h0 | ⟨b, m, f, rfl, _, _, h2, h3, h4⟩
  · rcases h.2 with ⟨hv, _⟩ | ⟨b, cap', cur, hv, _⟩
    · obtain ⟨g, e1, e2⟩ := gA_none 0
      refine ⟨g, ?_, .inl h0⟩
      rw [e1, e2, hv, h0]
    · obtain ⟨g, e1, e2⟩ := gA_some b cap'
      refine ⟨g, ?_, .inl h0⟩
      rw [e1, e2, hv]
  · obtain ⟨g, e1, e2⟩ := gA_some b cap
    refine ⟨g, by rw [e1, e2], .inr ⟨b, m, f, e1, h2, h3, h4⟩⟩

/-- a slice that is no longer than its capacity -/
def capB : Value → Bool
  | .slice _ n c => decide (n ≤ c)
  | _ => false
theorem own_cap {w : World} {base e sz n : Nat} {v : Value} {xs : List Value} (h : w.ownsRow base e sz v n xs) : capB v = true := by
  rcases h.2 with ⟨rfl, _⟩ | ⟨g, cap, cur, rfl, _, _, hnc, _⟩
  · simp [capB]
  · simp [capB, hnc]

end Go.Proofs.YtlpopfhaephfaaaGreatDoor
