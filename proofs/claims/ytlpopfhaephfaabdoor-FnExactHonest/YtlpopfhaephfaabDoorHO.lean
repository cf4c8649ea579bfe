import Derived.Test.YtlpopfhaephfaabDoorST4
import Derived.Test.YtlpopfhaephfaabDoorEV1
import Derived.Test.YtlpopfhaephfaabDoorMkL
namespace Go.Proofs.YtlpopfhaephfaabDoor
open Go.RowKit

theorem rise {L : Nat → Nat} {m : Nat} (h : ∀ i, i < m → L i ≤ L (i + 1)) : ∀ j i, i + j ≤ m → L i ≤ L (i + j) := fun j => by
  induction j with
  | zero => intro i _; exact Nat.le_refl _
  | succ j ih => intro i hi; have := h (i + j) (by omega); have := ih i (by omega); rw [← Nat.add_assoc]; omega

theorem rise' {L : Nat → Nat} {m : Nat} (h : ∀ i, i < m → L i ≤ L (i + 1)) {a b : Nat} (hab : a ≤ b) (hb : b ≤ m) : L a ≤ L b := by
  have := rise h (b - a) a (by omega)
  rwa [show a + (b - a) = b by omega] at this
theorem SlF.of_ownsRow {w : World} {base e sz n : Nat} {v : Value} {xs : List Value} {G : Nat → Nat → Value} (h : w.ownsRow base e sz v n xs) (hG : ∀ i, i < n → ∀ j, j < sz → xs[i * sz + j]? = some (G i j)) : SlF w e sz base w.heap.size v n G := by
  rcases h.2 with ⟨rfl, h0⟩ | ⟨g, cap, cur, rfl, hb, hh, hn, hm, hs, ht⟩
  · exact ⟨none, 0, by rw [h0], .inl h0⟩
  · have hlt : g < w.heap.size := (Array.getElem?_eq_some_iff.1 hh).1
    have hle : n * sz ≤ cap * sz := Nat.mul_le_mul_right sz hn
    refine ⟨_, cap, rfl, .inr ⟨g, cap * sz, fun i => cur.toList.getD i (.int .i64 0), rfl, hb, hlt, hle, ⟨cur, hh, by simpa using hs, fun i hi => ?_⟩, fun i hi j hj => ?_⟩⟩
    · have : i < cur.size := by rw [hs]; exact hi
      simp [this]
    · have hlt2 := idx_lt hi hj
      have e1 := hG i hi j hj
      rw [← ht, List.getElem?_take_of_lt hlt2] at e1
      simp [List.getD, e1]
theorem own_some {w : World} {base e sz n : Nat} {v : Value} {xs : List Value} (h : w.ownsRow base e sz v n xs) (hn : 0 < n) : ∃ g cap, v = .slice (some ⟨g, 0, none⟩) n cap := by
  rcases h.2 with ⟨_, h0⟩ | ⟨g, cap, cur, rfl, _⟩
  · omega
  · exact ⟨g, cap, rfl⟩
theorem own_blk {w : World} {base e sz n g : Nat} {v : Value} {xs : List Value} (h : w.ownsRow base e sz v n xs) (hg : v.ownBlock = some g) : base ≤ g ∧ ∃ m f, Blk w g e m f := by
  rcases h.2 with ⟨rfl, _⟩ | ⟨g', cap, cur, rfl, hb, hh, _⟩
  · cases hg
  · simp only [Value.ownBlock, Option.some.injEq] at hg
    subst hg
    exact ⟨hb, cur.size, fun i => cur.toList.getD i (.int .i64 0), cur, hh, rfl, fun i hi => by simp [hi]⟩

theorem own_turned {w w' : World} {base e sz n lo hi : Nat} {v : Value} {xs : List Value} {E : Nat → Prop} (h : w.ownsRow base e sz v n xs) (ht : Turned w w' E lo hi) (hd : ¬ E e) : w'.ownsRow base e sz v n xs := by
  refine ⟨h.1, ?_⟩
  rcases h.2 with hn | ⟨g, cap, cur, rfl, hb, hgg, rest⟩
  · exact .inl hn
  · obtain ⟨_, m, f, hB⟩ := own_blk h rfl
    refine .inr ⟨g, cap, cur, rfl, hb, ?_, rest⟩
    rcases ht.block g (Array.getElem?_eq_some_iff.1 hgg).1 with h' | ⟨_, _, e', m', f', a3, a4⟩
    · rw [h']; exact hgg
    · exact absurd (by rw [← a4.type_eq hB]; exact a3) hd

theorem own_on {w w' : World} {base e sz n : Nat} {v : Value} {xs : List Value} (h : w.ownsRow base e sz v n xs) (hb : Below w.heap.size w w') : w'.ownsRow base e sz v n xs := own_turned h (Turned.of_below (E := fun _ => False) (lo := 0) (hi := 0) hb) id

theorem own_grown {w w' : World} {base e sz n : Nat} {v : Value} {xs : List Value} (h : w.ownsRow base e sz v n xs) (hg : w.grownBy w' v.ownBlock) : Turned w w' (· = e) base w.heap.size := by
  refine ⟨hg.os, hg.tape, hg.output, hg.size, fun k hk => ?_⟩
  by_cases hk' : some k = v.ownBlock
  · obtain ⟨hb, m, f, hB⟩ := own_blk h hk'.symm
    exact .inr ⟨hb, hk, e, m, f, rfl, hB⟩
  · exact .inl (hg.block k hk hk')

theorem runOk_any (S : Int) (g n m ce : Nat) (ae : Option Addr) (F T : Nat → Int) (w : World) (hm : m ≤ 1048576) (hrow : Row w g 81 2 n (two F T)) :
    Calls Tryd.prog 33 #[.agg #[.int .i64 S, .slice (some ⟨g, 0, none⟩) n n], .slice ae m ce] w fun e w' => e = .returned (.bool (lokZ S n F T == 0 && decide (m ≤ 2000))) ∧ Below w.heap.size w w' := by
  have kc := fun o => implLayoutOk_any S g n F T _ (hrow.alloc o)
  go_enter Tryd.func33, Tryd.ntmps33
  go_wp2_with fail
  refine (kc _).mono ?_
  rintro e w1 ⟨rfl, hb1⟩
  have B1 := below_on (show Below w.heap.size w _ from (by repeat (first | exact Below.refl _ _ | assumption | refine below_alloc ?_ _ | refine Below.setCell ?_ (by first | omega | (simp; done) | (simp; omega)) _ | refine Below.alloc ?_ (by first | omega | (simp; done) | (simp; omega)) _ | refine Below.drew ?_))) hb1
  clear hb1
  by_cases hl : lokZ S n F T = 0
  · have h1 : (lokZ S n F T == 0) = true := by simp [hl]
    rw [hl]
    by_cases hm2 : m ≤ 2000
    · have h2 : (m : Int) ≤ 2000 := by omega
      go_wp2
      go_ret
      exact ⟨by simp [hm2, hl], B1⟩
    · have h2 : ¬ (m : Int) ≤ 2000 := by omega
      go_wp2
      go_ret
      exact ⟨by simp [hm2]; omega, B1⟩
  · have h1 : (lokZ S n F T == 0) = false := by simp [hl]
    go_wp2
    go_ret
    exact ⟨by simp [hl], B1⟩

end Go.Proofs.YtlpopfhaephfaabDoor
