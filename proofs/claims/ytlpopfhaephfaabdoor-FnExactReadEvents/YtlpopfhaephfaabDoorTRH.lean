import Derived.Test.YtlpopfhaephfaabDoorRE1
import Derived.Test.YtlpopfhaephfaabDoorTX2
import Derived.Deep.Cut
namespace Go.Proofs.YtlpopfhaephfaabDoor
open Go.RowKit

set_option maxHeartbeats 1000000 in
theorem heldEventS_some (g m cap n : Nat) (f : Nat → Value) (w : World) (hn : n ≤ 1048576) (h1 : Blk w g 51 m f) (h2 : n * 3 ≤ m) (h3 : ∀ c : Nat, c < n * 3 → f c = .int .i64 (1 + (c : Int))) :
    Calls Tryd.prog 44 #[.slice (some ⟨g, 0, none⟩) n cap, .int .i64 1] w fun e w' => e = .returned (.int .i64 (1 + 3 * (n : Int))) ∧ Below w.heap.size w w' := by
  go_enter Tryd.func44, Tryd.ntmps44
  go_wp2
  go_loopw [1, 5] (fun q i wr => ∃ k : Nat, k ≤ n ∧ i = .int .i64 k ∧ q = .int .i64 (1 + 3 * (k : Int)) ∧ Below w.heap.size w wr) (fun _ i _ => n - (intOf i).toNat)
  case atStart => exact ⟨0, Nat.zero_le _, rfl, rfl, Below.refl _ _⟩
  case round =>
    obtain ⟨k, hk, rfl, rfl, hbel⟩ := hrel
    by_cases hlt : k < n
    · have B := h1.below hbel h1.lt
      have c0 : wr.cell? ⟨g, k * 3, none⟩ = some (.int .i64 (1 + 3 * (k : Int))) := by rw [B.cell (by omega), h3 _ (by omega)]; congr 2; omega
      have c1 : wr.cell? ⟨g, k * 3 + 1, none⟩ = some (.int .i64 (1 + 3 * (k : Int) + 1)) := by rw [B.cell (by omega), h3 _ (by omega)]; congr 2; omega
      have c2 : wr.cell? ⟨g, k * 3 + 2, none⟩ = some (.int .i64 (1 + 3 * (k : Int) + 1 + 1)) := by rw [B.cell (by omega), h3 _ (by omega)]; congr 2; omega
      clear h1 h3 B
      go_wp2
      go_roundw
      case rel => exact ⟨k + 1, by omega, by go_num, by go_num, hbel⟩
      case measure => simp [intOf]; omega
    · go_wp2
      go_ret
      have : k = n := by omega
      subst this
      exact ⟨rfl, hbel⟩

theorem heldEventS_none (ao : Option Addr) (cap : Nat) (w : World) :
    Calls Tryd.prog 44 #[.slice ao 0 cap, .int .i64 1] w fun e w' => e = .returned (.int .i64 1) ∧ Below w.heap.size w w' := by
  go_enter Tryd.func44, Tryd.ntmps44
  go_wp2
  refine wp_loop_rounds 1 ?_
  rw [rounds_succ]
  go_wp2
  go_ret
  exact ⟨rfl, Below.refl _ _⟩

/-- Events that are marked, one number a cell. -/
def MkE (w : World) (lo hi : Nat) (v : Value) (N : Nat) : Prop :=
  ∃ ao cap, v = .slice ao N cap ∧ (N = 0 ∨ ∃ g m f, ao = some ⟨g, 0, none⟩ ∧ lo ≤ g ∧ g < hi ∧ N * 3 ≤ m ∧ Blk w g 51 m f ∧ ∀ c : Nat, c < N * 3 → f c = .int .i64 (1 + (c : Int)))

theorem MkE.on {w w' : World} {lo hi : Nat} {v : Value} {N : Nat} (h : MkE w lo hi v N) (hb : Below w.heap.size w w') : MkE w' lo hi v N := by
  obtain ⟨ao, cap, rfl, h0 | ⟨g, m, f, e, h1, h2, h3, h4, h5⟩⟩ := h
  · exact ⟨ao, cap, rfl, .inl h0⟩
  · exact ⟨ao, cap, rfl, .inr ⟨g, m, f, e, h1, h2, h3, h4.on hb, h5⟩⟩

theorem MkE.alloc {w : World} {lo hi : Nat} {v : Value} {N : Nat} (h : MkE w lo hi v N) (o : Obj) : MkE (w.alloc o) lo hi v N := h.on (below_alloc (Below.refl _ _) _)

theorem eqHeard_same (lo hi lo' hi' N : Nat) (A B : Int) (v v' : Value) (P : Nat → Nat → Int) (w : World) (hn : N ≤ 1048576) (h : SlF w 51 3 lo hi v N (evs P)) (h' : SlF w 51 3 lo' hi' v' N (evs P)) :
    Calls Tryd.prog 18 #[.agg #[.int .i64 A, .int .i64 B, v], .agg #[.int .i64 A, .int .i64 B, v']] w fun e w' => e = .returned (.bool true) ∧ Below w.heap.size w w' := by
  obtain ⟨ao, cap, e, _⟩ := id h
  obtain ⟨ao', cap', e', _⟩ := id h'
  subst e e'
  have k := fun o o' => eqEventS_same lo hi lo' hi' N _ _ P _ hn ((h.alloc o).alloc o') ((h'.alloc o).alloc o')
  go_enter Tryd.func18, Tryd.ntmps18
  go_wp2_with fail
  refine (k _ _).mono ?_
  rintro e w1 ⟨rfl, hb1⟩
  have B1 := below_on (show Below w.heap.size w _ from (by repeat (first | exact Below.refl _ _ | assumption | refine below_alloc ?_ _ | refine Below.setCell ?_ (by first | omega | (simp; done) | (simp; omega)) _ | refine Below.alloc ?_ (by first | omega | (simp; done) | (simp; omega)) _ | refine Below.drew ?_))) hb1
  clear hb1 k h h'
  go_wp2
  go_ret
  exact ⟨rfl, B1⟩

theorem markHeard_any (lo hi N : Nat) (A B : Int) (v : Value) (P : Nat → Nat → Int) (w : World) (hn : N ≤ 1048576) (h : SlF w 51 3 lo hi v N (evs P)) :
    Calls Tryd.prog 20 #[.agg #[.int .i64 A, .int .i64 B, v], .int .i64 1] w fun e w' => e = .returned (.int .i64 (1 + 3 * (N : Int))) ∧ MkE w' lo hi v N ∧ Turned w w' (· = 51) lo hi := by
  obtain ⟨ao, cap, rfl, h0 | ⟨g, m, f, rfl, h1, h1', h2, h3, h4⟩⟩ := h
  · subst h0
    go_enter Tryd.func20, Tryd.ntmps20
    go_wp2_with fail
    refine (markEventS_none _ _ _ _).mono ?_
    rintro e w1 ⟨rfl, rfl⟩
    go_wp2
    go_ret
    exact ⟨by simp, ⟨ao, cap, rfl, .inl rfl⟩, Turned.of_below (by repeat (first | exact Below.refl _ _ | assumption | refine below_alloc ?_ _ | refine Below.setCell ?_ (by first | omega | (simp; done) | (simp; omega)) _ | refine Below.alloc ?_ (by first | omega | (simp; done) | (simp; omega)) _ | refine Below.drew ?_))⟩
  · have k := fun o => markEventS_some g m cap N 1 f _ hn (by omega) (by omega) (h3.alloc o) h2
    go_enter Tryd.func20, Tryd.ntmps20
    go_wp2_with fail
    refine (k _).mono ?_
    rintro e w1 ⟨rfl, hb, hg⟩
    have T1 : Turned w w1 (· = 51) lo hi := (Turned.of_below (below_alloc (Below.refl _ _) _)).trans (Turned.of_grown hg h1 h1' rfl (h3.alloc _))
    have M1 : MkE w1 lo hi (.slice (some ⟨g, 0, none⟩) N cap) N := ⟨_, cap, rfl, .inr ⟨g, m, _, rfl, h1, h1', h2, hb, fun c hc => by unfold mark3; rw [if_pos hc]⟩⟩
    clear k hb hg
    go_wp2
    go_ret
    exact ⟨rfl, M1, T1⟩

theorem heldHeard_any (lo hi N : Nat) (A B : Int) (v : Value) (w : World) (hn : N ≤ 1048576) (h : MkE w lo hi v N) :
    Calls Tryd.prog 21 #[.agg #[.int .i64 A, .int .i64 B, v], .int .i64 1] w fun e w' => e = .returned (.int .i64 (1 + 3 * (N : Int))) ∧ Below w.heap.size w w' := by
  have hp : ¬ (1 + 3 * (N : Int)) < 0 := by omega
  obtain ⟨ao, cap, rfl, h0 | ⟨g, m, f, rfl, h1, h1', h2, h3, h4⟩⟩ := h
  · subst h0
    go_enter Tryd.func21, Tryd.ntmps21
    go_wp2_with fail
    refine (heldEventS_none _ _ _).mono ?_
    rintro e w1 ⟨rfl, hb1⟩
    have B1 := below_on (show Below w.heap.size w _ from (by repeat (first | exact Below.refl _ _ | assumption | refine below_alloc ?_ _ | refine Below.setCell ?_ (by first | omega | (simp; done) | (simp; omega)) _ | refine Below.alloc ?_ (by first | omega | (simp; done) | (simp; omega)) _ | refine Below.drew ?_))) hb1
    clear hb1
    go_wp2
    go_ret
    exact ⟨by simp, B1⟩
  · have k := fun o => heldEventS_some g m cap N f _ hn (h3.alloc o) h2 h4
    go_enter Tryd.func21, Tryd.ntmps21
    go_wp2_with fail
    refine (k _).mono ?_
    rintro e w1 ⟨rfl, hb1⟩
    have B1 := below_on (show Below w.heap.size w _ from (by repeat (first | exact Below.refl _ _ | assumption | refine below_alloc ?_ _ | refine Below.setCell ?_ (by first | omega | (simp; done) | (simp; omega)) _ | refine Below.alloc ?_ (by first | omega | (simp; done) | (simp; omega)) _ | refine Below.drew ?_))) hb1
    clear hb1 k
    go_wp2
    go_ret
    exact ⟨rfl, B1⟩

theorem rdL_len {S : Int} {n : Nat} : ∀ (k : Nat) (rest : List UInt8) (acc l : List (Int × Int × Int)), acc.length ≤ 2000 → rdL S n k rest acc = .inr l → l.length ≤ 2000
  | 0, _, _, _, _, h => by simp [rdL] at h
  | k + 1, rest, acc, l, ha, h => by
    unfold rdL at h
    split at h
    · injection h with h; rw [← h]; exact ha
    · split at h
      · rename_i h2
        split at h
        · exact rdL_len k _ _ l (by simp; omega) h
        · cases h
      · cases h

theorem rdZ_len (S : Int) (n : Nat) (F T : Nat → Int) (t : List UInt8) : (rdZ S n F T t).2.2.length ≤ 2000 := by
  unfold rdZ
  split
  · split
    · split
      · simp
      · rename_i l h
        exact rdL_len _ _ _ _ (by simp) h
    · simp
  · simp

end Go.Proofs.YtlpopfhaephfaabDoor
