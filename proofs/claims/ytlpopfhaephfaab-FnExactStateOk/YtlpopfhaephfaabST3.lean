import Derived.Test.YtlpopfhaephfaabST2
import Derived.Test.YtlpopfhaephfaabMkL
namespace Go.Proofs.Ytlpopfhaephfaab
open Go.RowKit

/-- the marks of a section from q on -/
def markSec (q : Int) : Sec := ⟨q, q + 1, (q + 1 + 1) % 3 == 0, (q + 1 + 1 + 1) % 3 == 0, q + 1 + 1 + 1 + 1⟩
def markSecs (q0 : Int) (i : Nat) : Sec := markSec (q0 + 5 * (i : Int))

def mark5 (q0 : Int) (k : Nat) (f : Nat → Value) : Nat → Value := fun c => if c < k * 5 then scell (markSecs q0 (c / 5)) (c % 5) else f c

theorem mark5_step (q0 : Int) (k : Nat) (f : Nat → Value) (c : Nat) :
    (if c = k * 5 + 4 then Value.int .i64 (markSecs q0 k).last else if c = k * 5 + 3 then .bool (markSecs q0 k).sweep else if c = k * 5 + 2 then .bool (markSecs q0 k).lost else if c = k * 5 + 1 then .int .i64 (markSecs q0 k).count else if c = k * 5 then .int .i64 (markSecs q0 k).told else mark5 q0 k f c) = mark5 q0 (k + 1) f c := by
  unfold mark5
  have key : ∀ j, j < 5 → (k * 5 + j) / 5 = k ∧ (k * 5 + j) % 5 = j := fun j hj => ⟨idx_div hj, idx_mod hj⟩
  split
  · rename_i h; subst h; rw [if_pos (by omega), (key 4 (by omega)).1, (key 4 (by omega)).2]; rfl
  · split
    · rename_i h; subst h; rw [if_pos (by omega), (key 3 (by omega)).1, (key 3 (by omega)).2]; rfl
    · split
      · rename_i h; subst h; rw [if_pos (by omega), (key 2 (by omega)).1, (key 2 (by omega)).2]; rfl
      · split
        · rename_i h; subst h; rw [if_pos (by omega), (key 1 (by omega)).1, (key 1 (by omega)).2]; rfl
        · split
          · rename_i h; subst h
            have k0 := key 0 (by omega)
            rw [Nat.add_zero] at k0
            rw [if_pos (by omega), k0.1, k0.2]; rfl
          · by_cases h : c < k * 5
            · rw [if_pos h, if_pos (by omega)]
            · rw [if_neg h, if_neg (by omega)]

theorem mark5_cells {w : World} {g e m k n : Nat} {f : Nat → Value} (h : Blk w g e m f) (hm : n * 5 ≤ m) (hk : k < n) : w.cell? ⟨g, k * 5, none⟩ = some (f (k * 5)) ∧ w.cell? ⟨g, k * 5 + 1, none⟩ = some (f (k * 5 + 1)) ∧ w.cell? ⟨g, k * 5 + 2, none⟩ = some (f (k * 5 + 2)) ∧ w.cell? ⟨g, k * 5 + 3, none⟩ = some (f (k * 5 + 3)) ∧ w.cell? ⟨g, k * 5 + 4, none⟩ = some (f (k * 5 + 4)) :=
  ⟨h.cell (by omega), h.cell (by omega), h.cell (by omega), h.cell (by omega), h.cell (by omega)⟩

set_option maxHeartbeats 1000000 in
theorem markSectionS_any (lo hi n : Nat) (v : Value) (q0 : Int) (G : Nat → Nat → Value) (w : World) (hn : n ≤ 1048576) (hq0 : 0 ≤ q0) (hq1 : q0 ≤ 100000000000) (h : SlF w 93 5 lo hi v n G) :
    Calls Try.prog 66 #[v, .int .i64 q0] w fun e w' => e = .returned (.int .i64 (q0 + 5 * (n : Int))) ∧ SlF w' 93 5 lo hi v n (secs (markSecs q0)) ∧ Turned w w' (· = 93) lo hi := by
  obtain ⟨ao, cap, rfl, h0⟩ := h
  rcases h0 with rfl | ⟨g, m, f, rfl, a1, a2, h2, h1, _⟩
  · go_enter Try.func66, Try.ntmps66
    go_wp2
    refine wp_loop_rounds 1 ?_
    rw [rounds_succ]
    go_wp2
    go_ret
    exact ⟨by simp, ⟨ao, cap, rfl, .inl rfl⟩, Turned.refl _ _ _ _⟩
  · go_enter Try.func66, Try.ntmps66
    go_wp2
    go_loopw [1, 5] (fun q i wr => ∃ k : Nat, k ≤ n ∧ i = .int .i64 k ∧ q = .int .i64 (q0 + 5 * (k : Int)) ∧ Blk wr g 93 m (mark5 q0 k f) ∧ w.grownBy wr (some g)) (fun _ i _ => n - (intOf i).toNat)
    case atStart => exact ⟨0, Nat.zero_le _, rfl, by simp, h1.congr (fun i _ => by simp [mark5]), World.grownBy.refl _ _⟩
    case round =>
      obtain ⟨k, hk, rfl, rfl, hB, hG⟩ := hrel
      by_cases hlt : k < n
      · obtain ⟨c0, c1, c2, c3, c4⟩ := mark5_cells hB h2 hlt
        have z0 := hB.frozen (k * 5)
        have z1 := hB.frozen (k * 5 + 1)
        have z2 := hB.frozen (k * 5 + 2)
        have z3 := hB.frozen (k * 5 + 3)
        have z4 := hB.frozen (k * 5 + 4)
        clear h1
        go_wp2
        go_roundw
        case rel => exact ⟨k + 1, by omega, by go_num, by go_num, (((((hB.set (k * 5) _).set (k * 5 + 1) _).set (k * 5 + 2) _).set (k * 5 + 3) _).set (k * 5 + 4) _).congr (fun c _ => mark5_step q0 k f c), grown_set (grown_set (grown_set (grown_set (grown_set hG _) _) _) _) _⟩
        case measure => simp [intOf]; omega
      · go_wp2
        go_ret
        have : k = n := by omega
        subst this
        refine ⟨rfl, ⟨_, cap, rfl, .inr ⟨g, m, _, rfl, a1, a2, h2, hB, fun i hi j hj => ?_⟩⟩, Turned.of_grown hG a1 a2 rfl h1⟩
        have := idx_lt hi hj
        simp only [mark5, this, if_true, idx_div hj, idx_mod hj]; rfl

def markB (q0 : Int) (i : Nat) : Bool := (q0 + (i : Int)) % 3 == 0
def mark1 (q0 : Int) (k : Nat) (f : Nat → Value) : Nat → Value := fun c => if c < k then .bool (markB q0 c) else f c
theorem mark1_step (q0 : Int) (k : Nat) (f : Nat → Value) (c : Nat) : (if c = k then .bool (markB q0 k) else mark1 q0 k f c) = mark1 q0 (k + 1) f c := by
  unfold mark1
  rcases Nat.lt_trichotomy c k with h | h | h
  · rw [if_neg (by omega), if_pos h, if_pos (by omega)]
  · subst h; rw [if_pos rfl, if_pos (by omega)]
  · rw [if_neg (by omega), if_neg (by omega), if_neg (by omega)]

set_option maxHeartbeats 1000000 in
theorem markBoolS_any (lo hi n : Nat) (v : Value) (q0 : Int) (G : Nat → Nat → Value) (w : World) (hn : n ≤ 1048576) (hq0 : 0 ≤ q0) (hq1 : q0 ≤ 100000000000) (h : SlF w 4 1 lo hi v n G) :
    Calls Try.prog 67 #[v, .int .i64 q0] w fun e w' => e = .returned (.int .i64 (q0 + (n : Int))) ∧ SlF w' 4 1 lo hi v n (bools (markB q0)) ∧ Turned w w' (· = 4) lo hi := by
  obtain ⟨ao, cap, rfl, h0⟩ := h
  rcases h0 with rfl | ⟨g, m, f, rfl, a1, a2, h2, h1, _⟩
  · go_enter Try.func67, Try.ntmps67
    go_wp2
    refine wp_loop_rounds 1 ?_
    rw [rounds_succ]
    go_wp2
    go_ret
    exact ⟨by simp, ⟨ao, cap, rfl, .inl rfl⟩, Turned.refl _ _ _ _⟩
  · go_enter Try.func67, Try.ntmps67
    go_wp2
    go_loopw [1, 5] (fun q i wr => ∃ k : Nat, k ≤ n ∧ i = .int .i64 k ∧ q = .int .i64 (q0 + (k : Int)) ∧ Blk wr g 4 m (mark1 q0 k f) ∧ w.grownBy wr (some g)) (fun _ i _ => n - (intOf i).toNat)
    case atStart => exact ⟨0, Nat.zero_le _, rfl, by simp, h1.congr (fun i _ => by simp [mark1]), World.grownBy.refl _ _⟩
    case round =>
      obtain ⟨k, hk, rfl, rfl, hB, hG⟩ := hrel
      by_cases hlt : k < n
      · have c0 := hB.cell (i := k) (by omega)
        have z0 := hB.frozen k
        clear h1
        go_wp2
        go_roundw
        case rel => exact ⟨k + 1, by omega, by go_num, by go_num, (hB.set k _).congr (fun c _ => mark1_step q0 k f c), grown_set hG _⟩
        case measure => simp [intOf]; omega
      · go_wp2
        go_ret
        have : k = n := by omega
        subst this
        refine ⟨rfl, ⟨_, cap, rfl, .inr ⟨g, m, _, rfl, a1, a2, h2, hB, fun i hi j hj => ?_⟩⟩, Turned.of_grown hG a1 a2 rfl h1⟩
        have : j = 0 := by omega
        subst this
        simp [mark1, bools, hi]

set_option maxHeartbeats 1000000 in
theorem heldSectionS_any (lo hi n : Nat) (v : Value) (q0 : Int) (w : World) (hn : n ≤ 1048576) (hq0 : 0 ≤ q0) (hq1 : q0 ≤ 100000000000) (h : SlF w 93 5 lo hi v n (secs (markSecs q0))) :
    Calls Try.prog 78 #[v, .int .i64 q0] w fun e w' => e = .returned (.int .i64 (q0 + 5 * (n : Int))) ∧ Below w.heap.size w w' := by
  obtain ⟨ao, cap, rfl, h0⟩ := h
  go_enter Try.func78, Try.ntmps78
  go_wp2
  go_loopw [1, 5] (fun q i wr => ∃ k : Nat, k ≤ n ∧ i = .int .i64 k ∧ q = .int .i64 (q0 + 5 * (k : Int)) ∧ Below w.heap.size w wr) (fun _ i _ => n - (intOf i).toNat)
  case atStart => exact ⟨0, Nat.zero_le _, rfl, by simp, Below.refl _ _⟩
  case round =>
    obtain ⟨k, hk, rfl, rfl, hbel⟩ := hrel
    by_cases hlt : k < n
    · rcases h0 with h0 | ⟨g, m, f, rfl, _, _, h2, h3, h4⟩
      · omega
      obtain ⟨c0, c1, c2, c3, c4⟩ := five (h3.below hbel h3.lt) h2 hlt h4
      simp only [markSecs, markSec] at c0 c1 c2 c3 c4
      clear h3 h4
      go_wp2
      go_roundw
      case rel => exact ⟨k + 1, by omega, by go_num, by go_num, hbel⟩
      case measure => simp [intOf]; omega
    · go_wp2
      go_ret
      have : k = n := by omega
      subst this
      exact ⟨rfl, hbel⟩

set_option maxHeartbeats 1000000 in
theorem heldBoolS_any (lo hi n : Nat) (v : Value) (q0 : Int) (w : World) (hn : n ≤ 1048576) (hq0 : 0 ≤ q0) (hq1 : q0 ≤ 100000000000) (h : SlF w 4 1 lo hi v n (bools (markB q0))) :
    Calls Try.prog 79 #[v, .int .i64 q0] w fun e w' => e = .returned (.int .i64 (q0 + (n : Int))) ∧ Below w.heap.size w w' := by
  obtain ⟨ao, cap, rfl, h0⟩ := h
  go_enter Try.func79, Try.ntmps79
  go_wp2
  go_loopw [1, 5] (fun q i wr => ∃ k : Nat, k ≤ n ∧ i = .int .i64 k ∧ q = .int .i64 (q0 + (k : Int)) ∧ Below w.heap.size w wr) (fun _ i _ => n - (intOf i).toNat)
  case atStart => exact ⟨0, Nat.zero_le _, rfl, by simp, Below.refl _ _⟩
  case round =>
    obtain ⟨k, hk, rfl, rfl, hbel⟩ := hrel
    by_cases hlt : k < n
    · rcases h0 with h0 | ⟨g, m, f, rfl, _, _, h2, h3, h4⟩
      · omega
      have c0 := one (h3.below hbel h3.lt) h2 hlt h4
      simp only [markB] at c0
      clear h3 h4
      go_wp2
      go_roundw
      case rel => exact ⟨k + 1, by omega, by go_num, by go_num, hbel⟩
      case measure => simp [intOf]; omega
    · go_wp2
      go_ret
      have : k = n := by omega
      subst this
      exact ⟨rfl, hbel⟩

/-- what stands in a state behind marking from q on -/
def MkF (w : World) (lo hi : Nat) (v : Value) (ok : Bool) (ns nd : Nat) (q : Int) : Prop := StF w lo hi v ok ns nd (markSecs q) (markB (q + 5 * (ns : Int)))

def isSt (e : Nat) : Prop := e = 93 ∨ e = 4

set_option maxHeartbeats 1000000 in
theorem markState_any (lo hi ns nd : Nat) (v : Value) (ok : Bool) (q0 : Int) (X : Nat → Sec) (D : Nat → Bool) (w : World) (hs : ns ≤ 1048576) (hd : nd ≤ 1048576) (hq0 : 0 ≤ q0) (hq1 : q0 ≤ 10000000000) (h : StF w lo hi v ok ns nd X D) :
    Calls Try.prog 22 #[v, .int .i64 q0] w fun e w' => e = .returned (.int .i64 (q0 + 5 * (ns : Int) + (nd : Int))) ∧ MkF w' lo hi v ok ns nd q0 ∧ Turned w w' isSt lo hi := by
  obtain ⟨v1, v2, rfl, h1, h2⟩ := h
  go_enter Try.func22, Try.ntmps22
  go_wp2_with fail
  refine (markSectionS_any lo hi ns _ q0 (secs X) _ hs hq0 (by omega) (h1.alloc _)).mono ?_
  rintro e w1 ⟨rfl, k1, t1⟩
  have k2 := (h2.alloc _).turned t1 (.inl (by decide))
  have cb : Blk _ w.heap.size 44 _ _ := (Blk.new w #[.bool ok, v1, v2] 44 (fun i => #[.bool ok, v1, v2][i]!) (fun i hi => by simp at hi; match i, hi with | 0, _ => rfl | 1, _ => rfl | 2, _ => rfl)).turned t1 (.inl (by decide))
  have c2 : w1.cell? ⟨w.heap.size, 2, none⟩ = some v2 := cb.cell (by simp)
  have T1 : Turned w w1 isSt lo hi := (Turned.of_below (below_alloc (Below.refl _ _) _)).trans (t1.mono (fun e he => .inl he) (Nat.le_refl _) (Nat.le_refl _))
  clear h1 h2 t1 cb
  go_wp2_with fail
  refine (markBoolS_any lo hi nd _ _ (bools D) _ hd (by omega) (by omega) k2).mono ?_
  rintro e w2 ⟨rfl, k3, t2⟩
  go_wp2
  go_ret
  exact ⟨rfl, ⟨v1, v2, rfl, k1.turned t2 (.inl (by decide)), k3⟩, T1.trans (t2.mono (fun e he => .inr he) (Nat.le_refl _) (Nat.le_refl _))⟩

set_option maxHeartbeats 1000000 in
theorem heldState_any (lo hi ns nd : Nat) (v : Value) (ok : Bool) (q0 : Int) (w : World) (hs : ns ≤ 1048576) (hd : nd ≤ 1048576) (hq0 : 0 ≤ q0) (hq1 : q0 ≤ 10000000000) (h : MkF w lo hi v ok ns nd q0) :
    Calls Try.prog 68 #[v, .int .i64 q0] w fun e w' => e = .returned (.int .i64 (q0 + 5 * (ns : Int) + (nd : Int))) ∧ Below w.heap.size w w' := by
  obtain ⟨v1, v2, rfl, h1, h2⟩ := h
  go_enter Try.func68, Try.ntmps68
  go_wp2_with fail
  refine (heldSectionS_any lo hi ns _ q0 _ hs hq0 (by omega) (h1.alloc _)).mono ?_
  rintro e w1 ⟨rfl, hb1⟩
  obtain ⟨p1, p2⟩ := bcell hb1
  have B1 := below_on (show Below w.heap.size w _ from (by repeat (first | exact Below.refl _ _ | assumption | refine below_alloc ?_ _ | refine Below.setCell ?_ (by first | omega | (simp; done) | (simp; omega)) _ | refine Below.alloc ?_ (by first | omega | (simp; done) | (simp; omega)) _ | refine Below.drew ?_))) hb1
  have k2 := h2.on B1
  have p : 0 ≤ q0 + 5 * (ns : Int) := by omega
  clear h1 h2 hb1
  go_wp2_with fail
  refine (heldBoolS_any lo hi nd _ _ _ hd (by omega) (by omega) k2).mono ?_
  rintro e w2 ⟨rfl, hb2⟩
  have p' : 0 ≤ q0 + 5 * (ns : Int) + (nd : Int) := by omega
  go_wp2
  go_ret
  exact ⟨rfl, below_on B1 hb2⟩

end Go.Proofs.Ytlpopfhaephfaab
