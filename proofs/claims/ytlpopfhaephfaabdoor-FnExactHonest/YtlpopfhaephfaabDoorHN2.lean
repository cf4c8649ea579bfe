import Derived.Test.YtlpopfhaephfaabDoorTR6
import Derived.Test.YtlpopfhaephfaabDoorHN1
namespace Go.Proofs.YtlpopfhaephfaabDoor
open Go.RowKit

/-- an error that is none, or one of the four -/
def errV (a : Nat → Addr) : Option Nat → Value
  | none => .nilIface
  | some i => .iface 193 (.pointer (some (a i)))

/-- The four errors at package level, as they were laid. -/
structure Snt (W : World) (a : Nat → Addr) : Prop where
  cell : ∀ i, i < 4 → W.cell? ⟨i, 0, none⟩ = some (.iface 193 (.pointer (some (a i))))
  blk : ∀ i, i < 4 → ∃ c t, W.heap[(a i).block]? = some (.cells c t (0, 0))
  ne : ∀ i j, i < 4 → j < 4 → i ≠ j → a i ≠ a j

theorem Snt.on {W W' : World} {a : Nat → Addr} (h : Snt W a) (hb : Below W.heap.size W W') : Snt W' a :=
  ⟨fun i hi => (hb.cell (p := ⟨i, 0, none⟩) (World.block_lt_of_cell? W _ (h.cell i hi))).trans (h.cell i hi),
   fun i hi => by obtain ⟨c, t, hc⟩ := h.blk i hi; exact ⟨c, t, (hb.block _ (Array.getElem?_eq_some_iff.1 hc).1).trans hc⟩, h.ne⟩

/-- why an event lies, the row behind it being given -/
def lieE (S : Int) (n ns : Nat) (Z : Nat → Int) (op f d : Int) : Option Nat :=
  if evB S n op f d = false then some 1 else if op = 5 ∧ ¬ Z f.toNat = 0 then some 2 else if (List.range ns).any (fun s => decide (Z s < 0)) then some 3 else none

theorem min_one (Z : Nat → Int) : Z 0 < 0 ↔ ∃ s, s < 1 ∧ Z s < 0 := by
  constructor
  · exact fun h => ⟨0, by omega, h⟩
  · rintro ⟨s, h1, h2⟩
    have h0 : s = 0 := by omega
    rw [h0] at h2
    exact h2
theorem min_step {Z : Nat → Int} {k : Nat} {z y x : Int} (hz : z < 0 ↔ ∃ s, s < k ∧ Z s < 0) (ey : Z k = y) (hx : (x < 0 ↔ z < 0 ∨ y < 0)) : x < 0 ↔ ∃ s, s < k + 1 ∧ Z s < 0 := by
  rw [hx, hz]
  constructor
  · rintro (⟨s, h1, h2⟩ | h)
    · exact ⟨s, by omega, h2⟩
    · exact ⟨k, by omega, by rw [ey]; exact h⟩
  · rintro ⟨s, h1, h2⟩
    rcases (show s < k ∨ s = k by omega) with h | h
    · exact .inl ⟨s, h, h2⟩
    · subst h; right; rw [← ey]; exact h2

set_option maxHeartbeats 1000000 in
theorem minS_any (rb ns : Nat) (Z : Nat → Int) (w : World) (hp : 0 < ns) (hn : ns ≤ 60) (hb : IntB w rb ns Z) :
    Calls Tryd.prog 64 #[.slice (some ⟨rb, 0, none⟩) ns ns] w fun e w' => ∃ z, e = .returned (.int .i64 z) ∧ (z < 0 ↔ (List.range ns).any (fun s => decide (Z s < 0)) = true) ∧ w' = w := by
  have c0 := Blk.cell hb hp
  have hp' : ¬ (ns : Int) < 1 := by omega
  have hp1 : (0 : Int) < (ns : Int) := by omega
  go_enter Tryd.func64, Tryd.ntmps64
  go_wp2
  go_loopw [3, 4] (fun q i wr => ∃ (k : Nat) (z : Int), 1 ≤ k ∧ k ≤ ns ∧ i = .int .i64 k ∧ q = .int .i64 z ∧ (z < 0 ↔ ∃ s, s < k ∧ Z s < 0) ∧ wr = w) (fun _ i _ => ns - (intOf i).toNat)
  case atStart => exact ⟨1, Z 0, Nat.le_refl _, hp, rfl, rfl, min_one Z, rfl⟩
  case round =>
    obtain ⟨k, z, hk1, hk, rfl, rfl, hz, rfl⟩ := hrel
    by_cases hlt : k < ns
    · have ck := Blk.cell hb hlt
      have hk2 : (k : Int) < (ns : Int) := by omega
      obtain ⟨y, ey⟩ : ∃ y, Z k = y := ⟨_, rfl⟩
      simp only [ey] at ck
      have HZ : Hid _ := hz
      have EY : Hid _ := ey
      clear hz ey c0
      by_cases hyz : y < z
      · go_wp2
        go_roundw
        case rel => exact ⟨k + 1, y, by omega, by omega, by go_num, rfl, min_step HZ.out EY.out (by omega), trivial⟩
        case measure => simp [intOf]; omega
      · go_wp2
        go_roundw
        case rel => exact ⟨k + 1, z, by omega, by omega, by go_num, rfl, min_step HZ.out EY.out (by omega), trivial⟩
        case measure => simp [intOf]; omega
    · have : k = ns := by omega
      subst this
      go_wp2
      go_ret
      refine ⟨z, rfl, ?_, rfl⟩
      rw [hz, List.any_eq_true]
      simp

set_option maxRecDepth 100000 in
set_option maxHeartbeats 2000000 in
theorem lieAt_any (S op f d : Int) (g n ns rb : Nat) (Z : Nat → Int) (a : Nat → Addr) (w : World) (hn : n ≤ 120) (hp : 0 < ns) (hs : ns ≤ 60) (hS : (ns : Int) = S) (hb : IntB w rb ns Z) (ha : Snt w a) :
    Calls Tryd.prog 48 #[.agg #[.int .i64 S, .slice (some ⟨g, 0, none⟩) n n], .agg #[.int .i64 op, .int .i64 f, .int .i64 d], .slice (some ⟨rb, 0, none⟩) ns ns] w fun e w' => e = .returned (errV a (lieE S n ns Z op f d)) ∧ Below w.heap.size w w' := by
  have kh := fun W => happensIn_any S op f d n g W hn
  have G := fun W (hW : Below w.heap.size w W) i (hi : i < 4) => (ha.on hW).cell i hi
  have km := fun W (hW : Below w.heap.size w W) => minS_any rb ns Z W hp hs (Blk.on hb hW)
  have eLB : lieE S n ns Z op f d = if evB S n op f d = false then some 1 else if op = 5 ∧ ¬ Z f.toNat = 0 then some 2 else if (List.range ns).any (fun s => decide (Z s < 0)) then some 3 else none := rfl
  obtain ⟨B, eB⟩ : ∃ B, (List.range ns).any (fun s => decide (Z s < 0)) = B := ⟨_, rfl⟩
  simp only [eB] at km eLB
  rw [eLB]
  clear eLB eB
  cases hev : evB S n op f d
  · have e1 : hapI S n op f d = .nilIface := by unfold hapI; rw [hev]; rfl
    rw [e1] at kh
    rw [if_pos rfl]
    clear e1 hev
    go_enter Tryd.func48, Tryd.ntmps48
    go_wp2_with fail
    refine (kh _).mono ?_
    rintro e w1 ⟨rfl, hb1⟩
    have B1 := below_on (show Below w.heap.size w _ from (by repeat (first | exact Below.refl _ _ | assumption | refine below_alloc ?_ _ | refine Below.setCell ?_ (by first | omega | (simp; done) | (simp; omega)) _ | refine Below.alloc ?_ (by first | omega | (simp; done) | (simp; omega)) _ | refine Below.drew ?_))) hb1
    have c1 := G _ B1 1 (by omega)
    go_wp2
    go_ret
    exact ⟨rfl, B1⟩
  · have e1 : hapI S n op f d = hapV op f d := by unfold hapI; rw [hev]; rfl
    rw [e1] at kh
    by_cases h5 : op = 5
    · subst h5
      unfold evB at hev
      rw [if_neg (by omega), if_neg (by omega), if_pos rfl] at hev
      simp only [decide_eq_true_eq] at hev
      obtain ⟨h1, h2, rfl⟩ := hev
      obtain ⟨k, rfl⟩ : ∃ k : Nat, f = (k : Int) := ⟨f.toNat, by omega⟩
      have hk : k < ns := by omega
      have hk' : (k : Int) < (ns : Int) := by omega
      have v1 : hapV 5 (k : Int) 0 = .iface 113 (.agg #[.int .i64 (k : Int)]) := by simp [hapV]
      rw [v1] at kh
      have as_reset : ∀ (v : Value) (W : World), (Instr.typeAssert (.iface 113 v) 69 113 true).run Tryd.prog W = .ok (.tuple #[v, .bool true]) W := fun _ _ => by kernel_rfl
      rw [if_neg (by decide)]
      simp only [true_and, Int.toNat_natCast]
      clear v1 e1
      obtain ⟨x, ex⟩ : ∃ x, Z k = x := ⟨_, rfl⟩
      have XC := fun W (hW : Below w.heap.size w W) => Blk.cell (Blk.on hb hW) hk
      simp only [ex] at XC ⊢
      have zrb := Blk.lt hb
      clear ex
      by_cases hx : x = 0
      · subst hx
        rw [if_neg (by decide)]
        go_enter Tryd.func48, Tryd.ntmps48
        go_wp2_with fail
        refine (kh _).mono ?_
        rintro e w1 ⟨rfl, hb1⟩
        have B1 := below_on (show Below w.heap.size w _ from (by repeat (first | exact Below.refl _ _ | assumption | refine below_alloc ?_ _ | refine Below.setCell ?_ (by first | omega | (simp; done) | (simp; omega)) _ | refine Below.alloc ?_ (by first | omega | (simp; done) | (simp; omega)) _ | refine Below.drew ?_))) hb1
        have c1 := XC _ B1
        have zr1 : rb < w1.heap.size := by have := B1.size; omega
        go_wp2_with fail
        refine (km _ (below_alloc B1 _)).mono ?_
        rintro e w2 ⟨z, rfl, hz, rfl⟩
        have c3 := G _ (below_alloc B1 (.cells #[.int .i64 (k : Int)] 113)) 3 (by omega)
        cases B
        · have hz0 : ¬ z < 0 := fun h => by cases hz.1 h
          go_wp2
          go_ret
          exact ⟨rfl, below_alloc B1 _⟩
        · have hz0 : z < 0 := hz.2 rfl
          go_wp2
          go_ret
          exact ⟨rfl, below_alloc B1 _⟩
      · rw [if_pos hx]
        have hx' : (x == 0) = false := by simp [hx]
        go_enter Tryd.func48, Tryd.ntmps48
        go_wp2_with fail
        refine (kh _).mono ?_
        rintro e w1 ⟨rfl, hb1⟩
        have B1 := below_on (show Below w.heap.size w _ from (by repeat (first | exact Below.refl _ _ | assumption | refine below_alloc ?_ _ | refine Below.setCell ?_ (by first | omega | (simp; done) | (simp; omega)) _ | refine Below.alloc ?_ (by first | omega | (simp; done) | (simp; omega)) _ | refine Below.drew ?_))) hb1
        have c1 := XC _ B1
        have zr1 : rb < w1.heap.size := by have := B1.size; omega
        have c3 := G _ B1 2 (by omega)
        have z2 : 2 < w1.heap.size := World.block_lt_of_cell? w1 _ c3
        go_wp2
        go_ret
        exact ⟨rfl, below_alloc B1 _⟩
    · rw [if_neg (by decide), if_neg (fun h => h5 h.1)]
      obtain ⟨t, v, hv⟩ := hap_ne hev
      have no : ∀ (W : World), (Instr.typeAssert (hapV op f d) 69 113 true).run Tryd.prog W = .ok (.tuple #[.agg #[.int .i64 0], .bool false]) W := by
        have k1 : ∀ (W : World), (Instr.typeAssert (.iface 131 (.agg #[.int .i64 f, .int .i64 d])) 69 113 true).run Tryd.prog W = .ok (.tuple #[.agg #[.int .i64 0], .bool false]) W := fun _ => by kernel_rfl
        have k2 : ∀ (W : World), (Instr.typeAssert (.iface 132 (.agg #[.int .i64 f, .int .i64 d])) 69 113 true).run Tryd.prog W = .ok (.tuple #[.agg #[.int .i64 0], .bool false]) W := fun _ => by kernel_rfl
        have k3 : ∀ (W : World), (Instr.typeAssert (.iface 134 (.agg #[.int .i64 f])) 69 113 true).run Tryd.prog W = .ok (.tuple #[.agg #[.int .i64 0], .bool false]) W := fun _ => by kernel_rfl
        have k4 : ∀ (W : World), (Instr.typeAssert (.iface 135 (.agg #[.int .i64 f])) 69 113 true).run Tryd.prog W = .ok (.tuple #[.agg #[.int .i64 0], .bool false]) W := fun _ => by kernel_rfl
        have k5 : ∀ (W : World), (Instr.typeAssert .nilIface 69 113 true).run Tryd.prog W = .ok (.tuple #[.agg #[.int .i64 0], .bool false]) W := fun _ => by kernel_rfl
        intro W
        unfold hapV
        by_cases h2 : d = 1 ∨ d = -1
        · rw [if_pos h2]
          by_cases h3 : op = 1
          · rw [if_pos h3]; exact k1 W
          · rw [if_neg h3]
            by_cases h4 : op = 2
            · rw [if_pos h4]; exact k2 W
            · rw [if_neg h4]; exact k5 W
        · rw [if_neg h2]
          by_cases h3 : d = 0
          · rw [if_pos h3]
            by_cases h4 : op = 3
            · rw [if_pos h4]; exact k3 W
            · rw [if_neg h4]
              by_cases h6 : op = 4
              · rw [if_pos h6]; exact k4 W
              · rw [if_neg h6, if_neg h5]; exact k5 W
          · rw [if_neg h3]; exact k5 W
      rw [← e1, hv] at no
      rw [← e1, hv] at kh
      clear hv e1
      go_enter Tryd.func48, Tryd.ntmps48
      go_wp2_with fail
      refine (kh _).mono ?_
      rintro e w1 ⟨rfl, hb1⟩
      have B1 := below_on (show Below w.heap.size w _ from (by repeat (first | exact Below.refl _ _ | assumption | refine below_alloc ?_ _ | refine Below.setCell ?_ (by first | omega | (simp; done) | (simp; omega)) _ | refine Below.alloc ?_ (by first | omega | (simp; done) | (simp; omega)) _ | refine Below.drew ?_))) hb1
      go_wp2_with fail
      refine (km _ (below_alloc B1 _)).mono ?_
      rintro e w2 ⟨z, rfl, hz, rfl⟩
      have c3 := G _ (below_alloc B1 (.cells #[.int .i64 0] 113)) 3 (by omega)
      cases B
      · have hz0 : ¬ z < 0 := fun h => by cases hz.1 h
        go_wp2
        go_ret
        exact ⟨rfl, below_alloc B1 _⟩
      · have hz0 : z < 0 := hz.2 rfl
        go_wp2
        go_ret
        exact ⟨rfl, below_alloc B1 _⟩

end Go.Proofs.YtlpopfhaephfaabDoor
