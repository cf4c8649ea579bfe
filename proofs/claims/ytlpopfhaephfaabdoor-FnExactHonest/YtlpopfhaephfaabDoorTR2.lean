import Derived.Test.YtlpopfhaephfaabDoorHS
import Derived.Test.YtlpopfhaephfaabDoorEV2
import Derived.Test.YtlpopfhaephfaabDoorRE1
namespace Go.Proofs.YtlpopfhaephfaabDoor
open Go.RowKit

/-- how many are in each section behind an event -/
def stepZ (S : Int) (n : Nat) (F T : Nat → Int) (Z : Nat → Int) (op f d : Int) : Nat → Int :=
  if evB S n op f d = true ∧ op = 1 then (fun s => Z s - (if fromZ F T f.toNat d = (s : Int) then 1 else 0) + (if toZ F T f.toNat d = (s : Int) then 1 else 0)) else Z

def trZ (S : Int) (n : Nat) (F T : Nat → Int) (P : Nat → Nat → Int) : Nat → Nat → Int
  | 0 => fun _ => 0
  | k + 1 => stepZ S n F T (trZ S n F T P k) (P k 0) (P k 1) (P k 2)

theorem stepZ_bound {S : Int} {n : Nat} {F T Z : Nat → Int} {op f d : Int} {s : Nat} {b : Int} (h : -b ≤ Z s ∧ Z s ≤ b) : -(b + 1) ≤ stepZ S n F T Z op f d s ∧ stepZ S n F T Z op f d s ≤ b + 1 := by
  unfold stepZ
  split
  · dsimp only
    split <;> split <;> omega
  · omega

theorem trZ_bound (S : Int) (n : Nat) (F T : Nat → Int) (P : Nat → Nat → Int) (k s : Nat) : -(k : Int) ≤ trZ S n F T P k s ∧ trZ S n F T P k s ≤ (k : Int) := by
  induction k with
  | zero => simp [trZ]
  | succ k ih =>
    have := stepZ_bound (S := S) (n := n) (F := F) (T := T) (op := P k 0) (f := P k 1) (d := P k 2) ih
    simp only [trZ]
    omega

/-- numbers in a block -/
def IntB (w : World) (b n : Nat) (Z : Nat → Int) : Prop := Blk w b 3 n (fun i => .int .i64 (Z i))

theorem IntB.set {w : World} {b n : Nat} {Z : Nat → Int} (h : IntB w b n Z) (j : Nat) (x : Int) : IntB (w.setCell ⟨b, j, none⟩ (.int .i64 x)) b n (fun i => if i = j then x else Z i) :=
  (Blk.set h j (.int .i64 x)).congr fun i _ => by
    by_cases e : i = j
    · simp [e]
    · simp [e]

theorem IntB.turn {w : World} {b n : Nat} {Z : Nat → Int} (h : IntB w b n Z) (j : Nat) (x : Value) : Turned w (w.setCell ⟨b, j, none⟩ x) (· = 3) b (b + 1) :=
  Turned.of_grown (grown_set (World.grownBy.refl _ _) _) (Nat.le_refl _) (by omega) rfl h

set_option maxRecDepth 100000 in
set_option maxHeartbeats 2000000 in
theorem move_axle (S d : Int) (g n ns rb f : Nat) (F T Z : Nat → Int) (w : World) (hn : n ≤ 120) (hev : evB S n 1 (f : Int) d = true) (hf : f < n) (hd : d = 1 ∨ d = -1) (hs : -1 ≤ fromZ F T f d ∧ fromZ F T f d < (ns : Int) ∧ -1 ≤ toZ F T f d ∧ toZ F T f d < (ns : Int)) (hne : fromZ F T f d ≠ toZ F T f d)
    (hrow : Row w g 81 2 n (two F T)) (hb : IntB w rb ns Z) (hZ : ∀ s, s < ns → -2000000 ≤ Z s ∧ Z s ≤ 2000000) :
    Calls Tryd.prog 63 #[.agg #[.int .i64 S, .slice (some ⟨g, 0, none⟩) n n], .slice (some ⟨rb, 0, none⟩) ns ns, .agg #[.int .i64 1, .int .i64 (f : Int), .int .i64 d]] w fun e w' => (∃ v, e = .returned v) ∧ IntB w' rb ns (fun s => Z s - (if fromZ F T f d = (s : Int) then 1 else 0) + (if toZ F T f d = (s : Int) then 1 else 0)) ∧ Turned w w' (· = 3) rb (rb + 1) := by
  have eI : hapI S n 1 (f : Int) d = .iface 131 (.agg #[.int .i64 (f : Int), .int .i64 d]) := by unfold hapI; rw [hev]; simp [hapV, hd]
  have kh := fun W => happensIn_any S 1 (f : Int) d n g W hn
  rw [eI] at kh
  have as_axlePasses : ∀ (v : Value) (W : World), (Instr.typeAssert (.iface 131 v) 69 131 true).run Tryd.prog W = .ok (.tuple #[v, .bool true]) W := fun _ _ => by kernel_rfl
  have ks := fun W (hW : Below w.heap.size w W) => sides_any S d g n f F T W hf (hrow.on hW)
  obtain ⟨a, ea⟩ : ∃ a, fromZ F T f d = a := ⟨_, rfl⟩
  obtain ⟨b, eb⟩ : ∃ b, toZ F T f d = b := ⟨_, rfl⟩
  rw [ea, eb] at hs hne
  simp only [ea, eb] at ks ⊢
  clear ea eb eI
  go_enter Tryd.func63, Tryd.ntmps63
  go_wp2_with fail
  refine (kh _).mono ?_
  rintro e w1 ⟨rfl, hb1⟩
  have B1 := below_on (show Below w.heap.size w _ from (by repeat (first | exact Below.refl _ _ | assumption | refine below_alloc ?_ _ | refine Below.setCell ?_ (by first | omega | (simp; done) | (simp; omega)) _ | refine Below.alloc ?_ (by first | omega | (simp; done) | (simp; omega)) _ | refine Below.drew ?_))) hb1
  have z1 : w.heap.size + 1 < w1.heap.size := by have := hb1.size; simp at this; omega
  have y0 : w1.cell? ⟨w.heap.size, 0, none⟩ = some (.int .i64 S) := (hb1.cell (p := ⟨w.heap.size, 0, none⟩) (by first | omega | (simp; done) | (simp; omega))).trans (by simp)
  have y1 : w1.cell? ⟨w.heap.size, 1, none⟩ = some (.slice (some ⟨g, 0, none⟩) n n) := (hb1.cell (p := ⟨w.heap.size, 1, none⟩) (by first | omega | (simp; done) | (simp; omega))).trans (by simp)
  have z0 : w.heap.size < w1.heap.size := by omega
  clear hb1
  go_wp2_with fail
  refine (ks _ (below_alloc B1 _)).mono ?_
  rintro e w2 ⟨rfl, hb2⟩
  have B2 := below_on (below_alloc B1 _) hb2
  have b2 : IntB w2 rb ns Z := Blk.on hb B2
  clear hb2 B1 y0 y1
  rcases (show a = -1 ∨ 0 ≤ a by omega) with rfl | ha
  · rcases (show b = -1 ∨ 0 ≤ b by omega) with rfl | hb0
    · omega
    · obtain ⟨j, rfl⟩ : ∃ j : Nat, b = (j : Int) := ⟨b.toNat, by omega⟩
      have hj : j < ns := by omega
      have hj' : (j : Int) < (ns : Int) := by omega
      have c1 := Blk.cell b2 hj
      have q1 := Blk.frozen b2 j
      obtain ⟨x, ex⟩ : ∃ x, Z j = x := ⟨_, rfl⟩
      have hx := hZ j hj
      rw [ex] at c1 hx
      go_wp2
      go_end0
      refine ⟨⟨_, rfl⟩, (b2.set j (x + 1)).congr (fun i hi => ?_), (Turned.of_below B2).trans (b2.turn j _)⟩
      by_cases e : i = j
      · subst e; simp [ex]
      · have e' : ¬ (j : Int) = (i : Int) := by omega
        have e2 : ¬ (-1 : Int) = (i : Int) := by omega
        simp [e, e', e2]
  · obtain ⟨i0, rfl⟩ : ∃ j : Nat, a = (j : Int) := ⟨a.toNat, by omega⟩
    have hi0 : i0 < ns := by omega
    have hi0' : (i0 : Int) < (ns : Int) := by omega
    have ha1 : ¬ (i0 : Int) = -1 := by omega
    have c1 := Blk.cell b2 hi0
    have q1 := Blk.frozen b2 i0
    obtain ⟨x, ex⟩ : ∃ x, Z i0 = x := ⟨_, rfl⟩
    have hx := hZ i0 hi0
    rw [ex] at c1 hx
    have s3 := b2.set i0 (x - 1)
    have t3 := b2.turn i0 (.int .i64 (x - 1))
    rcases (show b = -1 ∨ 0 ≤ b by omega) with rfl | hb0
    · have S3 : Hid _ := s3
      have T3 : Hid _ := t3
      clear s3 t3
      go_wp2
      go_end0
      refine ⟨⟨_, rfl⟩, Blk.congr S3.out (fun i hi => ?_), (Turned.of_below B2).trans T3.out⟩
      by_cases e : i = i0
      · subst e
        have e2 : ¬ (-1 : Int) = (i : Int) := by omega
        simp [ex, e2]
      · have e' : ¬ (i0 : Int) = (i : Int) := by omega
        have e2 : ¬ (-1 : Int) = (i : Int) := by omega
        simp [e, e', e2]
    · obtain ⟨j, rfl⟩ : ∃ j : Nat, b = (j : Int) := ⟨b.toNat, by omega⟩
      have hj : j < ns := by omega
      have hj' : (j : Int) < (ns : Int) := by omega
      have hb1 : ¬ (j : Int) = -1 := by omega
      have hij : ¬ j = i0 := by omega
      have hji : ¬ i0 = j := by omega
      have c2 := Blk.cell b2 hj
      obtain ⟨y, ey⟩ : ∃ y, Z j = y := ⟨_, rfl⟩
      have hy := hZ j hj
      rw [ey] at c2 hy
      have q2 := Blk.frozen b2 j
      have s4 := s3.set j (y + 1)
      have t4 := s3.turn j (.int .i64 (y + 1))
      have S4 : Hid _ := s4
      have T4 : Hid _ := t3.trans t4
      clear s3 t3 s4 t4
      go_wp2
      go_end0
      refine ⟨⟨_, rfl⟩, Blk.congr S4.out (fun i hi => ?_), (Turned.of_below B2).trans T4.out⟩
      by_cases e : i = j
      · subst e
        have hji' : ¬ (i0 : Int) = (i : Int) := by omega
        simp [ey, hji']
      · have e' : ¬ (j : Int) = (i : Int) := by omega
        by_cases e3 : i = i0
        · subst e3
          simp [e, e', ex]
        · have e4 : ¬ (i0 : Int) = (i : Int) := by omega
          simp [e, e', e3, e4]

set_option maxRecDepth 100000 in
set_option maxHeartbeats 2000000 in
theorem move_other (S op f d : Int) (g n ns rb : Nat) (Z : Nat → Int) (w : World) (hn : n ≤ 120) (hno : ¬ (evB S n op f d = true ∧ op = 1)) (hb : IntB w rb ns Z) :
    Calls Tryd.prog 63 #[.agg #[.int .i64 S, .slice (some ⟨g, 0, none⟩) n n], .slice (some ⟨rb, 0, none⟩) ns ns, .agg #[.int .i64 op, .int .i64 f, .int .i64 d]] w fun e w' => (∃ v, e = .returned v) ∧ IntB w' rb ns Z ∧ Turned w w' (· = 3) rb (rb + 1) := by
  have k1 : ∀ (W : World), (Instr.typeAssert .nilIface 69 131 true).run Tryd.prog W = .ok (.tuple #[.agg #[.int .i64 0, .int .i64 0], .bool false]) W := fun _ => by kernel_rfl
  have k2 : ∀ (W : World), (Instr.typeAssert (.iface 132 (.agg #[.int .i64 f, .int .i64 d])) 69 131 true).run Tryd.prog W = .ok (.tuple #[.agg #[.int .i64 0, .int .i64 0], .bool false]) W := fun _ => by kernel_rfl
  have k3 : ∀ (W : World), (Instr.typeAssert (.iface 134 (.agg #[.int .i64 f])) 69 131 true).run Tryd.prog W = .ok (.tuple #[.agg #[.int .i64 0, .int .i64 0], .bool false]) W := fun _ => by kernel_rfl
  have k4 : ∀ (W : World), (Instr.typeAssert (.iface 135 (.agg #[.int .i64 f])) 69 131 true).run Tryd.prog W = .ok (.tuple #[.agg #[.int .i64 0, .int .i64 0], .bool false]) W := fun _ => by kernel_rfl
  have k5 : ∀ (W : World), (Instr.typeAssert (.iface 113 (.agg #[.int .i64 f])) 69 131 true).run Tryd.prog W = .ok (.tuple #[.agg #[.int .i64 0, .int .i64 0], .bool false]) W := fun _ => by kernel_rfl
  have no : ∀ (W : World), (Instr.typeAssert (hapI S n op f d) 69 131 true).run Tryd.prog W = .ok (.tuple #[.agg #[.int .i64 0, .int .i64 0], .bool false]) W := fun W => by
    have hv : hapI S n op f d = .nilIface ∨ hapI S n op f d = .iface 132 (.agg #[.int .i64 f, .int .i64 d]) ∨ hapI S n op f d = .iface 134 (.agg #[.int .i64 f]) ∨ hapI S n op f d = .iface 135 (.agg #[.int .i64 f]) ∨ hapI S n op f d = .iface 113 (.agg #[.int .i64 f]) := by
      unfold hapI
      cases hev : evB S n op f d
      · exact .inl rfl
      · have h1 : ¬ op = 1 := fun h => hno ⟨hev, h⟩
        unfold hapV
        rw [if_pos rfl, if_neg h1]
        by_cases h2 : d = 1 ∨ d = -1
        · rw [if_pos h2]
          by_cases h3 : op = 2
          · rw [if_pos h3]; exact .inr (.inl rfl)
          · rw [if_neg h3]; exact .inl rfl
        · rw [if_neg h2]
          by_cases h3 : d = 0
          · rw [if_pos h3]
            by_cases h4 : op = 3
            · rw [if_pos h4]; exact .inr (.inr (.inl rfl))
            · rw [if_neg h4]
              by_cases h5 : op = 4
              · rw [if_pos h5]; exact .inr (.inr (.inr (.inl rfl)))
              · rw [if_neg h5]
                by_cases h6 : op = 5
                · rw [if_pos h6]; exact .inr (.inr (.inr (.inr rfl)))
                · rw [if_neg h6]; exact .inl rfl
          · rw [if_neg h3]; exact .inl rfl
    rcases hv with hv | hv | hv | hv | hv
    · rw [hv]; exact k1 W
    · rw [hv]; exact k2 W
    · rw [hv]; exact k3 W
    · rw [hv]; exact k4 W
    · rw [hv]; exact k5 W
  have kh := fun W => happensIn_any S op f d n g W hn
  obtain ⟨v, ev⟩ : ∃ v, hapI S n op f d = v := ⟨_, rfl⟩
  rw [ev] at kh
  simp only [ev] at no
  clear ev k1 k2 k3 k4 k5
  go_enter Tryd.func63, Tryd.ntmps63
  go_wp2_with fail
  refine (kh _).mono ?_
  rintro e w1 ⟨rfl, hb1⟩
  have B1 := below_on (show Below w.heap.size w _ from (by repeat (first | exact Below.refl _ _ | assumption | refine below_alloc ?_ _ | refine Below.setCell ?_ (by first | omega | (simp; done) | (simp; omega)) _ | refine Below.alloc ?_ (by first | omega | (simp; done) | (simp; omega)) _ | refine Below.drew ?_))) hb1
  go_wp2
  refine bodyPost_ret (results_none rfl _ _ _) rfl ?_
  exact ⟨⟨_, rfl⟩, Blk.on hb (below_alloc B1 _), Turned.of_below (below_alloc B1 _)⟩

theorem move_any (S op f d : Int) (g n ns rb : Nat) (F T Z : Nat → Int) (w : World) (hl : lokZ S n F T = 0) (hS : (ns : Int) = S) (hrow : Row w g 81 2 n (two F T)) (hb : IntB w rb ns Z) (hZ : ∀ s, s < ns → -2000000 ≤ Z s ∧ Z s ≤ 2000000) :
    Calls Tryd.prog 63 #[.agg #[.int .i64 S, .slice (some ⟨g, 0, none⟩) n n], .slice (some ⟨rb, 0, none⟩) ns ns, .agg #[.int .i64 op, .int .i64 f, .int .i64 d]] w fun e w' => (∃ v, e = .returned v) ∧ IntB w' rb ns (stepZ S n F T Z op f d) ∧ Turned w w' (· = 3) rb (rb + 1) := by
  obtain ⟨r1, r2, r3⟩ := lok_range hl
  unfold stepZ
  by_cases hno : evB S n op f d = true ∧ op = 1
  · rw [if_pos hno]
    obtain ⟨hev, rfl⟩ := hno
    have h := hev
    unfold evB at h
    rw [if_pos (.inl rfl)] at h
    simp only [decide_eq_true_eq] at h
    obtain ⟨h1, h2, hd⟩ := h
    obtain ⟨k, rfl⟩ : ∃ k : Nat, f = (k : Int) := ⟨f.toNat, by omega⟩
    have hk : k < n := by omega
    have hs := lok_sides hl k hk
    simp only [Int.toNat_natCast]
    refine move_axle S d g n ns rb k F T Z w r3 hev hk hd ?_ ?_ hrow hb hZ
    · unfold fromZ toZ; split <;> omega
    · unfold fromZ toZ; split <;> omega
  · rw [if_neg hno]
    exact move_other S op f d g n ns rb Z w r3 hno hb

end Go.Proofs.YtlpopfhaephfaabDoor
