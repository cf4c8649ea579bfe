import Derived.Test.YtlpopfhaephfaaaDoorCR
import Derived.Test.YtlpopfhaephfaaaDoorDM3
import Derived.Test.YtlpopfhaephfaaaDoorEV2
import Derived.Test.YtlpopfhaephfaaaDoorRE1
import Derived.RangeFuncOwn
import Derived.RangeFuncLeaves
import Derived.RangeFuncRecord
import Derived.Test.YtlpopfhaephfaaaDoorST2
import Derived.RangeFuncBound
import Derived.RangeFuncCalls
import Derived.Shelf.Abstract
import Derived.Shelf.RegionOpen
import Derived.WalkKit
import Derived.OwnWalkIn
import Derived.TacticsInMore
import Derived.LoopNIn
import Derived.LoopIn
import Derived.Test.YtlpopfhaephfaaaDoorDM7
import Derived.Test.YtlpopfhaephfaaaDoorRN4
import Derived.Test.YtlpopfhaephfaaaDoorW1
import Derived.LaidEql
import Derived.Stop.Asserts
namespace Go.Proofs.YtlpopfhaephfaaaDoor
open Go.RowKit Go.Maps Go.Sort

/-- how many are in each section behind an event -/
def stepZ (S : Int) (n : Nat) (F T : Nat → Int) (Z : Nat → Int) (op f d : Int) : Nat → Int :=
  if evB S n op f d = true ∧ op = 1 then (fun s => Z s - (if fromZ F T f.toNat d = (s : Int) then 1 else 0) + (if toZ F T f.toNat d = (s : Int) then 1 else 0)) else Z

def trZ (S : Int) (n : Nat) (F T : Nat → Int) (P : Nat → Nat → Int) : Nat → Nat → Int
  | 0 => fun _ => 0
  | k + 1 => stepZ S n F T (trZ S n F T P k) (P k 0) (P k 1) (P k 2)

theorem stepZ_bound {S : Int} {n : Nat} {F T Z : Nat → Int} {op f d : Int} {s : Nat} {b : Int} (h : -b ≤ Z s ∧ Z s ≤ b) : -(b + 1) ≤ stepZ S n F T Z op f d s ∧ stepZ S n F T Z op f d s ≤ b + 1 := by
  unfold stepZ
  split
  · dsimp only
    split <;> split <;> omega
  · omega

theorem trZ_bound (S : Int) (n : Nat) (F T : Nat → Int) (P : Nat → Nat → Int) (k s : Nat) : -(k : Int) ≤ trZ S n F T P k s ∧ trZ S n F T P k s ≤ (k : Int) := by
  induction k with
  | zero => simp [trZ]
  | succ k ih =>
    have := stepZ_bound (S := S) (n := n) (F := F) (T := T) (op := P k 0) (f := P k 1) (d := P k 2) ih
    simp only [trZ]
    omega

/-- numbers in a block -/
def IntB (w : World) (b n : Nat) (Z : Nat → Int) : Prop := Blk w b 3 n (fun i => .int .i64 (Z i))

theorem IntB.set {w : World} {b n : Nat} {Z : Nat → Int} (h : IntB w b n Z) (j : Nat) (x : Int) : IntB (w.setCell ⟨b, j, none⟩ (.int .i64 x)) b n (fun i => if i = j then x else Z i) :=
  (Blk.set h j (.int .i64 x)).congr fun i _ => by
    by_cases e : i = j
    · simp [e]
    · simp [e]

theorem IntB.turn {w : World} {b n : Nat} {Z : Nat → Int} (h : IntB w b n Z) (j : Nat) (x : Value) : Turned w (w.setCell ⟨b, j, none⟩ x) (· = 3) b (b + 1) :=
  Turned.of_grown (grown_set (World.grownBy.refl _ _) _) (Nat.le_refl _) (by omega) rfl h

set_option maxRecDepth 100000 in
set_option maxHeartbeats 2000000 in
theorem move_axle (S d : Int) (g n ns rb f : Nat) (F T Z : Nat → Int) (w : World) (hn : n ≤ 120) (hev : evB S n 1 (f : Int) d = true) (hf : f < n) (hd : d = 1 ∨ d = -1) (hs : -1 ≤ fromZ F T f d ∧ fromZ F T f d < (ns : Int) ∧ -1 ≤ toZ F T f d ∧ toZ F T f d < (ns : Int)) (hne : fromZ F T f d ≠ toZ F T f d)
    (hrow : CRow w g n F T) (hb : IntB w rb ns Z) (hZ : ∀ s, s < ns → -2000000 ≤ Z s ∧ Z s ≤ 2000000) :
    Calls Tryd.prog 48 #[.agg #[.int .i64 S, .slice (gA g) n (gC g)], .slice (some ⟨rb, 0, none⟩) ns ns, .agg #[.int .i64 1, .int .i64 (f : Int), .int .i64 d]] w fun e w' => (∃ v, e = .returned v) ∧ IntB w' rb ns (fun s => Z s - (if fromZ F T f d = (s : Int) then 1 else 0) + (if toZ F T f d = (s : Int) then 1 else 0)) ∧ Turned w w' (· = 3) rb (rb + 1) := by
  have eI : hapI S n 1 (f : Int) d = .iface 140 (.agg #[.int .i64 (f : Int), .int .i64 d]) := by unfold hapI; rw [hev]; simp [hapV, hd]
  have kh := fun W => happensIn_any S 1 (f : Int) d n g W hn
  rw [eI] at kh
  have as_axlePasses : ∀ (v : Value) (W : World), (Instr.typeAssert (.iface 140 v) 98 140 true).run Tryd.prog W = .ok (.tuple #[v, .bool true]) W := fun _ _ => by kernel_rfl
  have ks := fun W (hW : Below w.heap.size w W) => sides_any S d g n f F T W hf (hrow.on hW)
  obtain ⟨a, ea⟩ : ∃ a, fromZ F T f d = a := ⟨_, rfl⟩
  obtain ⟨b, eb⟩ : ∃ b, toZ F T f d = b := ⟨_, rfl⟩
  rw [ea, eb] at hs hne
  simp only [ea, eb] at ks ⊢
  clear ea eb eI
  go_enter Tryd.func48, Tryd.ntmps48
  go_wp2_with fail
  refine (kh _).mono ?_
  rintro e w1 ⟨rfl, hb1⟩
  have B1 := below_on (show Below w.heap.size w _ from (by repeat (first | exact Below.refl _ _ | assumption | refine below_alloc ?_ _ | refine Below.setCell ?_ (by first | omega | (simp; done) | (simp; omega)) _ | refine Below.alloc ?_ (by first | omega | (simp; done) | (simp; omega)) _ | refine Below.drew ?_))) hb1
  have z1 : w.heap.size + 1 < w1.heap.size := by have := hb1.size; simp at this; omega
  have y0 : w1.cell? ⟨w.heap.size, 0, none⟩ = some (.int .i64 S) := (hb1.cell (p := ⟨w.heap.size, 0, none⟩) (by first | omega | (simp; done) | (simp; omega))).trans (by simp)
  have y1 : w1.cell? ⟨w.heap.size, 1, none⟩ = some (.slice (gA g) n (gC g)) := (hb1.cell (p := ⟨w.heap.size, 1, none⟩) (by first | omega | (simp; done) | (simp; omega))).trans (by simp)
  have z0 : w.heap.size < w1.heap.size := by omega
  clear hb1
  go_wp2_with fail
  refine (ks _ (below_alloc B1 _)).mono ?_
  rintro e w2 ⟨rfl, hb2⟩
  have B2 := below_on (below_alloc B1 _) hb2
  have b2 : IntB w2 rb ns Z := Blk.on hb B2
  clear hb2 B1 y0 y1
  rcases (show a = -1 ∨ 0 ≤ a by omega) with rfl | ha
  · rcases (show b = -1 ∨ 0 ≤ b by omega) with rfl | hb0
    · omega
    · obtain ⟨j, rfl⟩ : ∃ j : Nat, b = (j : Int) := ⟨b.toNat, by omega⟩
      have hj : j < ns := by omega
      have hj' : (j : Int) < (ns : Int) := by omega
      have c1 := Blk.cell b2 hj
      have q1 := Blk.frozen b2 j
      obtain ⟨x, ex⟩ : ∃ x, Z j = x := ⟨_, rfl⟩
      have hx := hZ j hj
      rw [ex] at c1 hx
      go_wp2
      go_end0
      refine ⟨⟨_, rfl⟩, (b2.set j (x + 1)).congr (fun i hi => ?_), (Turned.of_below B2).trans (b2.turn j _)⟩
      by_cases e : i = j
      · subst e; simp [ex]
      · have e' : ¬ (j : Int) = (i : Int) := by omega
        have e2 : ¬ (-1 : Int) = (i : Int) := by omega
        simp [e, e', e2]
  · obtain ⟨i0, rfl⟩ : ∃ j : Nat, a = (j : Int) := ⟨a.toNat, by omega⟩
    have hi0 : i0 < ns := by omega
    have hi0' : (i0 : Int) < (ns : Int) := by omega
    have ha1 : ¬ (i0 : Int) = -1 := by omega
    have c1 := Blk.cell b2 hi0
    have q1 := Blk.frozen b2 i0
    obtain ⟨x, ex⟩ : ∃ x, Z i0 = x := ⟨_, rfl⟩
    have hx := hZ i0 hi0
    rw [ex] at c1 hx
    have s3 := b2.set i0 (x - 1)
    have t3 := b2.turn i0 (.int .i64 (x - 1))
    rcases (show b = -1 ∨ 0 ≤ b by omega) with rfl | hb0
    · have S3 : Hid _ := s3
      have T3 : Hid _ := t3
      clear s3 t3
      go_wp2
      go_end0
      refine ⟨⟨_, rfl⟩, Blk.congr S3.out (fun i hi => ?_), (Turned.of_below B2).trans T3.out⟩
      by_cases e : i = i0
      · subst e
        have e2 : ¬ (-1 : Int) = (i : Int) := by omega
        simp [ex, e2]
      · have e' : ¬ (i0 : Int) = (i : Int) := by omega
        have e2 : ¬ (-1 : Int) = (i : Int) := by omega
        simp [e, e', e2]
    · obtain ⟨j, rfl⟩ : ∃ j : Nat, b = (j : Int) := ⟨b.toNat, by omega⟩
      have hj : j < ns := by omega
      have hj' : (j : Int) < (ns : Int) := by omega
      have hb1 : ¬ (j : Int) = -1 := by omega
      have hij : ¬ j = i0 := by omega
      have hji : ¬ i0 = j := by omega
      have c2 := Blk.cell b2 hj
      obtain ⟨y, ey⟩ : ∃ y, Z j = y := ⟨_, rfl⟩
      have hy := hZ j hj
      rw [ey] at c2 hy
      have q2 := Blk.frozen b2 j
      have s4 := s3.set j (y + 1)
      have t4 := s3.turn j (.int .i64 (y + 1))
      have S4 : Hid _ := s4
      have T4 : Hid _ := t3.trans t4
      clear s3 t3 s4 t4
      go_wp2
      go_end0
      refine ⟨⟨_, rfl⟩, Blk.congr S4.out (fun i hi => ?_), (Turned.of_below B2).trans T4.out⟩
      by_cases e : i = j
      · subst e
        have hji' : ¬ (i0 : Int) = (i : Int) := by omega
        simp [ey, hji']
      · have e' : ¬ (j : Int) = (i : Int) := by omega
        by_cases e3 : i = i0
        · subst e3
          simp [e, e', ex]
        · have e4 : ¬ (i0 : Int) = (i : Int) := by omega
          simp [e, e', e3, e4]

set_option maxRecDepth 100000 in
set_option maxHeartbeats 2000000 in
theorem move_other (S op f d : Int) (g n ns rb : Nat) (Z : Nat → Int) (w : World) (hn : n ≤ 120) (hno : ¬ (evB S n op f d = true ∧ op = 1)) (hb : IntB w rb ns Z) :
    Calls Tryd.prog 48 #[.agg #[.int .i64 S, .slice (gA g) n (gC g)], .slice (some ⟨rb, 0, none⟩) ns ns, .agg #[.int .i64 op, .int .i64 f, .int .i64 d]] w fun e w' => (∃ v, e = .returned v) ∧ IntB w' rb ns Z ∧ Turned w w' (· = 3) rb (rb + 1) := by
  have k1 : ∀ (W : World), (Instr.typeAssert .nilIface 98 140 true).run Tryd.prog W = .ok (.tuple #[.agg #[.int .i64 0, .int .i64 0], .bool false]) W := fun _ => by kernel_rfl
  have k2 : ∀ (W : World), (Instr.typeAssert (.iface 147 (.agg #[.int .i64 f, .int .i64 d])) 98 140 true).run Tryd.prog W = .ok (.tuple #[.agg #[.int .i64 0, .int .i64 0], .bool false]) W := fun _ => by kernel_rfl
  have k3 : ∀ (W : World), (Instr.typeAssert (.iface 149 (.agg #[.int .i64 f])) 98 140 true).run Tryd.prog W = .ok (.tuple #[.agg #[.int .i64 0, .int .i64 0], .bool false]) W := fun _ => by kernel_rfl
  have k4 : ∀ (W : World), (Instr.typeAssert (.iface 150 (.agg #[.int .i64 f])) 98 140 true).run Tryd.prog W = .ok (.tuple #[.agg #[.int .i64 0, .int .i64 0], .bool false]) W := fun _ => by kernel_rfl
  have k5 : ∀ (W : World), (Instr.typeAssert (.iface 123 (.agg #[.int .i64 f])) 98 140 true).run Tryd.prog W = .ok (.tuple #[.agg #[.int .i64 0, .int .i64 0], .bool false]) W := fun _ => by kernel_rfl
  have no : ∀ (W : World), (Instr.typeAssert (hapI S n op f d) 98 140 true).run Tryd.prog W = .ok (.tuple #[.agg #[.int .i64 0, .int .i64 0], .bool false]) W := fun W => by
    have hv : hapI S n op f d = .nilIface ∨ hapI S n op f d = .iface 147 (.agg #[.int .i64 f, .int .i64 d]) ∨ hapI S n op f d = .iface 149 (.agg #[.int .i64 f]) ∨ hapI S n op f d = .iface 150 (.agg #[.int .i64 f]) ∨ hapI S n op f d = .iface 123 (.agg #[.int .i64 f]) := by
      unfold hapI
      cases hev : evB S n op f d
      · exact .inl rfl
      · have h1 : ¬ op = 1 := fun h => hno ⟨hev, h⟩
        unfold hapV
        rw [if_pos rfl, if_neg h1]
        by_cases h2 : d = 1 ∨ d = -1
        · rw [if_pos h2]
          by_cases h3 : op = 2
          · rw [if_pos h3]; exact .inr (.inl rfl)
          · rw [if_neg h3]; exact .inl rfl
        · rw [if_neg h2]
          by_cases h3 : d = 0
          · rw [if_pos h3]
            by_cases h4 : op = 3
            · rw [if_pos h4]; exact .inr (.inr (.inl rfl))
            · rw [if_neg h4]
              by_cases h5 : op = 4
              · rw [if_pos h5]; exact .inr (.inr (.inr (.inl rfl)))
              · rw [if_neg h5]
                by_cases h6 : op = 5
                · rw [if_pos h6]; exact .inr (.inr (.inr (.inr rfl)))
                · rw [if_neg h6]; exact .inl rfl
          · rw [if_neg h3]; exact .inl rfl
    rcases hv with hv | hv | hv | hv | hv
    · rw [hv]; exact k1 W
    · rw [hv]; exact k2 W
    · rw [hv]; exact k3 W
    · rw [hv]; exact k4 W
    · rw [hv]; exact k5 W
  have kh := fun W => happensIn_any S op f d n g W hn
  obtain ⟨v, ev⟩ : ∃ v, hapI S n op f d = v := ⟨_, rfl⟩
  rw [ev] at kh
  simp only [ev] at no
  clear ev k1 k2 k3 k4 k5
  go_enter Tryd.func48, Tryd.ntmps48
  go_wp2_with fail
  refine (kh _).mono ?_
  rintro e w1 ⟨rfl, hb1⟩
  have B1 := below_on (show Below w.heap.size w _ from (by repeat (first | exact Below.refl _ _ | assumption | refine below_alloc ?_ _ | refine Below.setCell ?_ (by first | omega | (simp; done) | (simp; omega)) _ | refine Below.alloc ?_ (by first | omega | (simp; done) | (simp; omega)) _ | refine Below.drew ?_))) hb1
  go_wp2
  refine bodyPost_ret (results_none rfl _ _ _) rfl ?_
  exact ⟨⟨_, rfl⟩, Blk.on hb (below_alloc B1 _), Turned.of_below (below_alloc B1 _)⟩

theorem move_any (S op f d : Int) (g n ns rb : Nat) (F T Z : Nat → Int) (w : World) (hl : lokZ S n F T = 0) (hS : (ns : Int) = S) (hrow : CRow w g n F T) (hb : IntB w rb ns Z) (hZ : ∀ s, s < ns → -2000000 ≤ Z s ∧ Z s ≤ 2000000) :
    Calls Tryd.prog 48 #[.agg #[.int .i64 S, .slice (gA g) n (gC g)], .slice (some ⟨rb, 0, none⟩) ns ns, .agg #[.int .i64 op, .int .i64 f, .int .i64 d]] w fun e w' => (∃ v, e = .returned v) ∧ IntB w' rb ns (stepZ S n F T Z op f d) ∧ Turned w w' (· = 3) rb (rb + 1) := by
  obtain ⟨r1, r2, r3⟩ := lok_range hl
  unfold stepZ
  by_cases hno : evB S n op f d = true ∧ op = 1
  · rw [if_pos hno]
    obtain ⟨hev, rfl⟩ := hno
    have h := hev
    unfold evB at h
    rw [if_pos (.inl rfl)] at h
    simp only [decide_eq_true_eq] at h
    obtain ⟨h1, h2, hd⟩ := h
    obtain ⟨k, rfl⟩ : ∃ k : Nat, f = (k : Int) := ⟨f.toNat, by omega⟩
    have hk : k < n := by omega
    have hs := lok_sides hl k hk
    simp only [Int.toNat_natCast]
    refine move_axle S d g n ns rb k F T Z w r3 hev hk hd ?_ ?_ hrow hb hZ
    · unfold fromZ toZ; split <;> omega
    · unfold fromZ toZ; split <;> omega
  · rw [if_neg hno]
    exact move_other S op f d g n ns rb Z w r3 hno hb

end Go.Proofs.YtlpopfhaephfaaaDoor

namespace Go.Proofs.YtlpopfhaephfaaaDoor
open Go.RowKit

/-- How a round's body is left here: it goes on. -/
def onPost (R : World → Prop) : Exit → Act → World → Prop
  | .normal, _, W' => R W'
  | .ret, _, _ => False
  | .exit _, _, _ => False
  | .goto _, _, _ => False
  | .panic _, _, _ => False
  | .outgrown, _, _ => False

/-- An iterator that makes one block of its own (at the heap's end), turns it ahead of each of m rounds, and hands it to the round. -/
def SeqR (n : Nat) (P : Program) (gf : Nat) (lb : Array Value) (encs : Nat → Nat → Array Value) (m : Nat) (Rw : Nat → Nat → World → Prop) (Kp : World → World → Prop) (w0 : World) : Prop :=
  ∀ (l : Nat) (J : Nat → World → Prop) (W : World), Below w0.heap.size w0 W →
    (∀ k A B row, J k A → A.grownBy B row → (∀ r, row = some r → r = W.heap.size) → J k B) →
    (∀ k W1, k < m → J k W1 → Rw W.heap.size k W1 → YieldAt Fence.wide (n - 1) P l (encs W.heap.size k) W1 fun e W' => e = .returned (.bool true) ∧ J (k + 1) W' ∧ Rw W.heap.size k W' ∧ Kp W1 W') →
    J 0 W → CallsIn Fence.wide n P gf (#[.func (.yield l) #[] #[]] ++ lb) W fun e W' => (∃ v, e = .returned v) ∧ J m W'

theorem range_rows {P : Program} {n : Nat} {g : Operand} {ps : Array Tmp} {assign body : Code} {Q : Exit → Act → World → Prop} {a : Act} {w : World} {gf : Nat} {lb : Array Value}
    (hg : a.eval g = .func (.func gf) #[] lb) (eg : ∀ args w, (callFunc gf args).run P w = .ok (.enter gf args) w)
    {encs : Nat → Nat → Array Value} {m : Nat} {Rw : Nat → Nat → World → Prop} {Kp : World → World → Prop} (hseq : SeqR (n - 1) P gf lb encs m Rw Kp w)
    (hps : ∀ rb k, (encs rb k).size = ps.size)
    (hRp : ∀ rb k W l o o', Rw rb k W → W.heap[l]? = some o → o.isCells = false → Rw rb k (W.putObj l o'))
    (hKt : ∀ {A B C : World}, Kp A B → Kp B C → Kp A C) (hKb : ∀ (W : World) (l : Nat) (o o' : Obj), W.heap[l]? = some o → o.isCells = false → Kp W (W.putObj l o'))
    (I : Nat → World → Prop)
    (hI : ∀ k A B row, I k A → A.grownBy B row → (∀ r, row = some r → r = w.heap.size + 1 + 1 ∨ (w.heap.size ≤ r ∧ ∃ o : Obj, A.heap[r]? = some o ∧ o.isCells = false)) → I k B)
    (h0 : I 0 w) (a₁ : Nat → Act)
    (hassign : ∀ (l k : Nat) (W : World) (K : Act → World → Prop), K (a₁ k) W →
      assign.wpIn (Fence.wide.inRound l) (n - 1 - 1) P (Exit.then K (fun _ _ _ => False)) { tmps := (ps.zip (encs (w.heap.size + 1 + 1) k)).foldl (fun t (p, v) => t.setIfInBounds p v) a.tmps, defers := [] } W)
    (hbody : ∀ (l k : Nat) (W : World), k < m → I k W → Rw (w.heap.size + 1 + 1) k W → body.wpIn (Fence.wide.inRound l) (n - 1 - 1) P (onPost fun W' => KeepsOthers W W' ∧ Kp W W' ∧ Rw (w.heap.size + 1 + 1) k W' ∧ I (k + 1) W') (a₁ k) W)
    (hdone : ∀ (W : World), I m W → W.heap[w.heap.size]? = some (.deferred (some [])) → Q .normal { a with defers := { target := .collected w.heap.size, args := #[] } :: a.defers } W) :
    (Code.rangeFunc g ps assign body).wpIn Fence.wide n P Q a w := by
  refine wpIn_rangeFunc ?_
  intro fn hfn
  obtain ⟨rec, hrec⟩ : ∃ rec : LoopState → Option Code → Loop, rec = fun st pe => { state := st, pending := pe, fn, tmps := a.tmps, params := ps, assign, body, defers := w.heap.size } := ⟨_, rfl⟩
  obtain ⟨W1, hW1⟩ : ∃ W1, (w.alloc (.deferred (some []))).alloc (.loop (rec .ready none)) = W1 := ⟨_, rfl⟩
  have hL1 : W1.heap[w.heap.size + 1]? = some (.loop (rec .ready none)) := by
    rw [← hW1]; have := World.alloc_heap_new (w.alloc (.deferred (some []))) (.loop (rec .ready none)); rwa [World.size_alloc] at this
  have hK1 : W1.heap[w.heap.size]? = some (.deferred (some [])) := by
    rw [← hW1]; exact (Below.heap_alloc _ _ _ (by simp)).trans (World.alloc_heap_new w _)
  have hI1 : I 0 W1 := by rw [← hW1]; exact hI _ _ _ none (hI _ _ _ none h0 (World.grownBy_alloc w _ none) (fun r e => by cases e)) (World.grownBy_alloc _ _ none) (fun r e => by cases e)
  have hb1 : Below w.heap.size w W1 := by
    rw [← hW1]; exact ((Below.refl _ w).alloc (Nat.le_refl _) _).alloc (by simp) _
  have hs1 : W1.heap.size = w.heap.size + 1 + 1 := by rw [← hW1]; simp
  refine ⟨w.heap.size + 1, [{ target := .collected w.heap.size, args := #[] }], W1, { target := .fn (.func gf) lb, args := #[.func (.yield (w.heap.size + 1)) #[] #[]] }, W1, gf,
    #[.func (.yield (w.heap.size + 1)) #[] #[]] ++ lb, W1, ?_, ?_, ?_, ?_, fun h => (by cases h), ?_⟩
  · rw [← hW1, hrec]; exact run_enterLoop_outer _ _ _ _ _
  · simp only [resolve, hg]
    simp [go_sem]
  · intro f' hf'; trivial
  · simp [invoke, go_sem, eg]
  · refine (hseq (w.heap.size + 1)
      (fun k W => I k W ∧ W.heap[w.heap.size + 1]? = some (.loop (rec .ready none)) ∧ W.heap[w.heap.size]? = some (.deferred (some [])))
      W1 hb1
      (fun k A B row hs hg' hr => ⟨hI k A B row hs.1 hg' (fun r e => .inl (by rw [hr r e, hs1])),
        (hg'.block _ (Array.getElem?_eq_some_iff.1 hs.2.1).1 (fun e => by have := hr _ e.symm; omega)).trans hs.2.1, (hg'.block _ (Array.getElem?_eq_some_iff.1 hs.2.2).1 (fun e => by have := hr _ e.symm; omega)).trans hs.2.2⟩)
      ?_ ⟨hI1, hL1, hK1⟩).mono ?_
    · rw [hs1]
      rintro k W hk ⟨hi, hl, hd⟩ hrw
      have hlt : w.heap.size + 1 < W.heap.size := (Array.getElem?_eq_some_iff.1 hl).1
      have hy := run_yield (P := P) (args := encs (w.heap.size + 1 + 1) k) hl (by rw [hrec]; exact hps _ k)
      rw [hrec] at hy
      refine ⟨fn, _, assign, body, hy, roundIn_of_wpIn hfn (hassign _ k W _ ⟨_, run_beginRound hl (by rw [hrec]), ?_⟩)⟩
      have hl2 : (W.putObj (w.heap.size + 1) (.loop { rec .ready none with state := .busy })).heap[w.heap.size + 1]? = some (.loop { rec .ready none with state := .busy }) := World.putObj_heap_same hlt
      have hk2 : (W.putObj (w.heap.size + 1) (.loop { rec .ready none with state := .busy })).heap[w.heap.size]? = some (.deferred (some [])) := (World.putObj_heap_other (by omega)).trans hd
      have hw2 : Kp W (W.putObj (w.heap.size + 1) (.loop { rec .ready none with state := .busy })) := hKb _ _ _ _ hl rfl
      have hi2 : I k (W.putObj (w.heap.size + 1) (.loop { rec .ready none with state := .busy })) := hI _ _ _ (some (w.heap.size + 1)) hi (grownBy_putObj' _ _ _) (fun r e => by cases e; exact .inr ⟨by omega, _, hl, rfl⟩)
      refine wpIn_mono (hbody _ k _ hk hi2 (hRp _ _ _ _ _ _ hrw hl rfl)) ?_
      rintro e a3 W3 hp
      cases e with
      | normal =>
        obtain ⟨hk3, hkp3, hr3, hi3⟩ := hp
        have hl3 := hk3.same _ _ hl2 rfl
        have hd3 := hk3.same _ _ hk2 rfl
        have he := run_endRound (P := P) none hl3
        refine ⟨_, _, he, rfl, ⟨hI _ _ _ (some (w.heap.size + 1)) hi3 (grownBy_putObj' _ _ _) (fun r e => by cases e; exact .inr ⟨by omega, _, hl3, rfl⟩), ?_, (World.putObj_heap_other (by omega)).trans hd3⟩, hRp _ _ _ _ _ _ hr3 hl3 rfl, hKt (hKt hw2 hkp3) (hKb _ _ _ _ hl3 rfl)⟩
        rw [World.putObj_heap_same (Array.getElem?_eq_some_iff.1 hl3).1, hrec]
        rfl
      | ret => exact hp.elim
      | exit id => exact hp.elim
      | goto t => exact hp.elim
      | panic ch => exact hp.elim
      | outgrown => exact hp.elim
    · rintro e W2 ⟨⟨v, rfl⟩, hi, hl, hd⟩
      exact ⟨none, _, by have := run_endLoop (P := P) hl (by rw [hrec]; simp); rw [hrec] at this; exact this, hdone _ (hI _ _ _ (some (w.heap.size + 1)) hi (grownBy_putObj' _ _ _) (fun r e => by cases e; exact .inr ⟨by omega, _, hl, rfl⟩)) ((World.putObj_heap_other (by omega)).trans hd)⟩

end Go.Proofs.YtlpopfhaephfaaaDoor

namespace Go.Proofs.YtlpopfhaephfaaaDoor
open Go.RowKit Go.Shelf
attribute [local go_sem] Oper.semAt_some

/-- What a round keeps of what the iterator reads. -/
def KpT (A B : World) : Prop := A.heap.size ≤ B.heap.size ∧ ∀ b e m f, Blk A b e m f → (e = 25 ∨ e = 26 ∨ e = 74 ∨ e = 56) → B.heap[b]? = A.heap[b]?

theorem KpT.trans {A B C : World} (h : KpT A B) (k : KpT B C) : KpT A C :=
  ⟨Nat.le_trans h.1 k.1, fun b e m f hb he => (k.2 b e m f (hb.of_block (h.2 b e m f hb he)) he).trans (h.2 b e m f hb he)⟩

theorem blk_cells {w : World} {b e m : Nat} {f : Nat → Value} (h : Blk w b e m f) : ∃ o : Obj, w.heap[b]? = some o ∧ o.isCells = true := by
  obtain ⟨c, h1, _⟩ := h
  exact ⟨_, h1, rfl⟩

theorem KpT.putObj (W : World) (l : Nat) (o o' : Obj) (h : W.heap[l]? = some o) (ho : o.isCells = false) : KpT W (W.putObj l o') :=
  ⟨by simp, fun b e m f hb _ => World.putObj_heap_other (fun e1 => by
    subst e1
    obtain ⟨o2, h2, h3⟩ := blk_cells hb
    rw [h] at h2; cases h2; rw [ho] at h3; cases h3)⟩

theorem KpT.of_turned {A B : World} {E : Nat → Prop} {lo hi : Nat} (h : Turned A B E lo hi) (h1 : ¬ E 25) (h2 : ¬ E 26) (h3 : ¬ E 74) (h4 : ¬ E 56) : KpT A B :=
  ⟨h.size, fun b e m f hb he => by
    rcases h.block b hb.lt with h' | ⟨_, _, e', m', f', a3, a4⟩
    · exact h'
    · have := a4.type_eq hb
      subst this
      rcases he with rfl | rfl | rfl | rfl
      · exact absurd a3 h1
      · exact absurd a3 h2
      · exact absurd a3 h3
      · exact absurd a3 h4⟩

/-- What the iterator reads. -/
def EnvT (W : World) (bl be : Nat) (S : Int) (g n le he m : Nat) (ae : Option Addr) (ce : Nat) (F T : Nat → Int) (P : Nat → Nat → Int) : Prop :=
  Blk W bl 25 2 (fun i => if i = 0 then .int .i64 S else .slice (gA g) n (gC g)) ∧ Blk W be 26 1 (fun _ => .slice ae m ce) ∧ CRow W g n F T ∧ SlF W 56 3 le he (.slice ae m ce) m (evs P)

theorem CRow.of_block {w w' : World} {g n : Nat} {F T : Nat → Int} (h : CRow w g n F T) (hb : ∀ b m f, Blk w b 74 m f → w'.heap[b]? = w.heap[b]?) : CRow w' g n F T := by
  rcases h with h | ⟨b, m, f, h1, h2, h3, h4⟩
  · exact .inl h
  · exact .inr ⟨b, m, f, h1, h2, Blk.of_block h3 (hb b m f h3), h4⟩

theorem EnvT.kept {W W' : World} {bl be g n le he m ce : Nat} {S : Int} {ae : Option Addr} {F T : Nat → Int} {P : Nat → Nat → Int} (h : EnvT W bl be S g n le he m ae ce F T P) (hk : KpT W W') : EnvT W' bl be S g n le he m ae ce F T P :=
  ⟨h.1.of_block (hk.2 _ _ _ _ h.1 (.inl rfl)), h.2.1.of_block (hk.2 _ _ _ _ h.2.1 (.inr (.inl rfl))), h.2.2.1.of_block (fun _ _ _ hb => hk.2 _ _ _ _ hb (.inr (.inr (.inl rfl)))), h.2.2.2.of_block (fun _ _ _ hb _ _ => hk.2 _ _ _ _ hb (.inr (.inr (.inr rfl))))⟩

theorem Turned.grown1 {A B : World} {E : Nat → Prop} {r : Nat} (h : Turned A B E r (r + 1)) : A.grownBy B (some r) :=
  ⟨h.os, h.tape, h.output, h.size, fun k hk hne => by
    rcases h.block k hk with h' | ⟨a1, a2, _⟩
    · exact h'
    · exact absurd (by rw [show k = r by omega]) hne⟩

theorem grown_of_below {A B : World} (h : Below A.heap.size A B) : A.grownBy B none := ⟨h.os, h.tape, h.output, h.size, fun k hk _ => h.block k hk⟩

theorem Tryd.infoIn : (Tryd.prog.info? 3).map (fun i => (i.zero, i.size, i.bytes)) = some (some (.int .i64 0), 1, 8) := by kernel_rfl

theorem made_ints (n : Nat) : ∃ C : Array Value, C.size = n ∧ (∀ i, i < n → C[i]? = some (.int .i64 0)) ∧ ∀ W : World, n ≤ 1048576 → (Instr.makeSlice 44 (.int .i64 (n : Int)) (.int .i64 (n : Int))).run Tryd.prog W = .ok (.slice (some ⟨W.heap.size, 0, none⟩) n n) (W.alloc (.cells C 3)) := by
  obtain ⟨i0, hi, hz0, hz1, hz2⟩ := info_parts Tryd.infoIn
  refine ⟨madeCells (Value.cells (.int .i64 0)) n, size_madeCells _ _, fun i hi => ?_, fun W hn => ?_⟩
  · have e : Value.cells (.int .i64 0) = #[.int .i64 0] := rfl
    simp [madeCells, e, hi, Nat.mod_one]
  · have := run_make (P := Tryd.prog) W 44 3 i0 _ Tryd.underlying44 hi hz0 .i64 .i64 (n : Int) (n : Int) (by omega) (by omega) (by rw [hz2]; omega) (by omega)
    rw [hz1] at this
    simpa using this

theorem trio {w : World} {g e m n k : Nat} {f : Nat → Value} {P : Nat → Nat → Int} (h : Blk w g e m f) (hm : n * 3 ≤ m) (hk : k < n) (hf : ∀ i, i < n → ∀ j, j < 3 → f (i * 3 + j) = evs P i j) :
    w.cell? ⟨g, k * 3, none⟩ = some (.int .i64 (P k 0)) ∧ w.cell? ⟨g, k * 3 + 1, none⟩ = some (.int .i64 (P k 1)) ∧ w.cell? ⟨g, k * 3 + 2, none⟩ = some (.int .i64 (P k 2)) :=
  ⟨by rw [h.cell (by omega)]; exact congrArg some (hf k hk 0 (by omega)), by rw [h.cell (by omega), hf k hk 1 (by omega)]; rfl, by rw [h.cell (by omega), hf k hk 2 (by omega)]; rfl⟩

theorem rows_any (S : Int) (g n m ce : Nat) (ae : Option Addr) (w : World) :
    Calls Tryd.prog 26 #[.agg #[.int .i64 S, .slice (gA g) n (gC g)], .slice ae m ce] w fun e w' => e = .returned (.func (.func 47) #[] #[.pointer (some ⟨w.heap.size, 0, none⟩), .pointer (some ⟨w.heap.size + 1, 0, none⟩)]) ∧ w' = (w.alloc (.cells #[.int .i64 S, .slice (gA g) n (gC g)] 25)).alloc (.cells #[.slice ae m ce] 26) := by
  go_enter Tryd.func26, Tryd.ntmps26
  go_wp2
  go_ret
  exact ⟨rfl, rfl⟩

set_option maxRecDepth 100000 in
set_option maxHeartbeats 2000000 in
theorem rows1_in (q bl be g n le he m ce ns : Nat) (ae : Option Addr) (F T : Nat → Int) (P : Nat → Nat → Int) (w0 : World) (hl : lokZ (ns : Int) n F T = 0) (hm : m ≤ 2000) (hE : EnvT w0 bl be (ns : Int) g n le he m ae ce F T P) :
    SeqR q Tryd.prog 47 #[.pointer (some ⟨bl, 0, none⟩), .pointer (some ⟨be, 0, none⟩)] (fun rb k => #[.int .i64 (k : Int), .slice (some ⟨rb, 0, none⟩) ns ns]) m (fun rb k W => IntB W rb ns (trZ (ns : Int) n F T P (k + 1))) KpT w0 := by
  intro l J W hW hJ hY h0
  obtain ⟨r1, r2, r3⟩ := lok_range hl
  obtain ⟨Cs, zs, eCs, mk0⟩ := made_ints ns
  have mk := fun W => mk0 W (by omega)
  have EW : EnvT W bl be (ns : Int) g n le he m ae ce F T P := hE.kept (KpT.of_turned (Turned.of_below (E := fun _ => False) (lo := 0) (hi := 0) hW) id id id id)
  have y0 := EW.1.cell (i := 0) (by omega)
  have y1 := EW.2.1.cell (i := 0) (by omega)
  simp only [if_true] at y0 y1
  have b0 : IntB (W.alloc (.cells Cs 3)) W.heap.size ns (trZ (ns : Int) n F T P 0) := by
    have := Blk.new W Cs 3 (fun _ => .int .i64 0) (fun i hi => eCs i (by omega))
    rw [zs] at this
    exact this
  have EA : EnvT (W.alloc (.cells Cs 3)) bl be (ns : Int) g n le he m ae ce F T P := EW.kept (KpT.of_turned (Turned.of_below (E := fun _ => False) (lo := 0) (hi := 0) (below_alloc (Below.refl _ _) _)) id id id id)
  have JA : J 0 (W.alloc (.cells Cs 3)) := hJ _ _ _ none h0 (World.grownBy_alloc _ _ _) (fun r e => by cases e)
  have zl := EW.1.lt
  have ze := EW.2.1.lt
  clear mk0 eCs h0 hE
  refine callsIn_of_wp Tryd.func47 rfl trivial ?_ rfl
  simp only [Tryd.ntmps47, List.size_toArray, List.length_cons, List.length_nil, Nat.reduceAdd, Nat.reduceSub, Array.replicate_succ, Array.replicate_zero, List.push_toArray, List.append_toArray, List.nil_append, List.cons_append]
  gi_wp2
  gi_loopw [12] (fun i wr => ∃ k : Nat, k ≤ m ∧ i = .int .i64 k ∧ IntB wr W.heap.size ns (trZ (ns : Int) n F T P k) ∧ EnvT wr bl be (ns : Int) g n le he m ae ce F T P ∧ J k wr) (fun i _ => m - (intOf i).toNat)
  case atStart => exact ⟨0, Nat.zero_le _, rfl, b0, EA, JA⟩
  case round =>
    clear b0 EA JA EW y0 y1 mk
    obtain ⟨k, hk, rfl, hB, hE, hJk⟩ := hrel
    by_cases hlt : k < m
    · have hE' := hE
      obtain ⟨bL, bE, hrow, ⟨ae', ce', ee, he0⟩⟩ := hE'
      simp only [Value.slice.injEq] at ee
      obtain ⟨rfl, _, rfl⟩ := ee
      rcases he0 with he0 | ⟨ge, me, fe, rfl, _, _, h2, h3, h4⟩
      · omega
      obtain ⟨c0, c1, c2⟩ := trio h3 h2 hlt h4
      have y0 := bL.cell (i := 0) (by omega)
      have y1 := bL.cell (i := 1) (by omega)
      simp only [if_true, Nat.one_ne_zero, if_false] at y0 y1
      have zl' := bL.lt
      have eZ : trZ (ns : Int) n F T P (k + 1) = stepZ (ns : Int) n F T (trZ (ns : Int) n F T P k) (P k 0) (P k 1) (P k 2) := rfl
      obtain ⟨op, eop⟩ : ∃ op, P k 0 = op := ⟨_, rfl⟩
      obtain ⟨f, ef⟩ : ∃ f, P k 1 = f := ⟨_, rfl⟩
      obtain ⟨d, ed⟩ : ∃ d, P k 2 = d := ⟨_, rfl⟩
      rw [eop] at c0 eZ
      rw [ef] at c1 eZ
      rw [ed] at c2 eZ
      have hBU := below_alloc (Below.refl wr.heap.size wr) (.cells #[.int .i64 op, .int .i64 f, .int .i64 d] 56)
      have km := move_any (ns : Int) op f d g n ns W.heap.size F T (trZ (ns : Int) n F T P k) (wr.alloc (.cells #[.int .i64 op, .int .i64 f, .int .i64 d] 56)) hl rfl (hrow.alloc _) (Blk.on hB hBU) (fun s _ => by have := trZ_bound (ns : Int) n F T P k s; omega)
      rw [← eZ] at km
      have EU := hE.kept (KpT.of_turned (Turned.of_below (E := fun _ => False) (lo := 0) (hi := 0) hBU) id id id id)
      have JU := hJ _ _ _ none hJk (grown_of_below hBU) (fun r e => by cases e)
      have hi1 : (k : Int) < (m : Int) := by omega
      clear eZ eop ef ed h3 h4 bE hrow hE hJk hBU bL hB
      gi_wp2_with fail
      refine ⟨trivial, fun h => (by cases h), ?_⟩
      refine (callsIn_wide.2 km).mono ?_
      clear km
      rintro e w1 ⟨⟨v, rfl⟩, hB1, hT1⟩
      have J1 := hJ _ _ _ (some W.heap.size) JU hT1.grown1 (fun r e => by cases e; rfl)
      have E1 := EU.kept (KpT.of_turned hT1 (by decide) (by decide) (by decide) (by decide))
      obtain ⟨fn, tmps, assign, body, hy, hR⟩ := hY k w1 hlt J1 hB1
      clear J1 JU EU hT1 y0 y1 c0 c1 c2
      gi_wp2
      refine ⟨fun h => (by cases h), hR.mono ?_⟩
      rintro e W3 ⟨rfl, hJ3, hB3, hk3⟩
      have E3 := E1.kept hk3
      clear hR hy
      gi_wp2
      go_roundw
      case rel => exact ⟨k + 1, by omega, by go_num, hB3, E3, hJ3⟩
      case measure => simp [intOf]; omega
    · gi_wp2
      go_end0
      have : k = m := by omega
      subst this
      exact ⟨⟨_, rfl⟩, hJk⟩

end Go.Proofs.YtlpopfhaephfaaaDoor

namespace Go.Proofs.YtlpopfhaephfaaaDoor
open Go.RowKit Go.Maps

/-- numbers as a row of cells -/
def rowV (Z : Nat → Int) : Nat → Nat → Value := fun i _ => .int .i64 (Z i)
def markZ (q0 : Int) (i : Nat) : Int := q0 + (i : Int)
def markI (q0 : Int) (k : Nat) (f : Nat → Value) : Nat → Value := fun c => if c < k then .int .i64 (markZ q0 c) else f c
theorem markI_step (q0 : Int) (k : Nat) (f : Nat → Value) (c : Nat) : (if c = k then .int .i64 (markZ q0 k) else markI q0 k f c) = markI q0 (k + 1) f c := by
  unfold markI
  rcases Nat.lt_trichotomy c k with h | h | h
  · rw [if_neg (by omega), if_pos h, if_pos (by omega)]
  · subst h; rw [if_pos rfl, if_pos (by omega)]
  · rw [if_neg (by omega), if_neg (by omega), if_neg (by omega)]

theorem oneZ {w : World} {g e m n k : Nat} {f : Nat → Value} {D : Nat → Int} (h : Blk w g e m f) (hm : n * 1 ≤ m) (hk : k < n) (hf : ∀ i, i < n → ∀ j, j < 1 → f (i * 1 + j) = rowV D i j) : w.cell? ⟨g, k, none⟩ = some (.int .i64 (D k)) := by
  rw [h.cell (by omega)]
  have := hf k hk 0 (by omega)
  simp only [Nat.mul_one, Nat.add_zero] at this
  rw [this]; rfl

def intL (D : Nat → Int) : Nat → List Value
  | 0 => []
  | k + 1 => intL D k ++ [.int .i64 (D k)]

theorem intL_len (D : Nat → Int) (k : Nat) : (intL D k).length = k := by
  induction k with
  | zero => rfl
  | succ k ih => simp only [intL, List.length_append, ih, List.length_cons, List.length_nil]
theorem intL_get (D : Nat → Int) (k i : Nat) (hi : i < k) : (intL D k)[i]? = some (.int .i64 (D i)) := by
  induction k with
  | zero => omega
  | succ k ih =>
    unfold intL
    by_cases e : i < k
    · rw [List.getElem?_append_left (by rw [intL_len]; omega)]; exact ih e
    · have e' : i = k := by omega
      subst e'
      rw [List.getElem?_append_right (by rw [intL_len]; omega), intL_len]
      simp
theorem intL_uniI (D : Nat → Int) (k : Nat) : ∀ u ∈ intL D k, u.oneCell' = true := by
  induction k with
  | zero => simp [intL]
  | succ k ih =>
    intro u hu
    unfold intL at hu
    rcases List.mem_append.1 hu with h | h
    · exact ih u h
    · simp only [List.mem_cons, List.not_mem_nil, or_false] at h
      subst h; rfl

theorem intL_cells {w : World} {g m n : Nat} {e : TypeId} {f : Nat → Value} {D : Nat → Int} (b2 : Blk w g e m f) (b1 : n * 1 ≤ m) (b3 : ∀ i, i < n → ∀ j, j < 1 → f (i * 1 + j) = rowV D i j) : ∀ j u, (intL D n)[j]? = some u → w.cell? ((⟨g, 0, none⟩ : Addr).add j) = some u := by
  intro j u hu
  have hj : j < n := by rw [← intL_len D n]; exact (List.getElem?_eq_some_iff.1 hu).1
  have ea : (⟨g, 0, none⟩ : Addr).add j = ⟨g, j, none⟩ := by simp [Addr.add]; exact fun h => h.symm
  rw [ea, oneZ b2 b1 hj b3]
  rw [intL_get D n j hj] at hu
  exact hu

set_option maxRecDepth 100000 in
set_option maxHeartbeats 1000000 in
theorem cloneI_some (ad : Addr) (n c2 : Nat) (D : Nat → Int) (w : World) (hn : n ≤ 60) (hnw : ∀ j u, (intL D n)[j]? = some u → (w.alloc (.cells #[] 3)).cell? (ad.add j) = some u) :
    Calls Tryd.prog 43 #[.slice (some ad) n c2] w fun e w' => ∃ a' c', e = .returned (.slice a' n c') ∧ SlF w' 3 1 w.heap.size w'.heap.size (.slice a' n c') n (rowV D) ∧ Below w.heap.size w w' := by
  obtain ⟨i0, hi, hz0, hz1, hz2⟩ := info_parts Tryd.infoIn
  have hown : (w.alloc (.cells #[] 3)).ownsRow w.heap.size 3 1 (.slice (some ⟨w.heap.size, 0, none⟩) 0 0) 0 [] := World.ownsRow_lit w #[] 0 (Nat.le_refl _) (Nat.zero_le _) rfl
  have hq : ∀ W : World, (binOp .eql 44 (.slice (some ad) n c2) (.slice none 0 0)).run Tryd.prog W = .ok (.bool false) W := fun W => Go.Lib.run_eql_slice_nil W _ _ _ _ _ _ _ Tryd.underlying44
  go_enter Tryd.func43, Tryd.ntmps43
  go_wp2_with (first
    | (at_builtin; refine wpList_append_own _ rfl _ _ 44 rfl w.heap.size 3 i0 _ 1 8 Tryd.underlying44 hi hz0 hz1 hz2 rfl (by decide) _ _ _ rfl hown ad n c2 (intL D n) rfl (by rw [intL_len]; omega) hnw (intL_uniI D n) (by unfold maxLen; omega) (by omega) (by simp) ?_; intro v' w2 hown' hgrow hnil))
  go_ret
  have hS : SlF w2 3 1 w.heap.size w2.heap.size v' n (rowV D) := by
    have := SlF.of_ownsRow (G := rowV D) hown' (fun i hi j hj => by
      have hj0 : j = 0 := by omega
      subst hj0
      simp only [List.nil_append, Nat.mul_one, Nat.add_zero]; exact intL_get D n i (by omega))
    rw [Nat.zero_add] at this
    exact this
  have hBw : Below w.heap.size w w2 := (below_alloc (Below.refl _ _) _).grown hgrow (by simp) (fun k hk => (hown.lt k hk).1)
  obtain ⟨ao, cap, rfl, h0⟩ := id hS
  exact ⟨ao, cap, rfl, hS, hBw⟩

set_option maxRecDepth 100000 in
theorem cloneI_any (a2 : Option Addr) (lo hi n c2 : Nat) (D : Nat → Int) (w : World) (hn : n ≤ 60) (hd : SlF w 3 1 lo hi (.slice a2 n c2) n (rowV D)) :
    Calls Tryd.prog 43 #[.slice a2 n c2] w fun e w' => ∃ a' c', e = .returned (.slice a' n c') ∧ SlF w' 3 1 w.heap.size w'.heap.size (.slice a' n c') n (rowV D) ∧ Below w.heap.size w w' := by
  rcases Nat.eq_zero_or_pos n with rfl | hp
  · cases a2 with
    | none =>
      have hq : ∀ W : World, (binOp .eql 44 (.slice none 0 c2) (.slice none 0 0)).run Tryd.prog W = .ok (.bool true) W := fun W => Go.Lib.run_eql_slice_nil W _ _ _ _ _ _ _ Tryd.underlying44
      go_enter Tryd.func43, Tryd.ntmps43
      go_wp2
      go_ret
      exact ⟨none, 0, rfl, ⟨none, 0, rfl, .inl rfl⟩, Below.refl _ _⟩
    | some ad => exact cloneI_some ad 0 c2 D w hn (fun j u hu => by simp [intL] at hu)
  · obtain ⟨g, rfl⟩ := hd.addr hp
    obtain ⟨l1, l2, m, f, b1, b2, b3⟩ := hd.blk hp
    exact cloneI_some ⟨g, 0, none⟩ n c2 D w hn (intL_cells (b2.alloc _) b1 b3)

end Go.Proofs.YtlpopfhaephfaaaDoor

namespace Go.Proofs.YtlpopfhaephfaaaDoor
open Go.RowKit Go.Maps

/-- A list of m rows of numbers in a block between lo and hi; the rows lie in ranges that rise. -/
def RwF (w : World) (lo hi : Nat) (v : Value) (m ns : Nat) (Z : Nat → Nat → Int) : Prop :=
  ∃ (A : Nat → Value) (L : Nat → Nat), SlF w 44 1 lo hi v m (fun i _ => A i) ∧ lo ≤ L 0 ∧ L m ≤ hi ∧ ∀ i, i < m → L i ≤ L (i + 1) ∧ SlF w 3 1 (L i) (L (i + 1)) (A i) ns (rowV (Z i))

section
variable {w w' : World} {lo hi m ns : Nat} {v : Value} {Z : Nat → Nat → Int}
theorem RwF.on (h : RwF w lo hi v m ns Z) (hb : Below w.heap.size w w') : RwF w' lo hi v m ns Z := by
  obtain ⟨A, L, h1, h2, h3, h4⟩ := h
  exact ⟨A, L, h1.on hb, h2, h3, fun i hi => ⟨(h4 i hi).1, (h4 i hi).2.on hb⟩⟩
theorem RwF.turned {E : Nat → Prop} {lo' hi' : Nat} (h : RwF w lo hi v m ns Z) (ht : Turned w w' E lo' hi') (hd : hi' ≤ lo ∨ hi ≤ lo') : RwF w' lo hi v m ns Z := by
  obtain ⟨A, L, h1, h2, h3, h4⟩ := h
  refine ⟨A, L, h1.turned ht (.inr hd), h2, h3, fun i hlt => ?_⟩
  have hL : ∀ i, i < m → L i ≤ L (i + 1) := fun i hi => (h4 i hi).1
  have a1 := rise' hL (Nat.zero_le i) (Nat.le_of_lt hlt)
  have a2 := rise' hL (a := i + 1) (b := m) hlt (Nat.le_refl _)
  exact ⟨(h4 i hlt).1, (h4 i hlt).2.turned ht (.inr (by omega))⟩
theorem RwF.wide {lo' : Nat} (h : RwF w lo hi v m ns Z) (h1 : lo' ≤ lo) : RwF w lo' hi v m ns Z := by
  obtain ⟨A, L, a1, a2, a3, a4⟩ := h
  exact ⟨A, L, a1.wide h1 (Nat.le_refl _), by omega, a3, a4⟩
theorem RwF.nil (w : World) (lo hi ns : Nat) (ao : Option Addr) (cap : Nat) (h : lo ≤ hi) (Z : Nat → Nat → Int) : RwF w lo hi (.slice ao 0 cap) 0 ns Z :=
  ⟨fun _ => .slice none 0 0, fun _ => lo, ⟨ao, cap, rfl, .inl rfl⟩, Nat.le_refl _, h, fun i hi => by omega⟩
end

theorem oneA {w : World} {g e m n k : Nat} {f A : Nat → Value} (h : Blk w g e m f) (hm : n * 1 ≤ m) (hk : k < n) (hf : ∀ i, i < n → ∀ j, j < 1 → f (i * 1 + j) = A i) : w.cell? ⟨g, k, none⟩ = some (A k) := by
  rw [h.cell (by omega)]
  have := hf k hk 0 (by omega)
  simp only [Nat.mul_one, Nat.add_zero] at this
  rw [this]

/-- the number at which the marks of the k-th row begin -/
def rwQ (q0 : Int) (ns : Nat) : Nat → Int
  | 0 => q0
  | k + 1 => rwQ q0 ns k + (ns : Int)

theorem rwQ_bound {q0 : Int} {ns k : Nat} (hs : ns ≤ 60) (h0 : 0 ≤ q0) : 0 ≤ rwQ q0 ns k ∧ rwQ q0 ns k ≤ q0 + 60 * (k : Int) := by
  induction k with
  | zero => simp [rwQ]; omega
  | succ k ih => simp only [rwQ]; omega

def MkR (w : World) (lo hi : Nat) (v : Value) (m ns : Nat) (q0 : Int) : Prop := RwF w lo hi v m ns (fun i => markZ (rwQ q0 ns i))

/-- the cells of a list of rows -/
def rwL (A : Nat → Value) : Nat → List Value
  | 0 => []
  | k + 1 => rwL A k ++ [A k]
theorem rwL_len (A : Nat → Value) (k : Nat) : (rwL A k).length = k := by
  induction k with
  | zero => rfl
  | succ k ih => simp only [rwL, List.length_append, ih, List.length_cons, List.length_nil]
theorem rwL_get (A : Nat → Value) (k i : Nat) (hi : i < k) : (rwL A k)[i]? = some (A i) := by
  induction k with
  | zero => omega
  | succ k ih =>
    unfold rwL
    rcases (show i < k ∨ i = k by omega) with e | e
    · rw [List.getElem?_append_left (by rw [rwL_len]; omega)]; exact ih e
    · subst e
      rw [List.getElem?_append_right (by rw [rwL_len]; omega), rwL_len]
      simp
theorem rwL_congr {A A' : Nat → Value} {k : Nat} (h : ∀ i, i < k → A' i = A i) : rwL A' k = rwL A k := by
  induction k with
  | zero => rfl
  | succ k ih => unfold rwL; rw [ih (fun i hi => h i (by omega)), h k (by omega)]

/-- What stands of the rows behind k events. -/
def RowI (w : World) (base low top : Nat) (v : Value) (k ns : Nat) (Z : Nat → Nat → Int) : Prop :=
  ∃ (A : Nat → Value) (L : Nat → Nat), w.ownsRow base 44 1 v k (rwL A k) ∧ low ≤ L 0 ∧ L k ≤ top ∧ ∀ i, i < k → L i ≤ L (i + 1) ∧ SlF w 3 1 (L i) (L (i + 1)) (A i) ns (rowV (Z i))

section
variable {w w' : World} {base low top k ns : Nat} {v : Value} {Z : Nat → Nat → Int}
theorem RowI.on (h : RowI w base low top v k ns Z) (hb : Below w.heap.size w w') : RowI w' base low top v k ns Z := by
  obtain ⟨A, L, a1, a2, a3, a4⟩ := h
  exact ⟨A, L, own_on a1 hb, a2, a3, fun i hi => ⟨(a4 i hi).1, (a4 i hi).2.on hb⟩⟩
theorem RowI.step {A : Nat → Value} {L : Nat → Nat} (a1 : w.ownsRow base 44 1 v k (rwL A k)) (a2 : low ≤ L 0) (a3 : L k ≤ top) (a4 : ∀ i, i < k → L i ≤ L (i + 1) ∧ SlF w 3 1 (L i) (L (i + 1)) (A i) ns (rowV (Z i)))
    {lo hi : Nat} {u v' : Value} (hl : SlF w 3 1 lo hi u ns (rowV (Z k))) (h1 : top ≤ lo) (h2 : lo ≤ hi)
    (ha : w'.ownsRow base 44 1 v' (k + 1) (rwL A k ++ [u])) (hg : w.grownBy w' v.ownBlock) : RowI w' base low hi v' (k + 1) ns Z := by
  have ht := own_grown a1 hg
  have f1 : ∀ i, i < k → (if i = k then u else A i) = A i := fun i hi => if_neg (by omega)
  refine ⟨fun i => if i = k then u else A i, fun i => if i ≤ k then L i else hi, ?_, by simpa using a2, by show (if k + 1 ≤ k then _ else _) ≤ _; rw [if_neg (by omega)]; exact Nat.le_refl _, fun i hi' => ?_⟩
  · unfold rwL
    rw [rwL_congr (A := A) f1]
    simp only [if_true]
    exact ha
  · by_cases hk : i = k
    · subst hk
      simp only [if_true, Nat.le_refl, show ¬ i + 1 ≤ i by omega, if_false]
      exact ⟨by omega, (hl.turned ht (.inl (by decide))).wide (by omega) (Nat.le_refl _)⟩
    · have b1 : i ≤ k := by omega
      have b2 : i + 1 ≤ k := by omega
      simp only [b1, b2, hk, if_true, if_false]
      exact ⟨(a4 i b2).1, (a4 i b2).2.turned ht (.inl (by decide))⟩
theorem RowI.rows (h : RowI w base low top v k ns Z) (hb : base ≤ low) (h1 : top ≤ w.heap.size) : RwF w base w.heap.size v k ns Z := by
  obtain ⟨A, L, a1, a2, a3, a4⟩ := h
  exact ⟨A, L, SlF.of_ownsRow a1 (fun i hi j hj => by
    have hj0 : j = 0 := by omega
    subst hj0
    simp only [Nat.mul_one, Nat.add_zero]; exact rwL_get A k i hi), by omega, by omega, a4⟩
end

end Go.Proofs.YtlpopfhaephfaaaDoor

namespace Go.Proofs.YtlpopfhaephfaaaDoor
open Go.RowKit Go.Shelf
attribute [local go_sem] Oper.semAt_some

theorem Tryd.infoRw : (Tryd.prog.info? 44).map (fun i => (i.zero, i.size, i.bytes)) = some (some (.slice none 0 0), 1, 24) := by kernel_rfl

theorem made_rows (m : Nat) : ∃ C : Array Value, C.size = m ∧ ∀ W : World, m ≤ 2000 → (Instr.makeSlice 32 (.int .i64 0) (.int .i64 (m : Int))).run Tryd.prog W = .ok (.slice (some ⟨W.heap.size, 0, none⟩) 0 m) (W.alloc (.cells C 44)) := by
  obtain ⟨i0, hi, hz0, hz1, hz2⟩ := info_parts Tryd.infoRw
  refine ⟨madeCells (Value.cells (.slice none 0 0)) m, size_madeCells _ _, fun W hn => ?_⟩
  have := run_make (P := Tryd.prog) W 32 44 i0 _ Tryd.underlying32 hi hz0 .i64 .i64 0 (m : Int) (by omega) (by omega) (by rw [hz2]; omega) (by omega)
  rw [hz1] at this
  simpa using this

theorem own_of_block {w w' : World} {base e sz n : Nat} {v : Value} {xs : List Value} (h : w.ownsRow base e sz v n xs) (hb : ∀ g, v.ownBlock = some g → w'.heap[g]? = w.heap[g]?) : w'.ownsRow base e sz v n xs := by
  refine ⟨h.1, ?_⟩
  rcases h.2 with hn | ⟨g, cap, cur, rfl, hbb, hgg, rest⟩
  · exact .inl hn
  · exact .inr ⟨g, cap, cur, rfl, hbb, by rw [hb g rfl]; exact hgg, rest⟩

theorem hnewo' (w : World) (o : Obj) : (w.alloc o).heap[w.heap.size]? = some o := by
  unfold World.alloc
  simp

/-- an append, as an operation of a region that draws its order -/
theorem opIn_append {F : Fence} {n : Nat} {P : Program} (w : World) {ops : Array Oper} {o : Oper} {a : Act} {Q : Exit → Act → World → Prop} {K : Act → World → Prop}
    (hg : o.guard = none) (s x : Operand) (t : TypeId) (hop : o.op = Op.call { callee := Callee.builtin Builtin.append, args := #[s, x], argTypes := #[t, t] })
    {v y v' : Value} {w' : World} (hs : a.eval s = v) (hx : a.eval x = y) (hrun : (Builtin.append_ #[t, t] o.type #[v, y]).run P w = .ok v' w') (hK : K (a.put o.dst v') w') :
    if Region.wanted o (yielded ops a.tmps) = true then Oper.wpIn F n P o a w K Q else (∀ f, o.about P w a.eval = some f → F.fn f) ∧ K (a.put o.dst undef) w := by
  rw [if_pos (by simp only [Region.wanted, hg])]
  unfold Oper.wpIn
  refine ⟨?_, ?_⟩
  · simp [Oper.about, hop, resolve, Target.leads, Sem.run_pure]
  · rw [Oper.semAt_plain F _ _ (by rw [hop]; intro c hc'; cases hc')]
    simp [execOp, hop, resolve, invoke, builtin, hs, hx, hrun, Result.andThen]
    exact hK

theorem cell_one (w : World) (v : Value) (e : TypeId) : ∀ j u, [v][j]? = some u → (w.alloc (.cells #[v] e)).cell? ((⟨w.heap.size, 0, none⟩ : Addr).add j) = some u := by
  intro j u hu
  have hj : j < 1 := (List.getElem?_eq_some_iff.1 hu).1
  have hj0 : j = 0 := by omega
  subst hj0
  simpa [Addr.add] using hu

theorem blk_one {w : World} {b : Nat} {e : TypeId} {v : Value} (h : Blk w b e 1 (fun _ => v)) (x : Value) : Blk (w.setCell ⟨b, 0, none⟩ x) b e 1 (fun _ => x) :=
  (h.set 0 x).congr (fun i hi => by
    have h0 : i = 0 := by omega
    simp [h0])

theorem IntB.row {w : World} {b n : Nat} {Z : Nat → Int} (h : IntB w b n Z) : SlF w 3 1 b (b + 1) (.slice (some ⟨b, 0, none⟩) n n) n (rowV Z) :=
  ⟨_, _, rfl, .inr ⟨b, n, _, rfl, Nat.le_refl _, by omega, by omega, h, fun i _ j hj => by
    have h0 : j = 0 := by omega
    subst h0
    simp [rowV]⟩⟩

theorem RwF.kept {A B : World} {row : Option Nat} {lo hi m ns : Nat} {v : Value} {Z : Nat → Nat → Int} (h : RwF A lo hi v m ns Z) (hg : A.grownBy B row) (hr : ∀ r, row = some r → ∃ o : Obj, A.heap[r]? = some o ∧ o.isCells = false) : RwF B lo hi v m ns Z := by
  have key : ∀ b e mm f, Blk A b e mm f → B.heap[b]? = A.heap[b]? := fun b e mm f h1 => hg.block b h1.lt (fun e1 => by
    obtain ⟨o, ho, hc⟩ := hr b e1.symm
    obtain ⟨o2, h3, h4⟩ := blk_cells h1
    rw [ho] at h3; cases h3; rw [hc] at h4; cases h4)
  obtain ⟨A', L, h1, h2, h3, h4⟩ := h
  exact ⟨A', L, h1.of_block (fun _ _ _ hb _ _ => key _ _ _ _ hb), h2, h3, fun i hi => ⟨(h4 i hi).1, (h4 i hi).2.of_block (fun _ _ _ hb _ _ => key _ _ _ _ hb)⟩⟩

theorem keeps_turned {A B : World} {E : Nat → Prop} {lo hi : Nat} (h : Turned A B E lo hi) : KeepsOthers A B :=
  ⟨h.size, fun k o hk ho => by
    rcases h.block k (Array.getElem?_eq_some_iff.1 hk).1 with h' | ⟨_, _, e', m', f', _, a4⟩
    · rw [h']; exact hk
    · obtain ⟨o2, h3, h4⟩ := blk_cells a4
      rw [hk] at h3; cases h3; rw [ho] at h4; cases h4⟩

theorem RowI.turned {w w' : World} {base low top k ns lo hi : Nat} {v : Value} {Z : Nat → Nat → Int} {E : Nat → Prop} (h : RowI w base low top v k ns Z) (ht : Turned w w' E lo hi) (h1 : ¬ E 44) (h2 : ¬ E 3) : RowI w' base low top v k ns Z := by
  obtain ⟨A, L, a1, a2, a3, a4⟩ := h
  exact ⟨A, L, own_turned a1 ht h1, a2, a3, fun i hi => ⟨(a4 i hi).1, (a4 i hi).2.turned ht (.inl h2)⟩⟩

/-- behind a round of Truth's loop -/
theorem truth_fin {w W w5 w6 : World} {base low top tb rb k ns lo5 hi5 : Nat} {v v' u : Value} {Z : Nat → Nat → Int} {A : Nat → Value} {L : Nat → Nat} (hB : Below w.heap.size w W) (hb : Blk W tb 32 1 (fun _ => v)) (htb : w.heap.size ≤ tb) (hrw : IntB W rb ns (Z k))
    (q1 : W.ownsRow base 44 1 v k (rwL A k)) (q2 : low ≤ L 0) (q3 : L k ≤ top) (q4 : ∀ i, i < k → L i ≤ L (i + 1) ∧ SlF W 3 1 (L i) (L (i + 1)) (A i) ns (rowV (Z i))) (hbase : base = w.heap.size) (htop : top ≤ W.heap.size)
    (h5 : Below W.heap.size W w5) (s5 : SlF w5 3 1 lo5 hi5 u ns (rowV (Z k))) (h1 : W.heap.size ≤ lo5) (h2 : lo5 ≤ hi5) (h3 : hi5 ≤ w5.heap.size)
    (r1 : w6.ownsRow base 44 1 v' (k + 1) (rwL A k ++ [u])) (r2 : (w5.alloc (.cells #[u] 44)).grownBy w6 v.ownBlock) :
    Blk w6 tb 32 1 (fun _ => v) ∧ (KeepsOthers W (w6.setCell ⟨tb, 0, none⟩ v') ∧ KpT W (w6.setCell ⟨tb, 0, none⟩ v') ∧ IntB (w6.setCell ⟨tb, 0, none⟩ v') rb ns (Z k) ∧ ∃ x top', Blk (w6.setCell ⟨tb, 0, none⟩ v') tb 32 1 (fun _ => x) ∧ RowI (w6.setCell ⟨tb, 0, none⟩ v') base low top' x (k + 1) ns Z ∧ x.ownBlock ≠ some rb ∧ (top' ≤ (w6.setCell ⟨tb, 0, none⟩ v').heap.size ∨ (k + 1 = 0 ∧ top' = low)) ∧ Below w.heap.size w (w6.setCell ⟨tb, 0, none⟩ v')) := by
  subst hbase
  have hU : Below W.heap.size W (w5.alloc (.cells #[u] 44)) := below_alloc h5 _
  have ownU := own_on q1 hU
  have tg := own_grown ownU r2
  have tW : Turned W w6 (· = 44) w.heap.size (w5.alloc (.cells #[u] 44)).heap.size := (Turned.of_below hU).trans tg
  have b6 := hb.turned tW (.inl (by decide))
  have i6 : IntB w6 rb ns (Z k) := Blk.turned hrw tW (.inl (by decide))
  have tS : Turned w6 (w6.setCell ⟨tb, 0, none⟩ v') (· = 32) tb (tb + 1) := Turned.of_grown (grown_set (World.grownBy.refl _ _) _) (Nat.le_refl _) (by omega) rfl b6
  have tA : Turned W (w6.setCell ⟨tb, 0, none⟩ v') (fun e => e = 44 ∨ e = 32) w.heap.size (tb + 1 + (w5.alloc (.cells #[u] 44)).heap.size) := (tW.mono (fun _ h => .inl h) (Nat.le_refl _) (by omega)).trans (tS.mono (fun _ h => .inr h) htb (by omega))
  have I6 : RowI w6 w.heap.size low hi5 v' (k + 1) ns Z := RowI.step ownU q2 q3 (fun i hi => ⟨(q4 i hi).1, (q4 i hi).2.on hU⟩) (s5.on (below_alloc (Below.refl _ _) _)) (by omega) h2 r1 r2
  have zz : W.heap.size ≤ w6.heap.size := tW.size
  have z6 : (w5.alloc (.cells #[u] 44)).heap.size ≤ w6.heap.size := tg.size
  rw [World.size_alloc] at z6
  refine ⟨b6, keeps_turned tA, KpT.of_turned tA (by decide) (by decide) (by decide) (by decide), Blk.turned i6 tS (.inl (by decide)), v', hi5, blk_one b6 v', I6.turned tS (by decide) (by decide), fun e => ?_, .inl (by have := tS.size; omega), (hB.trans (tW.below (Nat.le_refl _) hB.size)).trans (tS.below htb (by have := hB.size; omega))⟩
  obtain ⟨_, mm, f, h9⟩ := own_blk r1 e
  have := h9.type_eq i6
  exact absurd this (by decide)

theorem implTruth_bad (S : Int) (g n m ce : Nat) (ae : Option Addr) (F T : Nat → Int) (w : World) (hm : m ≤ 1048576) (hrow : CRow w g n F T) (hb : ¬ (lokZ S n F T = 0 ∧ m ≤ 2000)) :
    Calls Tryd.prog 20 #[.agg #[.int .i64 S, .slice (gA g) n (gC g)], .slice ae m ce] w fun e w' => e = .returned (.slice none 0 0) ∧ Below w.heap.size w w' := by
  have kc := fun o => runOk_any S g n m ce ae F T _ hm (hrow.alloc o)
  have e0 : (lokZ S n F T == 0 && decide (m ≤ 2000)) = false := by
    cases h1 : (lokZ S n F T == 0)
    · rfl
    · simp only [beq_iff_eq] at h1
      simp only [Bool.true_and, decide_eq_false_iff_not]
      exact fun h => hb ⟨h1, h⟩
  rw [e0] at kc
  go_enter Tryd.func20, Tryd.ntmps20
  go_wp2_with fail
  refine (kc _).mono ?_
  rintro e w1 ⟨rfl, hb1⟩
  have B1 := below_on (show Below w.heap.size w _ from (by repeat (first | exact Below.refl _ _ | assumption | refine below_alloc ?_ _ | refine Below.setCell ?_ (by first | omega | (simp; done) | (simp; omega)) _ | refine Below.alloc ?_ (by first | omega | (simp; done) | (simp; omega)) _ | refine Below.drew ?_))) hb1
  go_wp2
  go_ret
  exact ⟨rfl, B1⟩

set_option maxRecDepth 100000 in
set_option maxHeartbeats 4000000 in
theorem implTruth_ok (S : Int) (g n le he m ns : Nat) (F T : Nat → Int) (P : Nat → Nat → Int) (ve : Value) (w : World) (hrow : CRow w g n F T) (hev : SlF w 56 3 le he ve m (evs P)) (hl : lokZ S n F T = 0) (hS : (ns : Int) = S) (hm : m ≤ 2000) :
    Calls Tryd.prog 20 #[.agg #[.int .i64 S, .slice (gA g) n (gC g)], ve] w fun e w' => ∃ u, e = .returned u ∧ RwF w' w.heap.size w'.heap.size u m ns (fun k => trZ S n F T P (k + 1)) ∧ Below w.heap.size w w' := by
  subst hS
  obtain ⟨r1, r2, r3⟩ := lok_range hl
  have hp : 0 < ns := by omega
  have hm' : m ≤ 1048576 := by omega
  obtain ⟨ae, ce, rfl, he0⟩ := id hev
  obtain ⟨i0, hi, hz0, hz1, hz2⟩ := info_parts Tryd.infoRw
  obtain ⟨Cs, zs, mk0⟩ := made_rows m
  have mk := fun W => mk0 W hm
  have kc := fun o => runOk_any (ns : Int) g n m ce ae F T _ hm' (hrow.alloc o)
  have e0 : (lokZ (ns : Int) n F T == 0 && decide (m ≤ 2000)) = true := by simp [hl, hm]
  rw [e0] at kc
  clear e0 mk0 he0
  obtain ⟨V, eV⟩ : ∃ V, w.alloc (.cells #[.int .i64 (ns : Int), .slice (gA g) n (gC g)] 25) = V := ⟨_, rfl⟩
  have sV : V.heap.size = w.heap.size + 1 := by rw [← eV]; simp
  have bV : Below w.heap.size w V := by rw [← eV]; exact (by repeat (first | exact Below.refl _ _ | assumption | refine below_alloc ?_ _ | refine Below.setCell ?_ (by first | omega | (simp; done) | (simp; omega)) _ | refine Below.alloc ?_ (by first | omega | (simp; done) | (simp; omega)) _ | refine Below.drew ?_))
  have bL : Blk V w.heap.size 25 2 (fun i => if i = 0 then .int .i64 (ns : Int) else .slice (gA g) n (gC g)) := by
    rw [← eV]
    exact Blk.new w #[.int .i64 (ns : Int), .slice (gA g) n (gC g)] 25 _ (fun i hi => by simp at hi; match i, hi with | 0, _ => rfl | 1, _ => rfl)
  have P0 : ∀ W, Below V.heap.size V W → W.cell? ⟨w.heap.size, 0, none⟩ = some (.int .i64 (ns : Int)) ∧ W.cell? ⟨w.heap.size, 1, none⟩ = some (.slice (gA g) n (gC g)) := fun W hb => ⟨(bL.on hb).cell (i := 0) (by omega), (bL.on hb).cell (i := 1) (by omega)⟩
  have kc' := kc (.cells #[.int .i64 (ns : Int), .slice (gA g) n (gC g)] 25)
  rw [eV] at kc'
  have EV : Hid _ := eV
  clear eV bL kc
  refine (callsIn_wide (n := 3)).1 ?_
  refine callsIn_of_wp_marks Tryd.func20 rfl trivial ?_ rfl
  simp only [Tryd.ntmps20, List.size_toArray, List.length_cons, List.length_nil, Nat.reduceAdd, Nat.reduceSub, Array.replicate_succ, Array.replicate_zero, List.push_toArray, List.append_toArray, List.nil_append, List.cons_append]
  gi_wp2_with fail
  rw [EV.out]
  refine ⟨trivial, (callsIn_wide.2 kc').mono ?_⟩
  clear kc'
  rintro e w1 ⟨rfl, B1⟩
  obtain ⟨y0, y1⟩ := P0 w1 B1
  have z1 : w.heap.size + 1 ≤ w1.heap.size := by have := B1.size; omega
  have zl : w.heap.size < w1.heap.size + 1 := by omega
  have zl' : w.heap.size < w1.heap.size := by omega
  gi_wp2_with fail
  have bT : Blk ((w1.alloc (.cells Cs 44)).alloc (.cells #[.slice (some ⟨w1.heap.size, 0, none⟩) 0 m] 32)) (w1.heap.size + 1) 32 1 (fun _ => .slice (some ⟨w1.heap.size, 0, none⟩) 0 m) := by
    have := Blk.new (w1.alloc (.cells Cs 44)) #[.slice (some ⟨w1.heap.size, 0, none⟩) 0 m] 32 (fun _ => .slice (some ⟨w1.heap.size, 0, none⟩) 0 m) (fun i hi => by simp at hi; match i, hi with | 0, _ => rfl)
    rw [World.size_alloc] at this
    exact this
  have oT : ((w1.alloc (.cells Cs 44)).alloc (.cells #[.slice (some ⟨w1.heap.size, 0, none⟩) 0 m] 32)).ownsRow w.heap.size 44 1 (.slice (some ⟨w1.heap.size, 0, none⟩) 0 m) 0 [] := by
    have : (w1.alloc (.cells Cs 44)).ownsRow w.heap.size 44 1 (.slice (some ⟨w1.heap.size, 0, none⟩) 0 m) 0 [] := ⟨rfl, .inr ⟨w1.heap.size, m, Cs, rfl, by omega, hnewo' w1 _, by omega, by unfold maxLen; omega, by rw [zs]; omega, by simp⟩⟩
    exact this.alloc _
  have B2 : Below V.heap.size V ((w1.alloc (.cells Cs 44)).alloc (.cells #[.slice (some ⟨w1.heap.size, 0, none⟩) 0 m] 32)) := below_alloc (below_alloc B1 _) _
  obtain ⟨W2, e2⟩ : ∃ W2, (w1.alloc (.cells Cs 44)).alloc (.cells #[.slice (some ⟨w1.heap.size, 0, none⟩) 0 m] 32) = W2 := ⟨_, rfl⟩
  have z2 : w1.heap.size + 1 < W2.heap.size := by rw [← e2]; simp
  rw [e2] at bT oT B2 ⊢
  clear e2 mk y0 y1
  refine ⟨trivial, (callsIn_wide.2 (rows_any (ns : Int) g n m ce ae W2)).mono ?_⟩
  rintro e w3 ⟨rfl, hw3⟩
  have h23 : Below W2.heap.size W2 w3 := by rw [hw3]; exact (by repeat (first | exact Below.refl _ _ | assumption | refine below_alloc ?_ _ | refine Below.setCell ?_ (by first | omega | (simp; done) | (simp; omega)) _ | refine Below.alloc ?_ (by first | omega | (simp; done) | (simp; omega)) _ | refine Below.drew ?_))
  have z3 : w3.heap.size = W2.heap.size + 1 + 1 := by rw [hw3]; simp
  have B3 := below_on bV (below_on B2 h23)
  have eL : Blk w3 W2.heap.size 25 2 (fun i => if i = 0 then .int .i64 (ns : Int) else .slice (gA g) n (gC g)) := by
    rw [hw3]
    exact (Blk.new W2 #[.int .i64 (ns : Int), .slice (gA g) n (gC g)] 25 _ (fun i hi => by simp at hi; match i, hi with | 0, _ => rfl | 1, _ => rfl)).alloc _
  have eE : Blk w3 (W2.heap.size + 1) 26 1 (fun _ => .slice ae m ce) := by
    rw [hw3]
    have := Blk.new (W2.alloc (.cells #[.int .i64 (ns : Int), .slice (gA g) n (gC g)] 25)) #[.slice ae m ce] 26 (fun _ => .slice ae m ce) (fun i hi => by simp at hi; match i, hi with | 0, _ => rfl)
    rw [World.size_alloc] at this
    exact this
  have EN : EnvT w3 W2.heap.size (W2.heap.size + 1) (ns : Int) g n le he m ae ce F T P := ⟨eL, eE, hrow.on B3, hev.on B3⟩
  have bT3 := bT.on h23
  have oT3 := own_on oT h23
  have zT : w1.heap.size + 1 < w3.heap.size := by omega
  have zw : w.heap.size ≤ w3.heap.size := B3.size
  clear hw3 eL eE h23 bT oT B2 B1 EV P0 z3 sV bV
  gi_wp2_with fail
  refine range_rows (gf := 47) (lb := #[.pointer (some ⟨W2.heap.size, 0, none⟩), .pointer (some ⟨W2.heap.size + 1, 0, none⟩)]) rfl (enters_of Tryd.func47 (by kernel_rfl) rfl) (rows1_in _ W2.heap.size (W2.heap.size + 1) g n le he m ce ns ae F T P w3 hl hm EN) (fun _ _ => rfl)
    (fun rb k W l o o' h h1 h2 => Blk.of_block h (World.putObj_heap_other (fun e1 => by subst e1; obtain ⟨o2, h3, h4⟩ := blk_cells h; rw [h1] at h3; cases h3; rw [h2] at h4; cases h4)))
    KpT.trans KpT.putObj
    (fun k W => ∃ v top, Blk W (w1.heap.size + 1) 32 1 (fun _ => v) ∧ RowI W w.heap.size (w3.heap.size + 1 + 1 + 1) top v k ns (fun k => trZ (ns : Int) n F T P (k + 1)) ∧ v.ownBlock ≠ some (w3.heap.size + 1 + 1) ∧ (top ≤ W.heap.size ∨ (k = 0 ∧ top = w3.heap.size + 1 + 1 + 1)) ∧ Below w.heap.size w W)
    ?own ⟨_, w3.heap.size + 1 + 1 + 1, bT3, ⟨fun _ => .slice none 0 0, fun _ => w3.heap.size + 1 + 1 + 1, oT3, Nat.le_refl _, Nat.le_refl _, fun i hi => by omega⟩, ?ne, .inr ⟨rfl, rfl⟩, B3⟩
    (fun k => { tmps := #[.agg #[.int .i64 (ns : Int), .slice (gA g) n (gC g)], .slice ae m ce, .pointer (some ⟨w.heap.size, 0, none⟩), undef, .slice none 0 0, .pointer (some ⟨w1.heap.size + 1, 0, none⟩), undef, .slice (some ⟨w3.heap.size + 1 + 1, 0, none⟩) ns ns, .agg #[.int .i64 (ns : Int), .slice (gA g) n (gC g)], .slice ae m ce, .bool true, .bool false, .slice ae m ce, .int .i64 (m : Int), .slice (some ⟨w1.heap.size, 0, none⟩) 0 m, .agg #[.int .i64 (ns : Int), .slice (gA g) n (gC g)], .slice ae m ce, .func (.func 47) #[] #[.pointer (some ⟨W2.heap.size, 0, none⟩), .pointer (some ⟨W2.heap.size + 1, 0, none⟩)], .int .i64 (k : Int), .slice (some ⟨w3.heap.size + 1 + 1, 0, none⟩) ns ns, undef, undef, undef, undef, undef, undef], defers := [] }) ?assign ?body ?done
  case ne => simp only [Value.ownBlock, ne_eq, Option.some.injEq]; omega
  case own =>
    rintro k A B row ⟨v, top, hb, ⟨A', L, a1, a2, a3, a4⟩, hne, htop, hB⟩ hg hr
    have key : ∀ b e mm f, Blk A b e mm f → b ≠ w3.heap.size + 1 + 1 → B.heap[b]? = A.heap[b]? := fun b e mm f h1 h2 => hg.block b h1.lt (fun e1 => by
      rcases hr b e1.symm with h | ⟨_, o, ho, hc⟩
      · exact h2 h
      · obtain ⟨o2, h3, h4⟩ := blk_cells h1
        rw [ho] at h3; cases h3; rw [hc] at h4; cases h4)
    have hL : ∀ i, i < k → L i ≤ L (i + 1) := fun i hi => (a4 i hi).1
    refine ⟨v, top, hb.of_block (key _ _ _ _ hb (by omega)), ⟨A', L, own_of_block a1 (fun b h1 => ?_), a2, a3, fun i hi => ⟨(a4 i hi).1, (a4 i hi).2.of_block (fun b _ _ h1 h2 _ => key _ _ _ _ h1 ?_)⟩⟩, hne, htop.imp (fun h => Nat.le_trans h hg.size) id, hB.grown hg hB.size (fun r e => ?_)⟩
    · obtain ⟨_, mm, f, h2⟩ := own_blk a1 h1
      exact key _ _ _ _ h2 (fun e => hne (by rw [h1, e]))
    · have := rise' hL (Nat.zero_le i) (Nat.le_of_lt hi)
      omega
    · rcases hr r e with h | ⟨h, _⟩ <;> omega
  case assign =>
    intro l k W K hK
    gi_wp2
    exact hK
  case body =>
    rintro l k W hk ⟨v, top, hb, ⟨A', L, q1, q2, q3, q4⟩, hne, htop, hB⟩ hrw
    have zr : w3.heap.size + 1 + 1 < W.heap.size := Blk.lt hrw
    have htop' : top ≤ W.heap.size := by omega
    have c0 := hb.cell (i := 0) (by omega)
    have zt := hb.lt
    gi_wp2_with fail
    have kl := cloneI_any (some ⟨w3.heap.size + 1 + 1, 0, none⟩) (w3.heap.size + 1 + 1) (w3.heap.size + 1 + 1 + 1) ns ns (trZ (ns : Int) n F T P (k + 1)) W.drew (by omega) (IntB.row hrw)
    refine wpIn_region_any (by kernel_rfl) ?_
    change wpAnyIn _ _ _ _ _ _ _ _ _ (World.drew _)
    refine wpAnyIn_ready (rs := [0, 1]) (by kernel_rfl) (by simp) ?_
    refine AllReadyIn.cons rfl (fun K hK => ?_) (AllReadyIn.cons rfl (fun K hK => ?_) AllReadyIn.nil)
    · go_simp
      refine hK _ _ ?_
      clear hK K
      refine wpAnyIn_ready (rs := [1]) (by kernel_rfl) (by simp) ?_
      refine AllReadyIn.cons rfl (fun K hK => ?_) AllReadyIn.nil
      go_simp
      refine hK _ _ ?_
      clear hK K
      refine wpAnyIn_ready (rs := [2]) (by kernel_rfl) (by simp) ?_
      refine AllReadyIn.cons rfl (fun K hK => ?_) AllReadyIn.nil
      go_simp
      refine ⟨trivial, (CallsIn.inRound l (callsIn_wide.2 kl)).mono ?_⟩
      rintro e w5 ⟨a5, c5, rfl, s5, hb5⟩
      have h5 : Below W.heap.size W w5 := (Below.refl W.heap.size W).drew.trans hb5
      have z5 := h5.size
      have d5 : w5.cell? ⟨w1.heap.size + 1, 0, none⟩ = some v := (h5.cell (p := ⟨w1.heap.size + 1, 0, none⟩) zt).trans c0
      have zt5 : w1.heap.size + 1 < w5.heap.size := by omega
      refine hK _ _ ?_
      clear hK K
      refine wpAnyIn_ready (rs := [3]) (by kernel_rfl) (by simp) ?_
      refine AllReadyIn.cons rfl (fun K hK => ?_) AllReadyIn.nil
      go_simp
      refine hK _ _ ?_
      clear hK K
      obtain ⟨v', w6, hrun, r1, r2, _⟩ := run_append_own (P := Tryd.prog) (w := w5.alloc (.cells #[.slice a5 ns c5] 44)) w.heap.size 32 32 44 i0 _ 1 24 Tryd.underlying32 hi hz0 hz1 hz2 rfl (by decide) v k (rwL A' k) (own_on q1 (below_alloc h5 _)) ⟨w5.heap.size, 0, none⟩ 1 1 [.slice a5 ns c5] rfl (cell_one w5 _ _) (fun u hu => by simp only [List.mem_cons, List.not_mem_nil, or_false] at hu; subst hu; rfl) (by unfold maxLen; omega) (by omega) (by simp; omega)
      obtain ⟨g6, cap6, rfl⟩ := own_some r1 (by omega)
      obtain ⟨b6, fin⟩ := truth_fin (Z := fun k => trZ (ns : Int) n F T P (k + 1)) hB hb (by omega) hrw q1 q2 q3 q4 rfl htop' h5 s5 (Nat.le_refl _) hb5.size (Nat.le_refl _) r1 r2
      have x6 := b6.cell (i := 0) (by omega)
      have f6 := b6.frozen 0
      have FI : Hid _ := fin
      clear fin r1 r2
      refine wpAnyIn_ready (rs := [4]) (by kernel_rfl) (by simp) ?_ 
      refine AllReadyIn.cons rfl (fun K hK => opIn_append _ rfl _ _ _ rfl rfl rfl hrun (hK _ _ ?_)) AllReadyIn.nil
      go_simp
      refine wpAnyIn_ready (rs := [5]) (by kernel_rfl) (by simp) ?_
      refine AllReadyIn.cons rfl (fun K hK => ?_) AllReadyIn.nil
      go_simp
      refine hK _ _ ?_
      clear hK K
      refine wpAnyIn_done (by kernel_rfl) ?_ _
      gi_wp2
      exact FI.out
    · go_simp
      refine hK _ _ ?_
      clear hK K
      refine wpAnyIn_ready (rs := [0, 2]) (by kernel_rfl) (by simp) ?_
      refine AllReadyIn.cons rfl (fun K hK => ?_) (AllReadyIn.cons rfl (fun K hK => ?_) AllReadyIn.nil)
      · go_simp
        refine hK _ _ ?_
        clear hK K
        refine wpAnyIn_ready (rs := [2]) (by kernel_rfl) (by simp) ?_
        refine AllReadyIn.cons rfl (fun K hK => ?_) AllReadyIn.nil
        go_simp
        refine ⟨trivial, (CallsIn.inRound l (callsIn_wide.2 kl)).mono ?_⟩
        rintro e w5 ⟨a5, c5, rfl, s5, hb5⟩
        have h5 : Below W.heap.size W w5 := (Below.refl W.heap.size W).drew.trans hb5
        have z5 := h5.size
        have d5 : w5.cell? ⟨w1.heap.size + 1, 0, none⟩ = some v := (h5.cell (p := ⟨w1.heap.size + 1, 0, none⟩) zt).trans c0
        have zt5 : w1.heap.size + 1 < w5.heap.size := by omega
        refine hK _ _ ?_
        clear hK K
        refine wpAnyIn_ready (rs := [3]) (by kernel_rfl) (by simp) ?_
        refine AllReadyIn.cons rfl (fun K hK => ?_) AllReadyIn.nil
        go_simp
        refine hK _ _ ?_
        clear hK K
        obtain ⟨v', w6, hrun, r1, r2, _⟩ := run_append_own (P := Tryd.prog) (w := w5.alloc (.cells #[.slice a5 ns c5] 44)) w.heap.size 32 32 44 i0 _ 1 24 Tryd.underlying32 hi hz0 hz1 hz2 rfl (by decide) v k (rwL A' k) (own_on q1 (below_alloc h5 _)) ⟨w5.heap.size, 0, none⟩ 1 1 [.slice a5 ns c5] rfl (cell_one w5 _ _) (fun u hu => by simp only [List.mem_cons, List.not_mem_nil, or_false] at hu; subst hu; rfl) (by unfold maxLen; omega) (by omega) (by simp; omega)
        obtain ⟨g6, cap6, rfl⟩ := own_some r1 (by omega)
        obtain ⟨b6, fin⟩ := truth_fin (Z := fun k => trZ (ns : Int) n F T P (k + 1)) hB hb (by omega) hrw q1 q2 q3 q4 rfl htop' h5 s5 (Nat.le_refl _) hb5.size (Nat.le_refl _) r1 r2
        have x6 := b6.cell (i := 0) (by omega)
        have f6 := b6.frozen 0
        have FI : Hid _ := fin
        clear fin r1 r2
        refine wpAnyIn_ready (rs := [4]) (by kernel_rfl) (by simp) ?_ 
        refine AllReadyIn.cons rfl (fun K hK => opIn_append _ rfl _ _ _ rfl rfl rfl hrun (hK _ _ ?_)) AllReadyIn.nil
        go_simp
        refine wpAnyIn_ready (rs := [5]) (by kernel_rfl) (by simp) ?_
        refine AllReadyIn.cons rfl (fun K hK => ?_) AllReadyIn.nil
        go_simp
        refine hK _ _ ?_
        clear hK K
        refine wpAnyIn_done (by kernel_rfl) ?_ _
        gi_wp2
        exact FI.out
      · go_simp
        refine ⟨trivial, (CallsIn.inRound l (callsIn_wide.2 kl)).mono ?_⟩
        rintro e w5 ⟨a5, c5, rfl, s5, hb5⟩
        have h5 : Below W.heap.size W w5 := (Below.refl W.heap.size W).drew.trans hb5
        have z5 := h5.size
        have d5 : w5.cell? ⟨w1.heap.size + 1, 0, none⟩ = some v := (h5.cell (p := ⟨w1.heap.size + 1, 0, none⟩) zt).trans c0
        have zt5 : w1.heap.size + 1 < w5.heap.size := by omega
        refine hK _ _ ?_
        clear hK K
        refine wpAnyIn_ready (rs := [0, 3]) (by kernel_rfl) (by simp) ?_
        refine AllReadyIn.cons rfl (fun K hK => ?_) (AllReadyIn.cons rfl (fun K hK => ?_) AllReadyIn.nil)
        · go_simp
          refine hK _ _ ?_
          clear hK K
          refine wpAnyIn_ready (rs := [3]) (by kernel_rfl) (by simp) ?_
          refine AllReadyIn.cons rfl (fun K hK => ?_) AllReadyIn.nil
          go_simp
          refine hK _ _ ?_
          clear hK K
          obtain ⟨v', w6, hrun, r1, r2, _⟩ := run_append_own (P := Tryd.prog) (w := w5.alloc (.cells #[.slice a5 ns c5] 44)) w.heap.size 32 32 44 i0 _ 1 24 Tryd.underlying32 hi hz0 hz1 hz2 rfl (by decide) v k (rwL A' k) (own_on q1 (below_alloc h5 _)) ⟨w5.heap.size, 0, none⟩ 1 1 [.slice a5 ns c5] rfl (cell_one w5 _ _) (fun u hu => by simp only [List.mem_cons, List.not_mem_nil, or_false] at hu; subst hu; rfl) (by unfold maxLen; omega) (by omega) (by simp; omega)
          obtain ⟨g6, cap6, rfl⟩ := own_some r1 (by omega)
          obtain ⟨b6, fin⟩ := truth_fin (Z := fun k => trZ (ns : Int) n F T P (k + 1)) hB hb (by omega) hrw q1 q2 q3 q4 rfl htop' h5 s5 (Nat.le_refl _) hb5.size (Nat.le_refl _) r1 r2
          have x6 := b6.cell (i := 0) (by omega)
          have f6 := b6.frozen 0
          have FI : Hid _ := fin
          clear fin r1 r2
          refine wpAnyIn_ready (rs := [4]) (by kernel_rfl) (by simp) ?_ 
          refine AllReadyIn.cons rfl (fun K hK => opIn_append _ rfl _ _ _ rfl rfl rfl hrun (hK _ _ ?_)) AllReadyIn.nil
          go_simp
          refine wpAnyIn_ready (rs := [5]) (by kernel_rfl) (by simp) ?_
          refine AllReadyIn.cons rfl (fun K hK => ?_) AllReadyIn.nil
          go_simp
          refine hK _ _ ?_
          clear hK K
          refine wpAnyIn_done (by kernel_rfl) ?_ _
          gi_wp2
          exact FI.out
        · go_simp
          refine hK _ _ ?_
          clear hK K
          refine wpAnyIn_ready (rs := [0]) (by kernel_rfl) (by simp) ?_
          refine AllReadyIn.cons rfl (fun K hK => ?_) AllReadyIn.nil
          go_simp
          refine hK _ _ ?_
          clear hK K
          obtain ⟨v', w6, hrun, r1, r2, _⟩ := run_append_own (P := Tryd.prog) (w := w5.alloc (.cells #[.slice a5 ns c5] 44)) w.heap.size 32 32 44 i0 _ 1 24 Tryd.underlying32 hi hz0 hz1 hz2 rfl (by decide) v k (rwL A' k) (own_on q1 (below_alloc h5 _)) ⟨w5.heap.size, 0, none⟩ 1 1 [.slice a5 ns c5] rfl (cell_one w5 _ _) (fun u hu => by simp only [List.mem_cons, List.not_mem_nil, or_false] at hu; subst hu; rfl) (by unfold maxLen; omega) (by omega) (by simp; omega)
          obtain ⟨g6, cap6, rfl⟩ := own_some r1 (by omega)
          obtain ⟨b6, fin⟩ := truth_fin (Z := fun k => trZ (ns : Int) n F T P (k + 1)) hB hb (by omega) hrw q1 q2 q3 q4 rfl htop' h5 s5 (Nat.le_refl _) hb5.size (Nat.le_refl _) r1 r2
          have x6 := b6.cell (i := 0) (by omega)
          have f6 := b6.frozen 0
          have FI : Hid _ := fin
          clear fin r1 r2
          refine wpAnyIn_ready (rs := [4]) (by kernel_rfl) (by simp) ?_ 
          refine AllReadyIn.cons rfl (fun K hK => opIn_append _ rfl _ _ _ rfl rfl rfl hrun (hK _ _ ?_)) AllReadyIn.nil
          go_simp
          refine wpAnyIn_ready (rs := [5]) (by kernel_rfl) (by simp) ?_
          refine AllReadyIn.cons rfl (fun K hK => ?_) AllReadyIn.nil
          go_simp
          refine hK _ _ ?_
          clear hK K
          refine wpAnyIn_done (by kernel_rfl) ?_ _
          gi_wp2
          exact FI.out
  case done =>
    rintro W ⟨v, top, hb, hR, hne, htop, hB⟩ hD
    have c0 := hb.cell (i := 0) (by omega)
    have hz : w.heap.size + 1 + 1 ≤ W.heap.size := by have := hb.lt; omega
    have RW : RwF W w.heap.size W.heap.size v m ns (fun k => trZ (ns : Int) n F T P (k + 1)) := by
      rcases htop with h | ⟨rfl, rfl⟩
      · exact hR.rows (by omega) h
      · obtain ⟨A', L, q1, _⟩ := hR
        rcases q1.2 with ⟨rfl, _⟩ | ⟨g', cap', cur, rfl, _⟩
        · exact RwF.nil _ _ _ _ _ _ (by omega) _
        · exact RwF.nil _ _ _ _ _ _ (by omega) _
    have RB := RwF.kept RW (grownBy_putObj' W w3.heap.size (.deferred none)) (fun r e => by cases e; exact ⟨_, hD, rfl⟩)
    have BB : Below w.heap.size w (W.putObj w3.heap.size (.deferred none)) := hB.grown (grownBy_putObj' W w3.heap.size (.deferred none)) hB.size (fun r e => by cases e; exact zw)
    have HR : Hid _ := RB
    clear hR RW RB hne htop hb
    gi_wp2
    refine ⟨by simp, .inl ⟨_, _, rfl, run_takeDeferred hD, ?_⟩⟩
    refine ⟨_, results_tmp rfl _ _ _, _, rfl, ?_, BB⟩
    rw [World.putObj_size]
    exact HR.out

end Go.Proofs.YtlpopfhaephfaaaDoor

namespace Go.Proofs.YtlpopfhaephfaaaDoor
open Go.RowKit Go.Extern.Stop Go.Stop Go.Extern

theorem Tryd.esTypeOf (v : Value) (w : World) : (Extern.ReflectliteType.typeOf #[.iface 155 v]).run Tryd.prog w = .ok (.iface 127 (.agg #[.pointer (some ⟨4, 155, none⟩)])) w := by kernel_rfl
theorem Tryd.esComparable (w : World) : ((Extern.ReflectliteType.method fun t => do Rtype.noPackHeld "Comparable" t; pure (.bool (← typeInfo t).comparable)) #[.agg #[.pointer (some ⟨4, 155, none⟩)]]).run Tryd.prog w = .ok (.bool true) w := by kernel_rfl
theorem Tryd.esCallT (v : Value) (w : World) : (callFunc 45 #[.iface 155 v]).run Tryd.prog w = .ok (.value (.iface 127 (.agg #[.pointer (some ⟨4, 155, none⟩)]))) w := by
  rw [@run_callFunc_extern Tryd.prog 45 _ Extern.ReflectliteType.typeOf Tryd.func45 (by kernel_rfl) (by kernel_rfl) (by kernel_rfl) (by kernel_rfl), Tryd.esTypeOf]
  rfl
theorem Tryd.esCallC (w : World) : (callFunc 94 #[.agg #[.pointer (some ⟨4, 155, none⟩)]]).run Tryd.prog w = .ok (.value (.bool true)) w := by
  rw [@run_callFunc_extern Tryd.prog 94 _ (Extern.ReflectliteType.method fun t => do Rtype.noPackHeld "Comparable" t; pure (.bool (← typeInfo t).comparable)) Tryd.func94 (by kernel_rfl) (by kernel_rfl) (by kernel_rfl) (by kernel_rfl), Tryd.esComparable]
  rfl
theorem Tryd.esMethod (v : Value) (w : World) : (Go.method 292 127 v "Comparable").run Tryd.prog w = .ok (94, v) w := by kernel_rfl
theorem Tryd.esComp : (Tryd.prog.info? 155).map (·.comparable) = some true := by kernel_rfl
theorem Tryd.esSize : (Tryd.prog.info? 180).map (·.size) = some 1 := by kernel_rfl
theorem Tryd.esNoIs (v : Value) (xT : TypeId) (w : World) : (Instr.typeAssert (.iface 155 v) xT 129 true).run Tryd.prog w = .ok (.tuple #[.nilIface, .bool false]) w := run_typeAssert_lacksB Tryd.underlying129 (by kernel_rfl) (by kernel_rfl) v xT w
theorem Tryd.esNoUw (v : Value) (xT : TypeId) (w : World) : (Instr.typeAssert (.iface 155 v) xT 132 true).run Tryd.prog w = .ok (.tuple #[.nilIface, .bool false]) w := run_typeAssert_lacksB Tryd.underlying132 (by kernel_rfl) (by kernel_rfl) v xT w
theorem Tryd.esNoUws (v : Value) (xT : TypeId) (w : World) : (Instr.typeAssert (.iface 155 v) xT 134 true).run Tryd.prog w = .ok (.tuple #[.nilIface, .bool false]) w := run_typeAssert_lacksB Tryd.underlying134 (by kernel_rfl) (by kernel_rfl) v xT w

/-- an error of errors.New's make is itself -/
theorem is_same (a : Addr) (w : World) :
    Calls Tryd.prog 24 #[.iface 155 (.pointer (some a)), .iface 155 (.pointer (some a))] w fun e w' => e = .returned (.bool true) ∧ w' = w := by
  obtain ⟨i, hi, hcmp⟩ := Option.map_eq_some_iff.1 Tryd.esComp
  obtain ⟨j, hj, hjs⟩ := Option.map_eq_some_iff.1 Tryd.esSize
  have hT := Tryd.esCallT
  have hM := Tryd.esCallC
  have mR := Tryd.esMethod
  have heq := run_eql_iface_ptr_same (P := Tryd.prog) w a Tryd.underlying65 Tryd.underlying155 hi hcmp hj
  go_enter Tryd.func24, Tryd.ntmps24
  go_wp2
  refine wp_loop_rounds 1 ?_
  rw [rounds_succ]
  go_wp2
  go_ret
  exact ⟨rfl, rfl⟩

theorem is_nil (b : Addr) (w : World) :
    Calls Tryd.prog 24 #[.nilIface, .iface 155 (.pointer (some b))] w fun e w' => e = .returned (.bool false) ∧ w' = w := by
  have hn := run_eql_iface_nil_left (P := Tryd.prog) w 155 (.pointer (some b)) Tryd.underlying65
  go_enter Tryd.func24, Tryd.ntmps24
  go_wp2
  go_ret
  exact ⟨rfl, rfl⟩

/-- two of errors.New's make at different places -/
theorem is_other (a b : Addr) (ca cb : Array Value) (ta tb : TypeId) (w : World) (hne : a ≠ b) (ha : w.heap[a.block]? = some (.cells ca ta (0, 0))) (hb : w.heap[b.block]? = some (.cells cb tb (0, 0))) :
    Calls Tryd.prog 24 #[.iface 155 (.pointer (some a)), .iface 155 (.pointer (some b))] w fun e w' => e = .returned (.bool false) ∧ w' = w := by
  obtain ⟨i, hi, hcmp⟩ := Option.map_eq_some_iff.1 Tryd.esComp
  obtain ⟨j, hj, hjs⟩ := Option.map_eq_some_iff.1 Tryd.esSize
  have hT := Tryd.esCallT
  have hM := Tryd.esCallC
  have mR := Tryd.esMethod
  have nE := Tryd.esNoIs
  have uE := Tryd.esNoUw
  have vE := Tryd.esNoUws
  have heq := run_eql_iface_ptr_other (P := Tryd.prog) w Tryd.underlying65 Tryd.underlying155 hi hcmp hj (by rw [hjs]; decide) hne ha hb
  go_enter Tryd.func24, Tryd.ntmps24
  go_wp2
  refine wp_loop_rounds 1 ?_
  rw [rounds_succ]
  go_wp2
  go_ret
  exact ⟨rfl, rfl⟩

end Go.Proofs.YtlpopfhaephfaaaDoor

namespace Go.Proofs.YtlpopfhaephfaaaDoor
open Go.RowKit

/-- an error that is none, or one of the four -/
def errV (a : Nat → Addr) : Option Nat → Value
  | none => .nilIface
  | some i => .iface 155 (.pointer (some (a i)))

/-- The four errors at package level, as they were laid. -/
structure Snt (W : World) (a : Nat → Addr) : Prop where
  cell : ∀ i, i < 4 → W.cell? ⟨i, 0, none⟩ = some (.iface 155 (.pointer (some (a i))))
  blk : ∀ i, i < 4 → ∃ c t, W.heap[(a i).block]? = some (.cells c t (0, 0))
  ne : ∀ i j, i < 4 → j < 4 → i ≠ j → a i ≠ a j

theorem Snt.on {W W' : World} {a : Nat → Addr} (h : Snt W a) (hb : Below W.heap.size W W') : Snt W' a :=
  ⟨fun i hi => (hb.cell (p := ⟨i, 0, none⟩) (World.block_lt_of_cell? W _ (h.cell i hi))).trans (h.cell i hi),
   fun i hi => by obtain ⟨c, t, hc⟩ := h.blk i hi; exact ⟨c, t, (hb.block _ (Array.getElem?_eq_some_iff.1 hc).1).trans hc⟩, h.ne⟩

/-- why an event lies, the row behind it being given -/
def lieE (S : Int) (n ns : Nat) (Z : Nat → Int) (op f d : Int) : Option Nat :=
  if evB S n op f d = false then some 1 else if op = 5 ∧ ¬ Z f.toNat = 0 then some 2 else if (List.range ns).any (fun s => decide (Z s < 0)) then some 3 else none

theorem min_one (Z : Nat → Int) : Z 0 < 0 ↔ ∃ s, s < 1 ∧ Z s < 0 := by
  constructor
  · exact fun h => ⟨0, by omega, h⟩
  · rintro ⟨s, h1, h2⟩
    have h0 : s = 0 := by omega
    rw [h0] at h2
    exact h2
theorem min_step {Z : Nat → Int} {k : Nat} {z y x : Int} (hz : z < 0 ↔ ∃ s, s < k ∧ Z s < 0) (ey : Z k = y) (hx : (x < 0 ↔ z < 0 ∨ y < 0)) : x < 0 ↔ ∃ s, s < k + 1 ∧ Z s < 0 := by
  rw [hx, hz]
  constructor
  · rintro (⟨s, h1, h2⟩ | h)
    · exact ⟨s, by omega, h2⟩
    · exact ⟨k, by omega, by rw [ey]; exact h⟩
  · rintro ⟨s, h1, h2⟩
    rcases (show s < k ∨ s = k by omega) with h | h
    · exact .inl ⟨s, h, h2⟩
    · subst h; right; rw [← ey]; exact h2

set_option maxHeartbeats 1000000 in
theorem minS_any (rb ns : Nat) (Z : Nat → Int) (w : World) (hp : 0 < ns) (hn : ns ≤ 60) (hb : IntB w rb ns Z) :
    Calls Tryd.prog 62 #[.slice (some ⟨rb, 0, none⟩) ns ns] w fun e w' => ∃ z, e = .returned (.int .i64 z) ∧ (z < 0 ↔ (List.range ns).any (fun s => decide (Z s < 0)) = true) ∧ w' = w := by
  have c0 := Blk.cell hb hp
  have hp' : ¬ (ns : Int) < 1 := by omega
  have hp1 : (0 : Int) < (ns : Int) := by omega
  go_enter Tryd.func62, Tryd.ntmps62
  go_wp2
  go_loopw [3, 4] (fun q i wr => ∃ (k : Nat) (z : Int), 1 ≤ k ∧ k ≤ ns ∧ i = .int .i64 k ∧ q = .int .i64 z ∧ (z < 0 ↔ ∃ s, s < k ∧ Z s < 0) ∧ wr = w) (fun _ i _ => ns - (intOf i).toNat)
  case atStart => exact ⟨1, Z 0, Nat.le_refl _, hp, rfl, rfl, min_one Z, rfl⟩
  case round =>
    obtain ⟨k, z, hk1, hk, rfl, rfl, hz, rfl⟩ := hrel
    by_cases hlt : k < ns
    · have ck := Blk.cell hb hlt
      have hk2 : (k : Int) < (ns : Int) := by omega
      obtain ⟨y, ey⟩ : ∃ y, Z k = y := ⟨_, rfl⟩
      simp only [ey] at ck
      have HZ : Hid _ := hz
      have EY : Hid _ := ey
      clear hz ey c0
      by_cases hyz : y < z
      · go_wp2
        go_roundw
        case rel => exact ⟨k + 1, y, by omega, by omega, by go_num, rfl, min_step HZ.out EY.out (by omega), trivial⟩
        case measure => simp [intOf]; omega
      · go_wp2
        go_roundw
        case rel => exact ⟨k + 1, z, by omega, by omega, by go_num, rfl, min_step HZ.out EY.out (by omega), trivial⟩
        case measure => simp [intOf]; omega
    · have : k = ns := by omega
      subst this
      go_wp2
      go_ret
      refine ⟨z, rfl, ?_, rfl⟩
      rw [hz, List.any_eq_true]
      simp

set_option maxRecDepth 100000 in
set_option maxHeartbeats 2000000 in
theorem lieAt_any (S op f d : Int) (g n ns rb : Nat) (Z : Nat → Int) (a : Nat → Addr) (w : World) (hn : n ≤ 120) (hp : 0 < ns) (hs : ns ≤ 60) (hS : (ns : Int) = S) (hb : IntB w rb ns Z) (ha : Snt w a) :
    Calls Tryd.prog 44 #[.agg #[.int .i64 S, .slice (gA g) n (gC g)], .agg #[.int .i64 op, .int .i64 f, .int .i64 d], .slice (some ⟨rb, 0, none⟩) ns ns] w fun e w' => e = .returned (errV a (lieE S n ns Z op f d)) ∧ Below w.heap.size w w' := by
  have kh := fun W => happensIn_any S op f d n g W hn
  have G := fun W (hW : Below w.heap.size w W) i (hi : i < 4) => (ha.on hW).cell i hi
  have km := fun W (hW : Below w.heap.size w W) => minS_any rb ns Z W hp hs (Blk.on hb hW)
  have eLB : lieE S n ns Z op f d = if evB S n op f d = false then some 1 else if op = 5 ∧ ¬ Z f.toNat = 0 then some 2 else if (List.range ns).any (fun s => decide (Z s < 0)) then some 3 else none := rfl
  obtain ⟨B, eB⟩ : ∃ B, (List.range ns).any (fun s => decide (Z s < 0)) = B := ⟨_, rfl⟩
  simp only [eB] at km eLB
  rw [eLB]
  clear eLB eB
  cases hev : evB S n op f d
  · have e1 : hapI S n op f d = .nilIface := by unfold hapI; rw [hev]; rfl
    rw [e1] at kh
    rw [if_pos rfl]
    clear e1 hev
    go_enter Tryd.func44, Tryd.ntmps44
    go_wp2_with fail
    refine (kh _).mono ?_
    rintro e w1 ⟨rfl, hb1⟩
    have B1 := below_on (show Below w.heap.size w _ from (by repeat (first | exact Below.refl _ _ | assumption | refine below_alloc ?_ _ | refine Below.setCell ?_ (by first | omega | (simp; done) | (simp; omega)) _ | refine Below.alloc ?_ (by first | omega | (simp; done) | (simp; omega)) _ | refine Below.drew ?_))) hb1
    have c1 := G _ B1 1 (by omega)
    go_wp2
    go_ret
    exact ⟨rfl, B1⟩
  · have e1 : hapI S n op f d = hapV op f d := by unfold hapI; rw [hev]; rfl
    rw [e1] at kh
    by_cases h5 : op = 5
    · subst h5
      unfold evB at hev
      rw [if_neg (by omega), if_neg (by omega), if_pos rfl] at hev
      simp only [decide_eq_true_eq] at hev
      obtain ⟨h1, h2, rfl⟩ := hev
      obtain ⟨k, rfl⟩ : ∃ k : Nat, f = (k : Int) := ⟨f.toNat, by omega⟩
      have hk : k < ns := by omega
      have hk' : (k : Int) < (ns : Int) := by omega
      have v1 : hapV 5 (k : Int) 0 = .iface 123 (.agg #[.int .i64 (k : Int)]) := by simp [hapV]
      rw [v1] at kh
      have as_reset : ∀ (v : Value) (W : World), (Instr.typeAssert (.iface 123 v) 98 123 true).run Tryd.prog W = .ok (.tuple #[v, .bool true]) W := fun _ _ => by kernel_rfl
      rw [if_neg (by decide)]
      simp only [true_and, Int.toNat_natCast]
      clear v1 e1
      obtain ⟨x, ex⟩ : ∃ x, Z k = x := ⟨_, rfl⟩
      have XC := fun W (hW : Below w.heap.size w W) => Blk.cell (Blk.on hb hW) hk
      simp only [ex] at XC ⊢
      have zrb := Blk.lt hb
      clear ex
      by_cases hx : x = 0
      · subst hx
        rw [if_neg (by decide)]
        go_enter Tryd.func44, Tryd.ntmps44
        go_wp2_with fail
        refine (kh _).mono ?_
        rintro e w1 ⟨rfl, hb1⟩
        have B1 := below_on (show Below w.heap.size w _ from (by repeat (first | exact Below.refl _ _ | assumption | refine below_alloc ?_ _ | refine Below.setCell ?_ (by first | omega | (simp; done) | (simp; omega)) _ | refine Below.alloc ?_ (by first | omega | (simp; done) | (simp; omega)) _ | refine Below.drew ?_))) hb1
        have c1 := XC _ B1
        have zr1 : rb < w1.heap.size := by have := B1.size; omega
        go_wp2_with fail
        refine (km _ (below_alloc B1 _)).mono ?_
        rintro e w2 ⟨z, rfl, hz, rfl⟩
        have c3 := G _ (below_alloc B1 (.cells #[.int .i64 (k : Int)] 123)) 3 (by omega)
        cases B
        · have hz0 : ¬ z < 0 := fun h => by cases hz.1 h
          go_wp2
          go_ret
          exact ⟨rfl, below_alloc B1 _⟩
        · have hz0 : z < 0 := hz.2 rfl
          go_wp2
          go_ret
          exact ⟨rfl, below_alloc B1 _⟩
      · rw [if_pos hx]
        have hx' : (x == 0) = false := by simp [hx]
        go_enter Tryd.func44, Tryd.ntmps44
        go_wp2_with fail
        refine (kh _).mono ?_
        rintro e w1 ⟨rfl, hb1⟩
        have B1 := below_on (show Below w.heap.size w _ from (by repeat (first | exact Below.refl _ _ | assumption | refine below_alloc ?_ _ | refine Below.setCell ?_ (by first | omega | (simp; done) | (simp; omega)) _ | refine Below.alloc ?_ (by first | omega | (simp; done) | (simp; omega)) _ | refine Below.drew ?_))) hb1
        have c1 := XC _ B1
        have zr1 : rb < w1.heap.size := by have := B1.size; omega
        have c3 := G _ B1 2 (by omega)
        have z2 : 2 < w1.heap.size := World.block_lt_of_cell? w1 _ c3
        go_wp2
        go_ret
        exact ⟨rfl, below_alloc B1 _⟩
    · rw [if_neg (by decide), if_neg (fun h => h5 h.1)]
      obtain ⟨t, v, hv⟩ := hap_ne hev
      have no : ∀ (W : World), (Instr.typeAssert (hapV op f d) 98 123 true).run Tryd.prog W = .ok (.tuple #[.agg #[.int .i64 0], .bool false]) W := by
        have k1 : ∀ (W : World), (Instr.typeAssert (.iface 140 (.agg #[.int .i64 f, .int .i64 d])) 98 123 true).run Tryd.prog W = .ok (.tuple #[.agg #[.int .i64 0], .bool false]) W := fun _ => by kernel_rfl
        have k2 : ∀ (W : World), (Instr.typeAssert (.iface 147 (.agg #[.int .i64 f, .int .i64 d])) 98 123 true).run Tryd.prog W = .ok (.tuple #[.agg #[.int .i64 0], .bool false]) W := fun _ => by kernel_rfl
        have k3 : ∀ (W : World), (Instr.typeAssert (.iface 149 (.agg #[.int .i64 f])) 98 123 true).run Tryd.prog W = .ok (.tuple #[.agg #[.int .i64 0], .bool false]) W := fun _ => by kernel_rfl
        have k4 : ∀ (W : World), (Instr.typeAssert (.iface 150 (.agg #[.int .i64 f])) 98 123 true).run Tryd.prog W = .ok (.tuple #[.agg #[.int .i64 0], .bool false]) W := fun _ => by kernel_rfl
        have k5 : ∀ (W : World), (Instr.typeAssert .nilIface 98 123 true).run Tryd.prog W = .ok (.tuple #[.agg #[.int .i64 0], .bool false]) W := fun _ => by kernel_rfl
        intro W
        unfold hapV
        by_cases h2 : d = 1 ∨ d = -1
        · rw [if_pos h2]
          by_cases h3 : op = 1
          · rw [if_pos h3]; exact k1 W
          · rw [if_neg h3]
            by_cases h4 : op = 2
            · rw [if_pos h4]; exact k2 W
            · rw [if_neg h4]; exact k5 W
        · rw [if_neg h2]
          by_cases h3 : d = 0
          · rw [if_pos h3]
            by_cases h4 : op = 3
            · rw [if_pos h4]; exact k3 W
            · rw [if_neg h4]
              by_cases h6 : op = 4
              · rw [if_pos h6]; exact k4 W
              · rw [if_neg h6, if_neg h5]; exact k5 W
          · rw [if_neg h3]; exact k5 W
      rw [← e1, hv] at no
      rw [← e1, hv] at kh
      clear hv e1
      go_enter Tryd.func44, Tryd.ntmps44
      go_wp2_with fail
      refine (kh _).mono ?_
      rintro e w1 ⟨rfl, hb1⟩
      have B1 := below_on (show Below w.heap.size w _ from (by repeat (first | exact Below.refl _ _ | assumption | refine below_alloc ?_ _ | refine Below.setCell ?_ (by first | omega | (simp; done) | (simp; omega)) _ | refine Below.alloc ?_ (by first | omega | (simp; done) | (simp; omega)) _ | refine Below.drew ?_))) hb1
      go_wp2_with fail
      refine (km _ (below_alloc B1 _)).mono ?_
      rintro e w2 ⟨z, rfl, hz, rfl⟩
      have c3 := G _ (below_alloc B1 (.cells #[.int .i64 0] 123)) 3 (by omega)
      cases B
      · have hz0 : ¬ z < 0 := fun h => by cases hz.1 h
        go_wp2
        go_ret
        exact ⟨rfl, below_alloc B1 _⟩
      · have hz0 : z < 0 := hz.2 rfl
        go_wp2
        go_ret
        exact ⟨rfl, below_alloc B1 _⟩

end Go.Proofs.YtlpopfhaephfaaaDoor

namespace Go.Proofs.YtlpopfhaephfaaaDoor
open Go.RowKit Go.Shelf
attribute [local go_sem] Oper.semAt_some

/-- How a round's body is left here: it goes on, or it returns. -/
def onPostX (R Rx : World → Prop) : Exit → Act → World → Prop
  | .normal, _, W' => R W'
  | .ret, _, W' => Rx W'
  | .exit _, _, _ => False
  | .goto _, _, _ => False
  | .panic _, _, _ => False
  | .outgrown, _, _ => False

/-- An iterator that makes one block of its own (at the heap's end), turns it ahead of each of m rounds, and hands it to the round. -/
def SeqX (n : Nat) (P : Program) (gf : Nat) (lb : Array Value) (encs : Nat → Nat → Array Value) (m : Nat) (Rw : Nat → Nat → World → Prop) (Kp : World → World → Prop) (w0 : World) : Prop :=
  ∀ (l : Nat) (J : Nat → World → Prop) (Jx : World → Prop) (W : World), Below w0.heap.size w0 W →
    (∀ k A B row, J k A → A.grownBy B row → (∀ r, row = some r → r = W.heap.size) → J k B) →
    (∀ k W1, k < m → J k W1 → Rw W.heap.size k W1 → YieldAt Fence.wide (n - 1) P l (encs W.heap.size k) W1 fun e W' => (e = .returned (.bool true) ∧ J (k + 1) W' ∧ Rw W.heap.size k W' ∧ Kp W1 W') ∨ (e = .returned (.bool false) ∧ Jx W')) →
    J 0 W → CallsIn Fence.wide n P gf (#[.func (.yield l) #[] #[]] ++ lb) W fun e W' => (∃ v, e = .returned v) ∧ (J m W' ∨ Jx W')

theorem range_rowsX {P : Program} {n : Nat} {g : Operand} {ps : Array Tmp} {assign body : Code} {Q : Exit → Act → World → Prop} {a : Act} {w : World} {gf : Nat} {lb : Array Value}
    (hg : a.eval g = .func (.func gf) #[] lb) (eg : ∀ args w, (callFunc gf args).run P w = .ok (.enter gf args) w)
    {encs : Nat → Nat → Array Value} {m : Nat} {Rw : Nat → Nat → World → Prop} {Kp : World → World → Prop} (hseq : SeqX (n - 1) P gf lb encs m Rw Kp w)
    (hps : ∀ rb k, (encs rb k).size = ps.size)
    (hRp : ∀ rb k W l o o', Rw rb k W → W.heap[l]? = some o → o.isCells = false → Rw rb k (W.putObj l o'))
    (hKt : ∀ {A B C : World}, Kp A B → Kp B C → Kp A C) (hKb : ∀ (W : World) (l : Nat) (o o' : Obj), W.heap[l]? = some o → o.isCells = false → Kp W (W.putObj l o'))
    (I : Nat → World → Prop)
    (hI : ∀ k A B row, I k A → A.grownBy B row → (∀ r, row = some r → r = w.heap.size + 1 + 1 ∨ (w.heap.size ≤ r ∧ ∃ o : Obj, A.heap[r]? = some o ∧ o.isCells = false)) → I k B)
    (Ix : World → Prop) (hIx : ∀ A B row, Ix A → A.grownBy B row → (∀ r, row = some r → w.heap.size ≤ r ∧ ∃ o : Obj, A.heap[r]? = some o ∧ o.isCells = false) → Ix B)
    (h0 : I 0 w) (a₁ : Nat → Act)
    (hassign : ∀ (l k : Nat) (W : World) (K : Act → World → Prop), K (a₁ k) W →
      assign.wpIn (Fence.wide.inRound l) (n - 1 - 1) P (Exit.then K (fun _ _ _ => False)) { tmps := (ps.zip (encs (w.heap.size + 1 + 1) k)).foldl (fun t (p, v) => t.setIfInBounds p v) a.tmps, defers := [] } W)
    (hbody : ∀ (l k : Nat) (W : World), k < m → I k W → Rw (w.heap.size + 1 + 1) k W → body.wpIn (Fence.wide.inRound l) (n - 1 - 1) P (onPostX (fun W' => KeepsOthers W W' ∧ Kp W W' ∧ Rw (w.heap.size + 1 + 1) k W' ∧ I (k + 1) W') (fun W' => KeepsOthers W W' ∧ Ix W')) (a₁ k) W)
    (hdone : ∀ (W : World), I m W → W.heap[w.heap.size]? = some (.deferred (some [])) → Q .normal { a with defers := { target := .collected w.heap.size, args := #[] } :: a.defers } W)
    (hstop : ∀ (W : World), Ix W → W.heap[w.heap.size]? = some (.deferred (some [])) → Code.ret.wpIn Fence.wide n P Q { a with defers := { target := .collected w.heap.size, args := #[] } :: a.defers } W) :
    (Code.rangeFunc g ps assign body).wpIn Fence.wide n P Q a w := by
  refine wpIn_rangeFunc ?_
  intro fn hfn
  obtain ⟨rec, hrec⟩ : ∃ rec : LoopState → Option Code → Loop, rec = fun st pe => { state := st, pending := pe, fn, tmps := a.tmps, params := ps, assign, body, defers := w.heap.size } := ⟨_, rfl⟩
  obtain ⟨W1, hW1⟩ : ∃ W1, (w.alloc (.deferred (some []))).alloc (.loop (rec .ready none)) = W1 := ⟨_, rfl⟩
  have hL1 : W1.heap[w.heap.size + 1]? = some (.loop (rec .ready none)) := by
    rw [← hW1]; have := World.alloc_heap_new (w.alloc (.deferred (some []))) (.loop (rec .ready none)); rwa [World.size_alloc] at this
  have hK1 : W1.heap[w.heap.size]? = some (.deferred (some [])) := by
    rw [← hW1]; exact (Below.heap_alloc _ _ _ (by simp)).trans (World.alloc_heap_new w _)
  have hI1 : I 0 W1 := by rw [← hW1]; exact hI _ _ _ none (hI _ _ _ none h0 (World.grownBy_alloc w _ none) (fun r e => by cases e)) (World.grownBy_alloc _ _ none) (fun r e => by cases e)
  have hb1 : Below w.heap.size w W1 := by
    rw [← hW1]; exact ((Below.refl _ w).alloc (Nat.le_refl _) _).alloc (by simp) _
  have hs1 : W1.heap.size = w.heap.size + 1 + 1 := by rw [← hW1]; simp
  refine ⟨w.heap.size + 1, [{ target := .collected w.heap.size, args := #[] }], W1, { target := .fn (.func gf) lb, args := #[.func (.yield (w.heap.size + 1)) #[] #[]] }, W1, gf,
    #[.func (.yield (w.heap.size + 1)) #[] #[]] ++ lb, W1, ?_, ?_, ?_, ?_, fun h => (by cases h), ?_⟩
  · rw [← hW1, hrec]; exact run_enterLoop_outer _ _ _ _ _
  · simp only [resolve, hg]
    simp [go_sem]
  · intro f' hf'; trivial
  · simp [invoke, go_sem, eg]
  · refine (hseq (w.heap.size + 1)
      (fun k W => I k W ∧ W.heap[w.heap.size + 1]? = some (.loop (rec .ready none)) ∧ W.heap[w.heap.size]? = some (.deferred (some [])))
      (fun W => Ix W ∧ W.heap[w.heap.size + 1]? = some (.loop (rec .done (some .ret))) ∧ W.heap[w.heap.size]? = some (.deferred (some [])))
      W1 hb1
      (fun k A B row hs hg' hr => ⟨hI k A B row hs.1 hg' (fun r e => .inl (by rw [hr r e, hs1])),
        (hg'.block _ (Array.getElem?_eq_some_iff.1 hs.2.1).1 (fun e => by have := hr _ e.symm; omega)).trans hs.2.1, (hg'.block _ (Array.getElem?_eq_some_iff.1 hs.2.2).1 (fun e => by have := hr _ e.symm; omega)).trans hs.2.2⟩)
      ?_ ⟨hI1, hL1, hK1⟩).mono ?_
    · rw [hs1]
      rintro k W hk ⟨hi, hl, hd⟩ hrw
      have hlt : w.heap.size + 1 < W.heap.size := (Array.getElem?_eq_some_iff.1 hl).1
      have hy := run_yield (P := P) (args := encs (w.heap.size + 1 + 1) k) hl (by rw [hrec]; exact hps _ k)
      rw [hrec] at hy
      refine ⟨fn, _, assign, body, hy, roundIn_of_wpIn hfn (hassign _ k W _ ⟨_, run_beginRound hl (by rw [hrec]), ?_⟩)⟩
      have hl2 : (W.putObj (w.heap.size + 1) (.loop { rec .ready none with state := .busy })).heap[w.heap.size + 1]? = some (.loop { rec .ready none with state := .busy }) := World.putObj_heap_same hlt
      have hk2 : (W.putObj (w.heap.size + 1) (.loop { rec .ready none with state := .busy })).heap[w.heap.size]? = some (.deferred (some [])) := (World.putObj_heap_other (by omega)).trans hd
      have hw2 : Kp W (W.putObj (w.heap.size + 1) (.loop { rec .ready none with state := .busy })) := hKb _ _ _ _ hl rfl
      have hi2 : I k (W.putObj (w.heap.size + 1) (.loop { rec .ready none with state := .busy })) := hI _ _ _ (some (w.heap.size + 1)) hi (grownBy_putObj' _ _ _) (fun r e => by cases e; exact .inr ⟨by omega, _, hl, rfl⟩)
      refine wpIn_mono (hbody _ k _ hk hi2 (hRp _ _ _ _ _ _ hrw hl rfl)) ?_
      rintro e a3 W3 hp
      cases e with
      | normal =>
        obtain ⟨hk3, hkp3, hr3, hi3⟩ := hp
        have hl3 := hk3.same _ _ hl2 rfl
        have hd3 := hk3.same _ _ hk2 rfl
        have he := run_endRound (P := P) none hl3
        refine ⟨_, _, he, .inl ⟨rfl, ⟨hI _ _ _ (some (w.heap.size + 1)) hi3 (grownBy_putObj' _ _ _) (fun r e => by cases e; exact .inr ⟨by omega, _, hl3, rfl⟩), ?_, (World.putObj_heap_other (by omega)).trans hd3⟩, hRp _ _ _ _ _ _ hr3 hl3 rfl, hKt (hKt hw2 hkp3) (hKb _ _ _ _ hl3 rfl)⟩⟩
        rw [World.putObj_heap_same (Array.getElem?_eq_some_iff.1 hl3).1, hrec]
        rfl
      | ret =>
        obtain ⟨hk3, hi3⟩ := hp
        have hl3 := hk3.same _ _ hl2 rfl
        have hd3 := hk3.same _ _ hk2 rfl
        have he := run_endRound (P := P) (some .ret) hl3
        refine ⟨_, _, he, .inr ⟨rfl, hIx _ _ (some (w.heap.size + 1)) hi3 (grownBy_putObj' _ _ _) (fun r e => by cases e; exact ⟨by omega, _, hl3, rfl⟩), ?_, (World.putObj_heap_other (by omega)).trans hd3⟩⟩
        rw [World.putObj_heap_same (Array.getElem?_eq_some_iff.1 hl3).1, hrec]
        rfl
      | exit id => exact hp.elim
      | goto t => exact hp.elim
      | panic ch => exact hp.elim
      | outgrown => exact hp.elim
    · rintro e W2 ⟨⟨v, rfl⟩, ⟨hi, hl, hd⟩ | ⟨hi, hl, hd⟩⟩
      · exact ⟨none, _, by have := run_endLoop (P := P) hl (by rw [hrec]; simp); rw [hrec] at this; exact this, hdone _ (hI _ _ _ (some (w.heap.size + 1)) hi (grownBy_putObj' _ _ _) (fun r e => by cases e; exact .inr ⟨by omega, _, hl, rfl⟩)) ((World.putObj_heap_other (by omega)).trans hd)⟩
      · exact ⟨some .ret, _, by have := run_endLoop (P := P) hl (by rw [hrec]; simp); rw [hrec] at this; exact this, hstop _ (hIx _ _ (some (w.heap.size + 1)) hi (grownBy_putObj' _ _ _) (fun r e => by cases e; exact ⟨by omega, _, hl, rfl⟩)) ((World.putObj_heap_other (by omega)).trans hd)⟩

set_option maxRecDepth 100000 in
set_option maxHeartbeats 2000000 in
theorem rows1_inX (q bl be g n le he m ce ns : Nat) (ae : Option Addr) (F T : Nat → Int) (P : Nat → Nat → Int) (w0 : World) (hl : lokZ (ns : Int) n F T = 0) (hm : m ≤ 2000) (hE : EnvT w0 bl be (ns : Int) g n le he m ae ce F T P) :
    SeqX q Tryd.prog 47 #[.pointer (some ⟨bl, 0, none⟩), .pointer (some ⟨be, 0, none⟩)] (fun rb k => #[.int .i64 (k : Int), .slice (some ⟨rb, 0, none⟩) ns ns]) m (fun rb k W => IntB W rb ns (trZ (ns : Int) n F T P (k + 1))) KpT w0 := by
  intro l J Jx W hW hJ hY h0
  obtain ⟨r1, r2, r3⟩ := lok_range hl
  obtain ⟨Cs, zs, eCs, mk0⟩ := made_ints ns
  have mk := fun W => mk0 W (by omega)
  have EW : EnvT W bl be (ns : Int) g n le he m ae ce F T P := hE.kept (KpT.of_turned (Turned.of_below (E := fun _ => False) (lo := 0) (hi := 0) hW) id id id id)
  have y0 := EW.1.cell (i := 0) (by omega)
  have y1 := EW.2.1.cell (i := 0) (by omega)
  simp only [if_true] at y0 y1
  have b0 : IntB (W.alloc (.cells Cs 3)) W.heap.size ns (trZ (ns : Int) n F T P 0) := by
    have := Blk.new W Cs 3 (fun _ => .int .i64 0) (fun i hi => eCs i (by omega))
    rw [zs] at this
    exact this
  have EA : EnvT (W.alloc (.cells Cs 3)) bl be (ns : Int) g n le he m ae ce F T P := EW.kept (KpT.of_turned (Turned.of_below (E := fun _ => False) (lo := 0) (hi := 0) (below_alloc (Below.refl _ _) _)) id id id id)
  have JA : J 0 (W.alloc (.cells Cs 3)) := hJ _ _ _ none h0 (World.grownBy_alloc _ _ _) (fun r e => by cases e)
  have zl := EW.1.lt
  have ze := EW.2.1.lt
  clear mk0 eCs h0 hE
  refine callsIn_of_wp Tryd.func47 rfl trivial ?_ rfl
  simp only [Tryd.ntmps47, List.size_toArray, List.length_cons, List.length_nil, Nat.reduceAdd, Nat.reduceSub, Array.replicate_succ, Array.replicate_zero, List.push_toArray, List.append_toArray, List.nil_append, List.cons_append]
  gi_wp2
  gi_loopw [12] (fun i wr => ∃ k : Nat, k ≤ m ∧ i = .int .i64 k ∧ IntB wr W.heap.size ns (trZ (ns : Int) n F T P k) ∧ EnvT wr bl be (ns : Int) g n le he m ae ce F T P ∧ J k wr) (fun i _ => m - (intOf i).toNat)
  case atStart => exact ⟨0, Nat.zero_le _, rfl, b0, EA, JA⟩
  case round =>
    clear b0 EA JA EW y0 y1 mk
    obtain ⟨k, hk, rfl, hB, hE, hJk⟩ := hrel
    by_cases hlt : k < m
    · have hE' := hE
      obtain ⟨bL, bE, hrow, ⟨ae', ce', ee, he0⟩⟩ := hE'
      simp only [Value.slice.injEq] at ee
      obtain ⟨rfl, _, rfl⟩ := ee
      rcases he0 with he0 | ⟨ge, me, fe, rfl, _, _, h2, h3, h4⟩
      · omega
      obtain ⟨c0, c1, c2⟩ := trio h3 h2 hlt h4
      have y0 := bL.cell (i := 0) (by omega)
      have y1 := bL.cell (i := 1) (by omega)
      simp only [if_true, Nat.one_ne_zero, if_false] at y0 y1
      have zl' := bL.lt
      have eZ : trZ (ns : Int) n F T P (k + 1) = stepZ (ns : Int) n F T (trZ (ns : Int) n F T P k) (P k 0) (P k 1) (P k 2) := rfl
      obtain ⟨op, eop⟩ : ∃ op, P k 0 = op := ⟨_, rfl⟩
      obtain ⟨f, ef⟩ : ∃ f, P k 1 = f := ⟨_, rfl⟩
      obtain ⟨d, ed⟩ : ∃ d, P k 2 = d := ⟨_, rfl⟩
      rw [eop] at c0 eZ
      rw [ef] at c1 eZ
      rw [ed] at c2 eZ
      have hBU := below_alloc (Below.refl wr.heap.size wr) (.cells #[.int .i64 op, .int .i64 f, .int .i64 d] 56)
      have km := move_any (ns : Int) op f d g n ns W.heap.size F T (trZ (ns : Int) n F T P k) (wr.alloc (.cells #[.int .i64 op, .int .i64 f, .int .i64 d] 56)) hl rfl (hrow.alloc _) (Blk.on hB hBU) (fun s _ => by have := trZ_bound (ns : Int) n F T P k s; omega)
      rw [← eZ] at km
      have EU := hE.kept (KpT.of_turned (Turned.of_below (E := fun _ => False) (lo := 0) (hi := 0) hBU) id id id id)
      have JU := hJ _ _ _ none hJk (grown_of_below hBU) (fun r e => by cases e)
      have hi1 : (k : Int) < (m : Int) := by omega
      clear eZ eop ef ed h3 h4 bE hrow hE hJk hBU bL hB
      gi_wp2_with fail
      refine ⟨trivial, fun h => (by cases h), ?_⟩
      refine (callsIn_wide.2 km).mono ?_
      clear km
      rintro e w1 ⟨⟨v, rfl⟩, hB1, hT1⟩
      have J1 := hJ _ _ _ (some W.heap.size) JU hT1.grown1 (fun r e => by cases e; rfl)
      have E1 := EU.kept (KpT.of_turned hT1 (by decide) (by decide) (by decide) (by decide))
      obtain ⟨fn, tmps, assign, body, hy, hR⟩ := hY k w1 hlt J1 hB1
      clear J1 JU EU hT1 y0 y1 c0 c1 c2
      gi_wp2
      refine ⟨fun h => (by cases h), hR.mono ?_⟩
      rintro e W3 (⟨rfl, hJ3, hB3, hk3⟩ | ⟨rfl, hx⟩)
      · have E3 := E1.kept hk3
        clear hR hy
        gi_wp2
        go_roundw
        case rel => exact ⟨k + 1, by omega, by go_num, hB3, E3, hJ3⟩
        case measure => simp [intOf]; omega
      · gi_wp2
        refine bodyPost_ret (results_none rfl _ _ _) rfl ?_
        exact ⟨⟨_, rfl⟩, .inr hx⟩
    · gi_wp2
      go_end0
      have : k = m := by omega
      subst this
      exact ⟨⟨_, rfl⟩, .inl hJk⟩

end Go.Proofs.YtlpopfhaephfaaaDoor

namespace Go.Proofs.YtlpopfhaephfaaaDoor
open Go.RowKit Go.Shelf
attribute [local go_sem] Oper.semAt_some

/-- no event lies -/
def honP (S : Int) (n ns : Nat) (F T : Nat → Int) (P : Nat → Nat → Int) (m : Nat) : Prop := ∀ k, k < m → lieE S n ns (trZ S n F T P (k + 1)) (P k 0) (P k 1) (P k 2) = none

theorem lieE_lt {S op f d : Int} {n ns : Nat} {Z : Nat → Int} {i : Nat} (h : lieE S n ns Z op f d = some i) : i < 4 := by
  unfold lieE at h
  split at h
  · cases h; omega
  · split at h
    · cases h; omega
    · split at h
      · cases h; omega
      · cases h

theorem lie_bad (S : Int) (g n m ce : Nat) (ae : Option Addr) (F T : Nat → Int) (a : Nat → Addr) (w : World) (hm : m ≤ 1048576) (hrow : CRow w g n F T) (ha : Snt w a) (hb : ¬ (lokZ S n F T = 0 ∧ m ≤ 2000)) :
    Calls Tryd.prog 23 #[.agg #[.int .i64 S, .slice (gA g) n (gC g)], .slice ae m ce] w fun e w' => e = .returned (errV a (some 0)) ∧ Below w.heap.size w w' := by
  have kc := fun W hr => runOk_any S g n m ce ae F T W hm hr
  have e0 : (lokZ S n F T == 0 && decide (m ≤ 2000)) = false := by
    cases h1 : (lokZ S n F T == 0)
    · rfl
    · simp only [beq_iff_eq] at h1
      simp only [Bool.true_and, decide_eq_false_iff_not]
      exact fun h => hb ⟨h1, h⟩
  rw [e0] at kc
  go_enter Tryd.func23, Tryd.ntmps23
  go_wp2_with fail
  refine (kc _ (((hrow.alloc _).alloc _).alloc _)).mono ?_
  rintro e w1 ⟨rfl, hb1⟩
  have B1 := below_on (show Below w.heap.size w _ from (by repeat (first | exact Below.refl _ _ | assumption | refine below_alloc ?_ _ | refine Below.setCell ?_ (by first | omega | (simp; done) | (simp; omega)) _ | refine Below.alloc ?_ (by first | omega | (simp; done) | (simp; omega)) _ | refine Below.drew ?_))) hb1
  have c0 := (ha.on B1).cell 0 (by omega)
  have bx : Blk w1 (w.heap.size + 1 + 1) 65 1 (fun _ => .nilIface) := by
    have := (Blk.new ((w.alloc (.cells #[.int .i64 S, .slice (gA g) n (gC g)] 25)).alloc (.cells #[.slice ae m ce] 26)) #[.nilIface] 65 (fun _ => .nilIface) (fun i hi => by simp at hi; match i, hi with | 0, _ => rfl)).on hb1
    simp only [World.size_alloc] at this
    exact this
  have x0 := bx.cell (i := 0) (by omega)
  have f0 := bx.frozen 0
  have y0 := (blk_one bx (.iface 155 (.pointer (some (a 0))))).cell (i := 0) (by omega)
  go_wp2
  exact bodyPost_ret (v := .iface 155 (.pointer (some (a 0)))) (by simp only [results, Tryd.results23]; simp [go_sem, y0]) rfl ⟨rfl, B1.setCell (by first | omega | (simp; done) | (simp; omega)) _⟩

set_option maxRecDepth 100000 in
set_option maxHeartbeats 4000000 in
theorem lie_ok (g n le he m ns ce : Nat) (ae : Option Addr) (F T : Nat → Int) (P : Nat → Nat → Int) (a : Nat → Addr) (w : World) (hrow : CRow w g n F T) (hev : SlF w 56 3 le he (.slice ae m ce) m (evs P)) (ha : Snt w a) (hl : lokZ (ns : Int) n F T = 0) (hm : m ≤ 2000) :
    Calls Tryd.prog 23 #[.agg #[.int .i64 (ns : Int), .slice (gA g) n (gC g)], .slice ae m ce] w fun e w' => ∃ o, e = .returned (errV a o) ∧ (∀ i, o = some i → i < 4) ∧ (o = none ↔ honP (ns : Int) n ns F T P m) ∧ Below w.heap.size w w' := by
  obtain ⟨r1, r2, r3⟩ := lok_range hl
  have hp : 0 < ns := by omega
  have hm' : m ≤ 1048576 := by omega
  have kc := fun W hr => runOk_any (ns : Int) g n m ce ae F T W hm' hr
  have e0 : (lokZ (ns : Int) n F T == 0 && decide (m ≤ 2000)) = true := by simp [hl, hm]
  rw [e0] at kc
  clear e0
  obtain ⟨V, eV⟩ : ∃ V, ((w.alloc (.cells #[.int .i64 (ns : Int), .slice (gA g) n (gC g)] 25)).alloc (.cells #[.slice ae m ce] 26)).alloc (.cells #[.nilIface] 65) = V := ⟨_, rfl⟩
  have sV : V.heap.size = w.heap.size + 1 + 1 + 1 := by rw [← eV]; simp
  have bV : Below w.heap.size w V := by rw [← eV]; exact (by repeat (first | exact Below.refl _ _ | assumption | refine below_alloc ?_ _ | refine Below.setCell ?_ (by first | omega | (simp; done) | (simp; omega)) _ | refine Below.alloc ?_ (by first | omega | (simp; done) | (simp; omega)) _ | refine Below.drew ?_))
  have bL : Blk V w.heap.size 25 2 (fun i => if i = 0 then .int .i64 (ns : Int) else .slice (gA g) n (gC g)) := by
    rw [← eV]
    exact ((Blk.new w #[.int .i64 (ns : Int), .slice (gA g) n (gC g)] 25 _ (fun i hi => by simp at hi; match i, hi with | 0, _ => rfl | 1, _ => rfl)).alloc _).alloc _
  have bE : Blk V (w.heap.size + 1) 26 1 (fun _ => .slice ae m ce) := by
    rw [← eV]
    have := (Blk.new (w.alloc (.cells #[.int .i64 (ns : Int), .slice (gA g) n (gC g)] 25)) #[.slice ae m ce] 26 (fun _ => .slice ae m ce) (fun i hi => by simp at hi; match i, hi with | 0, _ => rfl)).alloc (.cells #[.nilIface] 65)
    simp only [World.size_alloc] at this
    exact this
  have bR : Blk V (w.heap.size + 1 + 1) 65 1 (fun _ => .nilIface) := by
    rw [← eV]
    have := Blk.new ((w.alloc (.cells #[.int .i64 (ns : Int), .slice (gA g) n (gC g)] 25)).alloc (.cells #[.slice ae m ce] 26)) #[.nilIface] 65 (fun _ => .nilIface) (fun i hi => by simp at hi; match i, hi with | 0, _ => rfl)
    simp only [World.size_alloc] at this
    exact this
  have P0 : ∀ W, Below V.heap.size V W → W.cell? ⟨w.heap.size, 0, none⟩ = some (.int .i64 (ns : Int)) ∧ W.cell? ⟨w.heap.size, 1, none⟩ = some (.slice (gA g) n (gC g)) ∧ W.cell? ⟨w.heap.size + 1, 0, none⟩ = some (.slice ae m ce) := fun W hb => ⟨(bL.on hb).cell (i := 0) (by omega), (bL.on hb).cell (i := 1) (by omega), (bE.on hb).cell (i := 0) (by omega)⟩
  have EV : Hid _ := eV
  clear eV bL bE
  refine (callsIn_wide (n := 3)).1 ?_
  refine callsIn_of_wp_marks Tryd.func23 rfl trivial ?_ rfl
  simp only [Tryd.ntmps23, List.size_toArray, List.length_cons, List.length_nil, Nat.reduceAdd, Nat.reduceSub, Array.replicate_succ, Array.replicate_zero, List.push_toArray, List.append_toArray, List.nil_append, List.cons_append]
  gi_wp2_with fail
  rw [EV.out]
  refine ⟨trivial, (callsIn_wide.2 (kc _ (hrow.on bV))).mono ?_⟩
  clear kc
  rintro e w1 ⟨rfl, B1⟩
  obtain ⟨y0, y1, y2⟩ := P0 w1 B1
  gi_wp2_with fail
  refine ⟨trivial, (callsIn_wide.2 (rows_any (ns : Int) g n m ce ae w1)).mono ?_⟩
  rintro e w3 ⟨rfl, hw3⟩
  have h13 : Below w1.heap.size w1 w3 := by rw [hw3]; exact (by repeat (first | exact Below.refl _ _ | assumption | refine below_alloc ?_ _ | refine Below.setCell ?_ (by first | omega | (simp; done) | (simp; omega)) _ | refine Below.alloc ?_ (by first | omega | (simp; done) | (simp; omega)) _ | refine Below.drew ?_))
  have z3 : w3.heap.size = w1.heap.size + 1 + 1 := by rw [hw3]; simp
  have BV3 := below_on B1 h13
  have B3 := below_on bV BV3
  have eL : Blk w3 w1.heap.size 25 2 (fun i => if i = 0 then .int .i64 (ns : Int) else .slice (gA g) n (gC g)) := by
    rw [hw3]
    exact (Blk.new w1 #[.int .i64 (ns : Int), .slice (gA g) n (gC g)] 25 _ (fun i hi => by simp at hi; match i, hi with | 0, _ => rfl | 1, _ => rfl)).alloc _
  have eE : Blk w3 (w1.heap.size + 1) 26 1 (fun _ => .slice ae m ce) := by
    rw [hw3]
    have := Blk.new (w1.alloc (.cells #[.int .i64 (ns : Int), .slice (gA g) n (gC g)] 25)) #[.slice ae m ce] 26 (fun _ => .slice ae m ce) (fun i hi => by simp at hi; match i, hi with | 0, _ => rfl)
    rw [World.size_alloc] at this
    exact this
  have EN : EnvT w3 w1.heap.size (w1.heap.size + 1) (ns : Int) g n le he m ae ce F T P := ⟨eL, eE, hrow.on B3, hev.on B3⟩
  have zV3 : V.heap.size ≤ w3.heap.size := BV3.size
  have hmx : Tryd.prog.follows .mixedOrders = true := by kernel_rfl
  clear hw3 eL eE h13 B1 EV z3 y0 y1 y2
  gi_wp2_with fail
  refine range_rowsX (gf := 47) (lb := #[.pointer (some ⟨w1.heap.size, 0, none⟩), .pointer (some ⟨w1.heap.size + 1, 0, none⟩)]) rfl (enters_of Tryd.func47 (by kernel_rfl) rfl) (rows1_inX _ w1.heap.size (w1.heap.size + 1) g n le he m ce ns ae F T P w3 hl hm EN) (fun _ _ => rfl)
    (fun rb k W l o o' h h1 h2 => Blk.of_block h (World.putObj_heap_other (fun e1 => by subst e1; obtain ⟨o2, h3, h4⟩ := blk_cells h; rw [h1] at h3; cases h3; rw [h2] at h4; cases h4)))
    KpT.trans KpT.putObj
    (fun k W => honP (ns : Int) n ns F T P k ∧ Below V.heap.size V W) ?own
    (fun W => ∃ i, i < 4 ∧ ¬ honP (ns : Int) n ns F T P m ∧ W.cell? ⟨w.heap.size + 1 + 1, 0, none⟩ = some (errV a (some i)) ∧ Below w.heap.size w W) ?ownx
    ⟨fun k hk => by omega, BV3⟩
    (fun k => { tmps := #[.agg #[.int .i64 (ns : Int), .slice (gA g) n (gC g)], .slice ae m ce, .pointer (some ⟨w.heap.size, 0, none⟩), .pointer (some ⟨w.heap.size + 1, 0, none⟩), .pointer (some ⟨w.heap.size + 1 + 1, 0, none⟩), .int .i64 (k : Int), .slice (some ⟨w3.heap.size + 1 + 1, 0, none⟩) ns ns, undef, .agg #[.int .i64 (ns : Int), .slice (gA g) n (gC g)], .slice ae m ce, .bool true, .bool false, undef, .agg #[.int .i64 (ns : Int), .slice (gA g) n (gC g)], .slice ae m ce, .func (.func 47) #[] #[.pointer (some ⟨w1.heap.size, 0, none⟩), .pointer (some ⟨w1.heap.size + 1, 0, none⟩)], .int .i64 (k : Int), .slice (some ⟨w3.heap.size + 1 + 1, 0, none⟩) ns ns, undef, undef, undef, undef, undef, undef, undef, undef, undef, undef], defers := [] }) ?assign ?body ?done ?stop
  case own =>
    rintro k A B row ⟨h1, hB⟩ hg hr
    refine ⟨h1, hB.grown hg hB.size (fun r e => ?_)⟩
    rcases hr r e with h | ⟨h, _⟩ <;> omega
  case ownx =>
    rintro A B row ⟨i, h1, h2, h3, hB⟩ hg hr
    exact ⟨i, h1, h2, cell_kept h3 hg (fun r e => (hr r e).2), hB.grown hg hB.size (fun r e => by have := (hr r e).1; omega)⟩
  case assign =>
    intro l k W K hK
    gi_wp2
    exact hK
  case body =>
    rintro l k W hk ⟨hh, hB⟩ hrw
    have hi1 : (k : Int) < (m : Int) := by omega
    have Bw := below_on bV hB
    obtain ⟨y0, y1, y2⟩ := P0 W hB
    obtain ⟨ae', ce', ee, he0⟩ := id (hev.on Bw)
    simp only [Value.slice.injEq] at ee
    obtain ⟨rfl, _, rfl⟩ := ee
    rcases he0 with he0 | ⟨ge, me, fe, rfl, _, _, h2, h3, h4⟩
    · omega
    obtain ⟨c0, c1, c2⟩ := trio h3 h2 hk h4
    have kl := lieAt_any (ns : Int) (P k 0) (P k 1) (P k 2) g n ns (w3.heap.size + 1 + 1) (trZ (ns : Int) n F T P (k + 1)) a W.drew r3 hp (by omega) rfl hrw ((ha.on Bw).on (Below.refl W.heap.size W).drew)
    have hst : honP (ns : Int) n ns F T P k → lieE (ns : Int) n ns (trZ (ns : Int) n F T P (k + 1)) (P k 0) (P k 1) (P k 2) = none → honP (ns : Int) n ns F T P (k + 1) := fun h h' j hj => by
      rcases (show j < k ∨ j = k by omega) with h9 | h9
      · exact h j h9
      · subst h9; exact h'
    have hno : ∀ i, lieE (ns : Int) n ns (trZ (ns : Int) n F T P (k + 1)) (P k 0) (P k 1) (P k 2) = some i → ¬ honP (ns : Int) n ns F T P m := fun i h h' => by rw [h' k hk] at h; cases h
    have hlt4 : ∀ i, lieE (ns : Int) n ns (trZ (ns : Int) n F T P (k + 1)) (P k 0) (P k 1) (P k 2) = some i → i < 4 := fun i h => lieE_lt h
    obtain ⟨op, eop⟩ : ∃ op, P k 0 = op := ⟨_, rfl⟩
    obtain ⟨f, ef⟩ : ∃ f, P k 1 = f := ⟨_, rfl⟩
    obtain ⟨d, ed⟩ : ∃ d, P k 2 = d := ⟨_, rfl⟩
    rw [eop] at c0 kl hst hno hlt4
    rw [ef] at c1 kl hst hno hlt4
    rw [ed] at c2 kl hst hno hlt4
    obtain ⟨o, eo⟩ : ∃ o, lieE (ns : Int) n ns (trZ (ns : Int) n F T P (k + 1)) op f d = o := ⟨_, rfl⟩
    rw [eo] at kl hst hno hlt4
    have kl' := (callsIn_wide (n := 0)).2 kl
    have HST : Hid _ := hst
    have HNO : Hid _ := hno
    have HLT : Hid _ := hlt4
    have zr : w3.heap.size + 1 + 1 < W.heap.size := Blk.lt hrw
    have lgE := h3.lt
    clear kl eop ef ed eo hst hno hlt4 h3 h4
    gi_wp2_with fail
    cases o with
    | none =>
      have EN0 : errV a none = .nilIface := rfl
      rw [EN0] at kl'
      have HH : Hid _ := HST.out hh rfl
      clear HST HNO HLT
      gi_region_with_o (refine ⟨trivial, ?_⟩; gi_at_call 44; refine (CallsIn.inRound l kl').mono ?_; rintro e w5 ⟨rfl, hb5⟩)
      all_goals
        have h5 : Below W.heap.size W w5 := (Below.refl W.heap.size W).drew.trans hb5
        gi_wp2
        exact ⟨keeps_turned (Turned.of_below (E := fun _ => False) (lo := 0) (hi := 0) h5), KpT.of_turned (Turned.of_below (E := fun _ => False) (lo := 0) (hi := 0) h5) id id id id, Blk.on hrw h5, HH.out, below_on hB h5⟩
    | some i =>
      have EN0 : errV a (some i) = .iface 155 (.pointer (some (a i))) := rfl
      have h4 := HLT.out i rfl
      have hn4 := HNO.out i rfl
      rw [EN0] at kl'
      have HN4 : Hid _ := hn4
      clear HST HNO HLT hn4
      gi_region_with_o (refine ⟨trivial, ?_⟩; gi_at_call 44; refine (CallsIn.inRound l kl').mono ?_; rintro e w5 ⟨rfl, hb5⟩)
      all_goals
        have h5 : Below W.heap.size W w5 := (Below.refl W.heap.size W).drew.trans hb5
        have b5 := bR.on (below_on hB h5)
        have x5 := b5.cell (i := 0) (by omega)
        have u5 := b5.frozen 0
        gi_wp2
        exact ⟨(keeps_turned (Turned.of_below (E := fun _ => False) (lo := 0) (hi := 0) h5)).trans (KeepsOthers.setCell _ _ _), i, h4, HN4.out, (blk_one b5 _).cell (i := 0) (by omega), (below_on Bw h5).setCell (p := ⟨w.heap.size + 1 + 1, 0, none⟩) (show w.heap.size ≤ w.heap.size + 1 + 1 by omega) _⟩
  case done =>
    rintro W ⟨hh, hB⟩ hD
    have b5 := bR.on hB
    have x5 := b5.cell (i := 0) (by omega)
    have u5 := b5.frozen 0
    have hD' := (KeepsOthers.setCell W ⟨w.heap.size + 1 + 1, 0, none⟩ .nilIface).same _ _ hD rfl
    have c6 := cell_kept ((blk_one b5 .nilIface).cell (i := 0) (by omega)) (grownBy_putObj' (W.setCell ⟨w.heap.size + 1 + 1, 0, none⟩ .nilIface) w3.heap.size (.deferred none)) (fun r e => by cases e; exact ⟨_, hD', rfl⟩)
    have B6 : Below w.heap.size w (W.setCell ⟨w.heap.size + 1 + 1, 0, none⟩ .nilIface) := (below_on bV hB).setCell (p := ⟨w.heap.size + 1 + 1, 0, none⟩) (show w.heap.size ≤ w.heap.size + 1 + 1 by omega) _
    have B7 := B6.grown (grownBy_putObj' (W.setCell ⟨w.heap.size + 1 + 1, 0, none⟩ .nilIface) w3.heap.size (.deferred none)) B6.size (fun r e => by cases e; omega)
    gi_wp2
    refine ⟨by simp, .inl ⟨_, _, rfl, run_takeDeferred hD', ?_⟩⟩
    refine ⟨.nilIface, ?_, none, rfl, fun i h => (by cases h), ⟨fun _ => hh, fun _ => rfl⟩, B7⟩
    simp only [results, Tryd.results23]
    simp [go_sem, c6]
  case stop =>
    rintro W ⟨i, h1, h2, h3, hB⟩ hD
    have c6 := cell_kept h3 (grownBy_putObj' W w3.heap.size (.deferred none)) (fun r e => by cases e; exact ⟨_, hD, rfl⟩)
    have B7 := hB.grown (grownBy_putObj' W w3.heap.size (.deferred none)) hB.size (fun r e => by cases e; omega)
    gi_wp2
    refine ⟨by simp, .inl ⟨_, _, rfl, run_takeDeferred hD, ?_⟩⟩
    refine ⟨errV a (some i), ?_, some i, rfl, fun j h => (by cases h; exact h1), ⟨fun h => (by cases h), fun h => absurd h h2⟩, B7⟩
    simp only [results, Tryd.results23]
    simp [go_sem, c6]

end Go.Proofs.YtlpopfhaephfaaaDoor

namespace Go.Proofs.YtlpopfhaephfaaaDoor
open Go.RowKit

/-- Honest's answer from the lie that was found -/
def honI (w : World) (Q : Option Nat → Prop) (e : Ending) (w' : World) : Prop := ∃ o : Option Nat, e = .returned (.bool o.isNone) ∧ Q o ∧ Below w.heap.size w w'

theorem honest_of (S : Int) (g n : Nat) (E : Value) (a : Nat → Addr) (w V : World) (Q : Option Nat → Prop) (ha : Snt w a) (eV : w.alloc (.cells #[.int .i64 S, .slice (gA g) n (gC g)] 25) = V)
    (kl : Calls Tryd.prog 23 #[.agg #[.int .i64 S, .slice (gA g) n (gC g)], E] V fun e w' => ∃ o, e = .returned (errV a o) ∧ (∀ i, o = some i → i < 4) ∧ Q o ∧ Below V.heap.size V w') :
    Calls Tryd.prog 7 #[.agg #[.int .i64 S, .slice (gA g) n (gC g)], E] w fun e w' => honI w Q e w' := by
  have bV : Below w.heap.size w V := by rw [← eV]; exact (by repeat (first | exact Below.refl _ _ | assumption | refine below_alloc ?_ _ | refine Below.setCell ?_ (by first | omega | (simp; done) | (simp; omega)) _ | refine Below.alloc ?_ (by first | omega | (simp; done) | (simp; omega)) _ | refine Below.drew ?_))
  have EV : Hid _ := eV
  clear eV
  go_enter Tryd.func7, Tryd.ntmps7
  go_wp2_with fail
  rw [EV.out]
  refine kl.mono ?_
  rintro e w1 ⟨o, rfl, hi, hq, hb⟩
  have hB := below_on bV hb
  have hs := ha.on hB
  have c0 := hs.cell 0 (by omega)
  have c1 := hs.cell 1 (by omega)
  have c2 := hs.cell 2 (by omega)
  have c3 := hs.cell 3 (by omega)
  clear EV bV
  cases o with
  | none =>
    have EN0 : errV a none = .nilIface := rfl
    rw [EN0]
    go_wp2_with fail
    refine (is_nil _ w1).mono ?_
    rintro _ _ ⟨rfl, rfl⟩
    go_wp2_with fail
    refine (is_nil _ _).mono ?_
    rintro _ _ ⟨rfl, rfl⟩
    go_wp2_with fail
    refine (is_nil _ _).mono ?_
    rintro _ _ ⟨rfl, rfl⟩
    go_wp2_with fail
    refine (is_nil _ _).mono ?_
    rintro _ _ ⟨rfl, rfl⟩
    go_wp2
    go_ret
    exact ⟨none, rfl, hq, hB⟩
  | some i =>
    have i4 := hi i rfl
    have EN0 : errV a (some i) = .iface 155 (.pointer (some (a i))) := rfl
    rw [EN0]
    obtain ⟨ca, ta, ba⟩ := hs.blk i i4
    have ko : ∀ j, j < 4 → j ≠ i → Calls Tryd.prog 24 #[.iface 155 (.pointer (some (a i))), .iface 155 (.pointer (some (a j)))] w1 fun e w' => e = .returned (.bool false) ∧ w' = w1 := fun j hj h => by
      obtain ⟨cb, tb, bb⟩ := hs.blk j hj
      exact is_other (a i) (a j) ca cb ta tb w1 (hs.ne i j i4 hj (fun h' => h h'.symm)) ba bb
    have ks := is_same (a i) w1
    have HQ : Hid _ := hq
    clear ha hs ba EN0 hi hq
    go_wp2_with fail
    by_cases h0 : i = 0
    · subst h0
      refine ks.mono ?_
      rintro _ _ ⟨rfl, rfl⟩
      go_wp2
      go_ret
      exact ⟨some 0, rfl, HQ.out, hB⟩
    refine (ko 0 (by omega) (by omega)).mono ?_
    rintro _ _ ⟨rfl, rfl⟩
    go_wp2_with fail
    by_cases h1 : i = 1
    · subst h1
      refine ks.mono ?_
      rintro _ _ ⟨rfl, rfl⟩
      go_wp2
      go_ret
      exact ⟨some 1, rfl, HQ.out, hB⟩
    refine (ko 1 (by omega) (by omega)).mono ?_
    rintro _ _ ⟨rfl, rfl⟩
    go_wp2_with fail
    by_cases h2 : i = 2
    · subst h2
      refine ks.mono ?_
      rintro _ _ ⟨rfl, rfl⟩
      go_wp2
      go_ret
      exact ⟨some 2, rfl, HQ.out, hB⟩
    refine (ko 2 (by omega) (by omega)).mono ?_
    rintro _ _ ⟨rfl, rfl⟩
    go_wp2_with fail
    have h3 : i = 3 := by omega
    subst h3
    refine ks.mono ?_
    rintro _ _ ⟨rfl, rfl⟩
    go_wp2
    go_ret
    exact ⟨some 3, rfl, HQ.out, hB⟩

end Go.Proofs.YtlpopfhaephfaaaDoor
