import Derived.RangeFuncOwn
import Derived.RangeFuncLeaves
import Derived.RangeFuncRecord
import Derived.Test.YtlpopfhaephfaabST2
import Derived.Test.YtlpopfhaephfaabDM3
import Derived.Test.YtlpopfhaephfaabEV2
import Derived.Test.YtlpopfhaephfaabRE1
import Derived.RangeFuncBound
import Derived.RangeFuncCalls
import Derived.Shelf.Abstract
import Derived.Shelf.RegionOpen
import Derived.WalkKit
import Derived.OwnWalkIn
import Derived.TacticsInMore
import Derived.LoopNIn
import Derived.LoopIn
namespace Go.Proofs.Ytlpopfhaephfaab
open Go.RowKit

/-- How a round's body is left here: it goes on. -/
def onPost (R : World → Prop) : Exit → Act → World → Prop
  | .normal, _, W' => R W'
  | .ret, _, _ => False
  | .exit _, _, _ => False
  | .goto _, _, _ => False
  | .panic _, _, _ => False
  | .outgrown, _, _ => False

/-- An iterator that makes one block of its own (at the heap's end), turns it ahead of each of m rounds, and hands it to the round. -/
def SeqR (n : Nat) (P : Program) (gf : Nat) (lb : Array Value) (encs : Nat → Nat → Array Value) (m : Nat) (Rw : Nat → Nat → World → Prop) (Kp : World → World → Prop) (w0 : World) : Prop :=
  ∀ (l : Nat) (J : Nat → World → Prop) (W : World), Below w0.heap.size w0 W →
    (∀ k A B row, J k A → A.grownBy B row → (∀ r, row = some r → r = W.heap.size) → J k B) →
    (∀ k W1, k < m → J k W1 → Rw W.heap.size k W1 → YieldAt Fence.wide (n - 1) P l (encs W.heap.size k) W1 fun e W' => e = .returned (.bool true) ∧ J (k + 1) W' ∧ Rw W.heap.size k W' ∧ Kp W1 W') →
    J 0 W → CallsIn Fence.wide n P gf (#[.func (.yield l) #[] #[]] ++ lb) W fun e W' => (∃ v, e = .returned v) ∧ J m W'

theorem range_rows {P : Program} {n : Nat} {g : Operand} {ps : Array Tmp} {assign body : Code} {Q : Exit → Act → World → Prop} {a : Act} {w : World} {gf : Nat} {lb : Array Value}
    (hg : a.eval g = .func (.func gf) #[] lb) (eg : ∀ args w, (callFunc gf args).run P w = .ok (.enter gf args) w)
    {encs : Nat → Nat → Array Value} {m : Nat} {Rw : Nat → Nat → World → Prop} {Kp : World → World → Prop} (hseq : SeqR (n - 1) P gf lb encs m Rw Kp w)
    (hps : ∀ rb k, (encs rb k).size = ps.size)
    (hRp : ∀ rb k W l o o', Rw rb k W → W.heap[l]? = some o → o.isCells = false → Rw rb k (W.putObj l o'))
    (hKt : ∀ {A B C : World}, Kp A B → Kp B C → Kp A C) (hKb : ∀ (W : World) (l : Nat) (o o' : Obj), W.heap[l]? = some o → o.isCells = false → Kp W (W.putObj l o'))
    (I : Nat → World → Prop)
    (hI : ∀ k A B row, I k A → A.grownBy B row → (∀ r, row = some r → r = w.heap.size + 1 + 1 ∨ (w.heap.size ≤ r ∧ ∃ o : Obj, A.heap[r]? = some o ∧ o.isCells = false)) → I k B)
    (h0 : I 0 w) (a₁ : Nat → Act)
    (hassign : ∀ (l k : Nat) (W : World) (K : Act → World → Prop), K (a₁ k) W →
      assign.wpIn (Fence.wide.inRound l) (n - 1 - 1) P (Exit.then K (fun _ _ _ => False)) { tmps := (ps.zip (encs (w.heap.size + 1 + 1) k)).foldl (fun t (p, v) => t.setIfInBounds p v) a.tmps, defers := [] } W)
    (hbody : ∀ (l k : Nat) (W : World), k < m → I k W → Rw (w.heap.size + 1 + 1) k W → body.wpIn (Fence.wide.inRound l) (n - 1 - 1) P (onPost fun W' => KeepsOthers W W' ∧ Kp W W' ∧ Rw (w.heap.size + 1 + 1) k W' ∧ I (k + 1) W') (a₁ k) W)
    (hdone : ∀ (W : World), I m W → W.heap[w.heap.size]? = some (.deferred (some [])) → Q .normal { a with defers := { target := .collected w.heap.size, args := #[] } :: a.defers } W) :
    (Code.rangeFunc g ps assign body).wpIn Fence.wide n P Q a w := by
  refine wpIn_rangeFunc ?_
  intro fn hfn
  obtain ⟨rec, hrec⟩ : ∃ rec : LoopState → Option Code → Loop, rec = fun st pe => { state := st, pending := pe, fn, tmps := a.tmps, params := ps, assign, body, defers := w.heap.size } := ⟨_, rfl⟩
  obtain ⟨W1, hW1⟩ : ∃ W1, (w.alloc (.deferred (some []))).alloc (.loop (rec .ready none)) = W1 := ⟨_, rfl⟩
  have hL1 : W1.heap[w.heap.size + 1]? = some (.loop (rec .ready none)) := by
    rw [← hW1]; have := World.alloc_heap_new (w.alloc (.deferred (some []))) (.loop (rec .ready none)); rwa [World.size_alloc] at this
  have hK1 : W1.heap[w.heap.size]? = some (.deferred (some [])) := by
    rw [← hW1]; exact (Below.heap_alloc _ _ _ (by simp)).trans (World.alloc_heap_new w _)
  have hI1 : I 0 W1 := by rw [← hW1]; exact hI _ _ _ none (hI _ _ _ none h0 (World.grownBy_alloc w _ none) (fun r e => by cases e)) (World.grownBy_alloc _ _ none) (fun r e => by cases e)
  have hb1 : Below w.heap.size w W1 := by
    rw [← hW1]; exact ((Below.refl _ w).alloc (Nat.le_refl _) _).alloc (by simp) _
  have hs1 : W1.heap.size = w.heap.size + 1 + 1 := by rw [← hW1]; simp
  refine ⟨w.heap.size + 1, [{ target := .collected w.heap.size, args := #[] }], W1, { target := .fn (.func gf) lb, args := #[.func (.yield (w.heap.size + 1)) #[] #[]] }, W1, gf,
    #[.func (.yield (w.heap.size + 1)) #[] #[]] ++ lb, W1, ?_, ?_, ?_, ?_, fun h => (by cases h), ?_⟩
  · rw [← hW1, hrec]; exact run_enterLoop_outer _ _ _ _ _
  · simp only [resolve, hg]
    simp [go_sem]
  · intro f' hf'; trivial
  · simp [invoke, go_sem, eg]
  · refine (hseq (w.heap.size + 1)
      (fun k W => I k W ∧ W.heap[w.heap.size + 1]? = some (.loop (rec .ready none)) ∧ W.heap[w.heap.size]? = some (.deferred (some [])))
      W1 hb1
      (fun k A B row hs hg' hr => ⟨hI k A B row hs.1 hg' (fun r e => .inl (by rw [hr r e, hs1])),
        (hg'.block _ (Array.getElem?_eq_some_iff.1 hs.2.1).1 (fun e => by have := hr _ e.symm; omega)).trans hs.2.1, (hg'.block _ (Array.getElem?_eq_some_iff.1 hs.2.2).1 (fun e => by have := hr _ e.symm; omega)).trans hs.2.2⟩)
      ?_ ⟨hI1, hL1, hK1⟩).mono ?_
    · rw [hs1]
      rintro k W hk ⟨hi, hl, hd⟩ hrw
      have hlt : w.heap.size + 1 < W.heap.size := (Array.getElem?_eq_some_iff.1 hl).1
      have hy := run_yield (P := P) (args := encs (w.heap.size + 1 + 1) k) hl (by rw [hrec]; exact hps _ k)
      rw [hrec] at hy
      refine ⟨fn, _, assign, body, hy, roundIn_of_wpIn hfn (hassign _ k W _ ⟨_, run_beginRound hl (by rw [hrec]), ?_⟩)⟩
      have hl2 : (W.putObj (w.heap.size + 1) (.loop { rec .ready none with state := .busy })).heap[w.heap.size + 1]? = some (.loop { rec .ready none with state := .busy }) := World.putObj_heap_same hlt
      have hk2 : (W.putObj (w.heap.size + 1) (.loop { rec .ready none with state := .busy })).heap[w.heap.size]? = some (.deferred (some [])) := (World.putObj_heap_other (by omega)).trans hd
      have hw2 : Kp W (W.putObj (w.heap.size + 1) (.loop { rec .ready none with state := .busy })) := hKb _ _ _ _ hl rfl
      have hi2 : I k (W.putObj (w.heap.size + 1) (.loop { rec .ready none with state := .busy })) := hI _ _ _ (some (w.heap.size + 1)) hi (grownBy_putObj' _ _ _) (fun r e => by cases e; exact .inr ⟨by omega, _, hl, rfl⟩)
      refine wpIn_mono (hbody _ k _ hk hi2 (hRp _ _ _ _ _ _ hrw hl rfl)) ?_
      rintro e a3 W3 hp
      cases e with
      | normal =>
        obtain ⟨hk3, hkp3, hr3, hi3⟩ := hp
        have hl3 := hk3.same _ _ hl2 rfl
        have hd3 := hk3.same _ _ hk2 rfl
        have he := run_endRound (P := P) none hl3
        refine ⟨_, _, he, rfl, ⟨hI _ _ _ (some (w.heap.size + 1)) hi3 (grownBy_putObj' _ _ _) (fun r e => by cases e; exact .inr ⟨by omega, _, hl3, rfl⟩), ?_, (World.putObj_heap_other (by omega)).trans hd3⟩, hRp _ _ _ _ _ _ hr3 hl3 rfl, hKt (hKt hw2 hkp3) (hKb _ _ _ _ hl3 rfl)⟩
        rw [World.putObj_heap_same (Array.getElem?_eq_some_iff.1 hl3).1, hrec]
        rfl
      | ret => exact hp.elim
      | exit id => exact hp.elim
      | goto t => exact hp.elim
      | panic ch => exact hp.elim
      | outgrown => exact hp.elim
    · rintro e W2 ⟨⟨v, rfl⟩, hi, hl, hd⟩
      exact ⟨none, _, by have := run_endLoop (P := P) hl (by rw [hrec]; simp); rw [hrec] at this; exact this, hdone _ (hI _ _ _ (some (w.heap.size + 1)) hi (grownBy_putObj' _ _ _) (fun r e => by cases e; exact .inr ⟨by omega, _, hl, rfl⟩)) ((World.putObj_heap_other (by omega)).trans hd)⟩

end Go.Proofs.Ytlpopfhaephfaab

namespace Go.Proofs.Ytlpopfhaephfaab
open Go.RowKit Go.Maps Go.Sort

/-- how many are in each section behind an event -/
def stepZ (S : Int) (n : Nat) (F T : Nat → Int) (Z : Nat → Int) (op f d : Int) : Nat → Int :=
  if evB S n op f d = true ∧ op = 1 then (fun s => Z s - (if fromZ F T f.toNat d = (s : Int) then 1 else 0) + (if toZ F T f.toNat d = (s : Int) then 1 else 0)) else Z

def trZ (S : Int) (n : Nat) (F T : Nat → Int) (P : Nat → Nat → Int) : Nat → Nat → Int
  | 0 => fun _ => 0
  | k + 1 => stepZ S n F T (trZ S n F T P k) (P k 0) (P k 1) (P k 2)

theorem stepZ_bound {S : Int} {n : Nat} {F T Z : Nat → Int} {op f d : Int} {s : Nat} {b : Int} (h : -b ≤ Z s ∧ Z s ≤ b) : -(b + 1) ≤ stepZ S n F T Z op f d s ∧ stepZ S n F T Z op f d s ≤ b + 1 := by
  unfold stepZ
  split
  · dsimp only
    split <;> split <;> omega
  · omega

theorem trZ_bound (S : Int) (n : Nat) (F T : Nat → Int) (P : Nat → Nat → Int) (k s : Nat) : -(k : Int) ≤ trZ S n F T P k s ∧ trZ S n F T P k s ≤ (k : Int) := by
  induction k with
  | zero => simp [trZ]
  | succ k ih =>
    have := stepZ_bound (S := S) (n := n) (F := F) (T := T) (op := P k 0) (f := P k 1) (d := P k 2) ih
    simp only [trZ]
    omega

/-- numbers in a block -/
def IntB (w : World) (b n : Nat) (Z : Nat → Int) : Prop := Blk w b 3 n (fun i => .int .i64 (Z i))

theorem IntB.set {w : World} {b n : Nat} {Z : Nat → Int} (h : IntB w b n Z) (j : Nat) (x : Int) : IntB (w.setCell ⟨b, j, none⟩ (.int .i64 x)) b n (fun i => if i = j then x else Z i) :=
  (Blk.set h j (.int .i64 x)).congr fun i _ => by
    by_cases e : i = j
    · simp [e]
    · simp [e]

theorem IntB.turn {w : World} {b n : Nat} {Z : Nat → Int} (h : IntB w b n Z) (j : Nat) (x : Value) : Turned w (w.setCell ⟨b, j, none⟩ x) (· = 3) b (b + 1) :=
  Turned.of_grown (grown_set (World.grownBy.refl _ _) _) (Nat.le_refl _) (by omega) rfl h

set_option maxRecDepth 100000 in
set_option maxHeartbeats 2000000 in
theorem move_axle (S d : Int) (g n ns rb f : Nat) (F T Z : Nat → Int) (w : World) (hn : n ≤ 120) (hev : evB S n 1 (f : Int) d = true) (hf : f < n) (hd : d = 1 ∨ d = -1) (hs : -1 ≤ fromZ F T f d ∧ fromZ F T f d < (ns : Int) ∧ -1 ≤ toZ F T f d ∧ toZ F T f d < (ns : Int)) (hne : fromZ F T f d ≠ toZ F T f d)
    (hrow : Row w g 88 2 n (two F T)) (hb : IntB w rb ns Z) (hZ : ∀ s, s < ns → -2000000 ≤ Z s ∧ Z s ≤ 2000000) :
    Calls Try.prog 100 #[.agg #[.int .i64 S, .slice (some ⟨g, 0, none⟩) n n], .slice (some ⟨rb, 0, none⟩) ns ns, .agg #[.int .i64 1, .int .i64 (f : Int), .int .i64 d]] w fun e w' => (∃ v, e = .returned v) ∧ IntB w' rb ns (fun s => Z s - (if fromZ F T f d = (s : Int) then 1 else 0) + (if toZ F T f d = (s : Int) then 1 else 0)) ∧ Turned w w' (· = 3) rb (rb + 1) := by
  have eI : hapI S n 1 (f : Int) d = .iface 142 (.agg #[.int .i64 (f : Int), .int .i64 d]) := by unfold hapI; rw [hev]; simp [hapV, hd]
  have kh := fun W => happensIn_any S 1 (f : Int) d n g W hn
  rw [eI] at kh
  have as_axlePasses : ∀ (v : Value) (W : World), (Instr.typeAssert (.iface 142 v) 81 142 true).run Try.prog W = .ok (.tuple #[v, .bool true]) W := fun _ _ => by kernel_rfl
  have ks := fun W (hW : Below w.heap.size w W) => sides_any S d g n f F T W hf (hrow.on hW)
  obtain ⟨a, ea⟩ : ∃ a, fromZ F T f d = a := ⟨_, rfl⟩
  obtain ⟨b, eb⟩ : ∃ b, toZ F T f d = b := ⟨_, rfl⟩
  rw [ea, eb] at hs hne
  simp only [ea, eb] at ks ⊢
  clear ea eb eI
  go_enter Try.func100, Try.ntmps100
  go_wp2_with fail
  refine (kh _).mono ?_
  rintro e w1 ⟨rfl, hb1⟩
  have B1 := below_on (show Below w.heap.size w _ from (by repeat (first | exact Below.refl _ _ | assumption | refine below_alloc ?_ _ | refine Below.setCell ?_ (by first | omega | (simp; done) | (simp; omega)) _ | refine Below.alloc ?_ (by first | omega | (simp; done) | (simp; omega)) _ | refine Below.drew ?_))) hb1
  have z1 : w.heap.size + 1 < w1.heap.size := by have := hb1.size; simp at this; omega
  have y0 : w1.cell? ⟨w.heap.size, 0, none⟩ = some (.int .i64 S) := (hb1.cell (p := ⟨w.heap.size, 0, none⟩) (by first | omega | (simp; done) | (simp; omega))).trans (by simp)
  have y1 : w1.cell? ⟨w.heap.size, 1, none⟩ = some (.slice (some ⟨g, 0, none⟩) n n) := (hb1.cell (p := ⟨w.heap.size, 1, none⟩) (by first | omega | (simp; done) | (simp; omega))).trans (by simp)
  have z0 : w.heap.size < w1.heap.size := by omega
  clear hb1
  go_wp2_with fail
  refine (ks _ (below_alloc B1 _)).mono ?_
  rintro e w2 ⟨rfl, hb2⟩
  have B2 := below_on (below_alloc B1 _) hb2
  have b2 : IntB w2 rb ns Z := Blk.on hb B2
  clear hb2 B1 y0 y1
  rcases (show a = -1 ∨ 0 ≤ a by omega) with rfl | ha
  · rcases (show b = -1 ∨ 0 ≤ b by omega) with rfl | hb0
    · omega
    · obtain ⟨j, rfl⟩ : ∃ j : Nat, b = (j : Int) := ⟨b.toNat, by omega⟩
      have hj : j < ns := by omega
      have hj' : (j : Int) < (ns : Int) := by omega
      have c1 := Blk.cell b2 hj
      have q1 := Blk.frozen b2 j
      obtain ⟨x, ex⟩ : ∃ x, Z j = x := ⟨_, rfl⟩
      have hx := hZ j hj
      rw [ex] at c1 hx
      go_wp2
      go_end0
      refine ⟨⟨_, rfl⟩, (b2.set j (x + 1)).congr (fun i hi => ?_), (Turned.of_below B2).trans (b2.turn j _)⟩
      by_cases e : i = j
      · subst e; simp [ex]
      · have e' : ¬ (j : Int) = (i : Int) := by omega
        have e2 : ¬ (-1 : Int) = (i : Int) := by omega
        simp [e, e', e2]
  · obtain ⟨i0, rfl⟩ : ∃ j : Nat, a = (j : Int) := ⟨a.toNat, by omega⟩
    have hi0 : i0 < ns := by omega
    have hi0' : (i0 : Int) < (ns : Int) := by omega
    have ha1 : ¬ (i0 : Int) = -1 := by omega
    have c1 := Blk.cell b2 hi0
    have q1 := Blk.frozen b2 i0
    obtain ⟨x, ex⟩ : ∃ x, Z i0 = x := ⟨_, rfl⟩
    have hx := hZ i0 hi0
    rw [ex] at c1 hx
    have s3 := b2.set i0 (x - 1)
    have t3 := b2.turn i0 (.int .i64 (x - 1))
    rcases (show b = -1 ∨ 0 ≤ b by omega) with rfl | hb0
    · have S3 : Hid _ := s3
      have T3 : Hid _ := t3
      clear s3 t3
      go_wp2
      go_end0
      refine ⟨⟨_, rfl⟩, Blk.congr S3.out (fun i hi => ?_), (Turned.of_below B2).trans T3.out⟩
      by_cases e : i = i0
      · subst e
        have e2 : ¬ (-1 : Int) = (i : Int) := by omega
        simp [ex, e2]
      · have e' : ¬ (i0 : Int) = (i : Int) := by omega
        have e2 : ¬ (-1 : Int) = (i : Int) := by omega
        simp [e, e', e2]
    · obtain ⟨j, rfl⟩ : ∃ j : Nat, b = (j : Int) := ⟨b.toNat, by omega⟩
      have hj : j < ns := by omega
      have hj' : (j : Int) < (ns : Int) := by omega
      have hb1 : ¬ (j : Int) = -1 := by omega
      have hij : ¬ j = i0 := by omega
      have hji : ¬ i0 = j := by omega
      have c2 := Blk.cell b2 hj
      obtain ⟨y, ey⟩ : ∃ y, Z j = y := ⟨_, rfl⟩
      have hy := hZ j hj
      rw [ey] at c2 hy
      have q2 := Blk.frozen b2 j
      have s4 := s3.set j (y + 1)
      have t4 := s3.turn j (.int .i64 (y + 1))
      have S4 : Hid _ := s4
      have T4 : Hid _ := t3.trans t4
      clear s3 t3 s4 t4
      go_wp2
      go_end0
      refine ⟨⟨_, rfl⟩, Blk.congr S4.out (fun i hi => ?_), (Turned.of_below B2).trans T4.out⟩
      by_cases e : i = j
      · subst e
        have hji' : ¬ (i0 : Int) = (i : Int) := by omega
        simp [ey, hji']
      · have e' : ¬ (j : Int) = (i : Int) := by omega
        by_cases e3 : i = i0
        · subst e3
          simp [e, e', ex]
        · have e4 : ¬ (i0 : Int) = (i : Int) := by omega
          simp [e, e', e3, e4]

set_option maxRecDepth 100000 in
set_option maxHeartbeats 2000000 in
theorem move_other (S op f d : Int) (g n ns rb : Nat) (Z : Nat → Int) (w : World) (hn : n ≤ 120) (hno : ¬ (evB S n op f d = true ∧ op = 1)) (hb : IntB w rb ns Z) :
    Calls Try.prog 100 #[.agg #[.int .i64 S, .slice (some ⟨g, 0, none⟩) n n], .slice (some ⟨rb, 0, none⟩) ns ns, .agg #[.int .i64 op, .int .i64 f, .int .i64 d]] w fun e w' => (∃ v, e = .returned v) ∧ IntB w' rb ns Z ∧ Turned w w' (· = 3) rb (rb + 1) := by
  have k1 : ∀ (W : World), (Instr.typeAssert .nilIface 81 142 true).run Try.prog W = .ok (.tuple #[.agg #[.int .i64 0, .int .i64 0], .bool false]) W := fun _ => by kernel_rfl
  have k2 : ∀ (W : World), (Instr.typeAssert (.iface 143 (.agg #[.int .i64 f, .int .i64 d])) 81 142 true).run Try.prog W = .ok (.tuple #[.agg #[.int .i64 0, .int .i64 0], .bool false]) W := fun _ => by kernel_rfl
  have k3 : ∀ (W : World), (Instr.typeAssert (.iface 145 (.agg #[.int .i64 f])) 81 142 true).run Try.prog W = .ok (.tuple #[.agg #[.int .i64 0, .int .i64 0], .bool false]) W := fun _ => by kernel_rfl
  have k4 : ∀ (W : World), (Instr.typeAssert (.iface 146 (.agg #[.int .i64 f])) 81 142 true).run Try.prog W = .ok (.tuple #[.agg #[.int .i64 0, .int .i64 0], .bool false]) W := fun _ => by kernel_rfl
  have k5 : ∀ (W : World), (Instr.typeAssert (.iface 148 (.agg #[.int .i64 f])) 81 142 true).run Try.prog W = .ok (.tuple #[.agg #[.int .i64 0, .int .i64 0], .bool false]) W := fun _ => by kernel_rfl
  have no : ∀ (W : World), (Instr.typeAssert (hapI S n op f d) 81 142 true).run Try.prog W = .ok (.tuple #[.agg #[.int .i64 0, .int .i64 0], .bool false]) W := fun W => by
    have hv : hapI S n op f d = .nilIface ∨ hapI S n op f d = .iface 143 (.agg #[.int .i64 f, .int .i64 d]) ∨ hapI S n op f d = .iface 145 (.agg #[.int .i64 f]) ∨ hapI S n op f d = .iface 146 (.agg #[.int .i64 f]) ∨ hapI S n op f d = .iface 148 (.agg #[.int .i64 f]) := by
      unfold hapI
      cases hev : evB S n op f d
      · exact .inl rfl
      · have h1 : ¬ op = 1 := fun h => hno ⟨hev, h⟩
        unfold hapV
        rw [if_pos rfl, if_neg h1]
        by_cases h2 : d = 1 ∨ d = -1
        · rw [if_pos h2]
          by_cases h3 : op = 2
          · rw [if_pos h3]; exact .inr (.inl rfl)
          · rw [if_neg h3]; exact .inl rfl
        · rw [if_neg h2]
          by_cases h3 : d = 0
          · rw [if_pos h3]
            by_cases h4 : op = 3
            · rw [if_pos h4]; exact .inr (.inr (.inl rfl))
            · rw [if_neg h4]
              by_cases h5 : op = 4
              · rw [if_pos h5]; exact .inr (.inr (.inr (.inl rfl)))
              · rw [if_neg h5]
                by_cases h6 : op = 5
                · rw [if_pos h6]; exact .inr (.inr (.inr (.inr rfl)))
                · rw [if_neg h6]; exact .inl rfl
          · rw [if_neg h3]; exact .inl rfl
    rcases hv with hv | hv | hv | hv | hv
    · rw [hv]; exact k1 W
    · rw [hv]; exact k2 W
    · rw [hv]; exact k3 W
    · rw [hv]; exact k4 W
    · rw [hv]; exact k5 W
  have kh := fun W => happensIn_any S op f d n g W hn
  obtain ⟨v, ev⟩ : ∃ v, hapI S n op f d = v := ⟨_, rfl⟩
  rw [ev] at kh
  simp only [ev] at no
  clear ev k1 k2 k3 k4 k5
  go_enter Try.func100, Try.ntmps100
  go_wp2_with fail
  refine (kh _).mono ?_
  rintro e w1 ⟨rfl, hb1⟩
  have B1 := below_on (show Below w.heap.size w _ from (by repeat (first | exact Below.refl _ _ | assumption | refine below_alloc ?_ _ | refine Below.setCell ?_ (by first | omega | (simp; done) | (simp; omega)) _ | refine Below.alloc ?_ (by first | omega | (simp; done) | (simp; omega)) _ | refine Below.drew ?_))) hb1
  go_wp2
  refine bodyPost_ret (results_none rfl _ _ _) rfl ?_
  exact ⟨⟨_, rfl⟩, Blk.on hb (below_alloc B1 _), Turned.of_below (below_alloc B1 _)⟩

theorem move_any (S op f d : Int) (g n ns rb : Nat) (F T Z : Nat → Int) (w : World) (hl : lokZ S n F T = 0) (hS : (ns : Int) = S) (hrow : Row w g 88 2 n (two F T)) (hb : IntB w rb ns Z) (hZ : ∀ s, s < ns → -2000000 ≤ Z s ∧ Z s ≤ 2000000) :
    Calls Try.prog 100 #[.agg #[.int .i64 S, .slice (some ⟨g, 0, none⟩) n n], .slice (some ⟨rb, 0, none⟩) ns ns, .agg #[.int .i64 op, .int .i64 f, .int .i64 d]] w fun e w' => (∃ v, e = .returned v) ∧ IntB w' rb ns (stepZ S n F T Z op f d) ∧ Turned w w' (· = 3) rb (rb + 1) := by
  obtain ⟨r1, r2, r3⟩ := lok_range hl
  unfold stepZ
  by_cases hno : evB S n op f d = true ∧ op = 1
  · rw [if_pos hno]
    obtain ⟨hev, rfl⟩ := hno
    have h := hev
    unfold evB at h
    rw [if_pos (.inl rfl)] at h
    simp only [decide_eq_true_eq] at h
    obtain ⟨h1, h2, hd⟩ := h
    obtain ⟨k, rfl⟩ : ∃ k : Nat, f = (k : Int) := ⟨f.toNat, by omega⟩
    have hk : k < n := by omega
    have hs := lok_sides hl k hk
    simp only [Int.toNat_natCast]
    refine move_axle S d g n ns rb k F T Z w r3 hev hk hd ?_ ?_ hrow hb hZ
    · unfold fromZ toZ; split <;> omega
    · unfold fromZ toZ; split <;> omega
  · rw [if_neg hno]
    exact move_other S op f d g n ns rb Z w r3 hno hb

end Go.Proofs.Ytlpopfhaephfaab

namespace Go.Proofs.Ytlpopfhaephfaab
open Go.RowKit Go.Shelf
attribute [local go_sem] Oper.semAt_some

/-- What a round keeps of what the iterator reads. -/
def KpT (A B : World) : Prop := A.heap.size ≤ B.heap.size ∧ ∀ b e m f, Blk A b e m f → (e = 31 ∨ e = 61 ∨ e = 88 ∨ e = 33) → B.heap[b]? = A.heap[b]?

theorem KpT.trans {A B C : World} (h : KpT A B) (k : KpT B C) : KpT A C :=
  ⟨Nat.le_trans h.1 k.1, fun b e m f hb he => (k.2 b e m f (hb.of_block (h.2 b e m f hb he)) he).trans (h.2 b e m f hb he)⟩

theorem blk_cells {w : World} {b e m : Nat} {f : Nat → Value} (h : Blk w b e m f) : ∃ o : Obj, w.heap[b]? = some o ∧ o.isCells = true := by
  obtain ⟨c, h1, _⟩ := h
  exact ⟨_, h1, rfl⟩

theorem KpT.putObj (W : World) (l : Nat) (o o' : Obj) (h : W.heap[l]? = some o) (ho : o.isCells = false) : KpT W (W.putObj l o') :=
  ⟨by simp, fun b e m f hb _ => World.putObj_heap_other (fun e1 => by
    subst e1
    obtain ⟨o2, h2, h3⟩ := blk_cells hb
    rw [h] at h2; cases h2; rw [ho] at h3; cases h3)⟩

theorem KpT.of_turned {A B : World} {E : Nat → Prop} {lo hi : Nat} (h : Turned A B E lo hi) (h1 : ¬ E 31) (h2 : ¬ E 61) (h3 : ¬ E 88) (h4 : ¬ E 33) : KpT A B :=
  ⟨h.size, fun b e m f hb he => by
    rcases h.block b hb.lt with h' | ⟨_, _, e', m', f', a3, a4⟩
    · exact h'
    · have := a4.type_eq hb
      subst this
      rcases he with rfl | rfl | rfl | rfl
      · exact absurd a3 h1
      · exact absurd a3 h2
      · exact absurd a3 h3
      · exact absurd a3 h4⟩

/-- What the iterator reads. -/
def EnvT (W : World) (bl be : Nat) (S : Int) (g n le he m : Nat) (ae : Option Addr) (ce : Nat) (F T : Nat → Int) (P : Nat → Nat → Int) : Prop :=
  Blk W bl 31 2 (fun i => if i = 0 then .int .i64 S else .slice (some ⟨g, 0, none⟩) n n) ∧ Blk W be 61 1 (fun _ => .slice ae m ce) ∧ Row W g 88 2 n (two F T) ∧ SlF W 33 3 le he (.slice ae m ce) m (evs P)

theorem EnvT.kept {W W' : World} {bl be g n le he m ce : Nat} {S : Int} {ae : Option Addr} {F T : Nat → Int} {P : Nat → Nat → Int} (h : EnvT W bl be S g n le he m ae ce F T P) (hk : KpT W W') : EnvT W' bl be S g n le he m ae ce F T P :=
  ⟨h.1.of_block (hk.2 _ _ _ _ h.1 (.inl rfl)), h.2.1.of_block (hk.2 _ _ _ _ h.2.1 (.inr (.inl rfl))), Blk.of_block h.2.2.1 (hk.2 _ _ _ _ h.2.2.1 (.inr (.inr (.inl rfl)))), h.2.2.2.of_block (fun _ _ _ hb _ _ => hk.2 _ _ _ _ hb (.inr (.inr (.inr rfl))))⟩

theorem Turned.grown1 {A B : World} {E : Nat → Prop} {r : Nat} (h : Turned A B E r (r + 1)) : A.grownBy B (some r) :=
  ⟨h.os, h.tape, h.output, h.size, fun k hk hne => by
    rcases h.block k hk with h' | ⟨a1, a2, _⟩
    · exact h'
    · exact absurd (by rw [show k = r by omega]) hne⟩

theorem grown_of_below {A B : World} (h : Below A.heap.size A B) : A.grownBy B none := ⟨h.os, h.tape, h.output, h.size, fun k hk _ => h.block k hk⟩

theorem Try.infoIn : (Try.prog.info? 3).map (fun i => (i.zero, i.size, i.bytes)) = some (some (.int .i64 0), 1, 8) := by kernel_rfl

theorem made_ints (n : Nat) : ∃ C : Array Value, C.size = n ∧ (∀ i, i < n → C[i]? = some (.int .i64 0)) ∧ ∀ W : World, n ≤ 1048576 → (Instr.makeSlice 91 (.int .i64 (n : Int)) (.int .i64 (n : Int))).run Try.prog W = .ok (.slice (some ⟨W.heap.size, 0, none⟩) n n) (W.alloc (.cells C 3)) := by
  obtain ⟨i0, hi, hz0, hz1, hz2⟩ := info_parts Try.infoIn
  refine ⟨madeCells (Value.cells (.int .i64 0)) n, size_madeCells _ _, fun i hi => ?_, fun W hn => ?_⟩
  · have e : Value.cells (.int .i64 0) = #[.int .i64 0] := rfl
    simp [madeCells, e, hi, Nat.mod_one]
  · have := run_make (P := Try.prog) W 91 3 i0 _ Try.underlying91 hi hz0 .i64 .i64 (n : Int) (n : Int) (by omega) (by omega) (by rw [hz2]; omega) (by omega)
    rw [hz1] at this
    simpa using this

theorem trio {w : World} {g e m n k : Nat} {f : Nat → Value} {P : Nat → Nat → Int} (h : Blk w g e m f) (hm : n * 3 ≤ m) (hk : k < n) (hf : ∀ i, i < n → ∀ j, j < 3 → f (i * 3 + j) = evs P i j) :
    w.cell? ⟨g, k * 3, none⟩ = some (.int .i64 (P k 0)) ∧ w.cell? ⟨g, k * 3 + 1, none⟩ = some (.int .i64 (P k 1)) ∧ w.cell? ⟨g, k * 3 + 2, none⟩ = some (.int .i64 (P k 2)) :=
  ⟨by rw [h.cell (by omega)]; exact congrArg some (hf k hk 0 (by omega)), by rw [h.cell (by omega), hf k hk 1 (by omega)]; rfl, by rw [h.cell (by omega), hf k hk 2 (by omega)]; rfl⟩

theorem rows_any (S : Int) (g n m ce : Nat) (ae : Option Addr) (w : World) :
    Calls Try.prog 80 #[.agg #[.int .i64 S, .slice (some ⟨g, 0, none⟩) n n], .slice ae m ce] w fun e w' => e = .returned (.func (.func 99) #[] #[.pointer (some ⟨w.heap.size, 0, none⟩), .pointer (some ⟨w.heap.size + 1, 0, none⟩)]) ∧ w' = (w.alloc (.cells #[.int .i64 S, .slice (some ⟨g, 0, none⟩) n n] 31)).alloc (.cells #[.slice ae m ce] 61) := by
  go_enter Try.func80, Try.ntmps80
  go_wp2
  go_ret
  exact ⟨rfl, rfl⟩

set_option maxRecDepth 100000 in
set_option maxHeartbeats 2000000 in
theorem rows1_in (q bl be g n le he m ce ns : Nat) (ae : Option Addr) (F T : Nat → Int) (P : Nat → Nat → Int) (w0 : World) (hl : lokZ (ns : Int) n F T = 0) (hm : m ≤ 2000) (hE : EnvT w0 bl be (ns : Int) g n le he m ae ce F T P) :
    SeqR q Try.prog 99 #[.pointer (some ⟨bl, 0, none⟩), .pointer (some ⟨be, 0, none⟩)] (fun rb k => #[.int .i64 (k : Int), .slice (some ⟨rb, 0, none⟩) ns ns]) m (fun rb k W => IntB W rb ns (trZ (ns : Int) n F T P (k + 1))) KpT w0 := by
  intro l J W hW hJ hY h0
  obtain ⟨r1, r2, r3⟩ := lok_range hl
  obtain ⟨Cs, zs, eCs, mk0⟩ := made_ints ns
  have mk := fun W => mk0 W (by omega)
  have EW : EnvT W bl be (ns : Int) g n le he m ae ce F T P := hE.kept (KpT.of_turned (Turned.of_below (E := fun _ => False) (lo := 0) (hi := 0) hW) id id id id)
  have y0 := EW.1.cell (i := 0) (by omega)
  have y1 := EW.2.1.cell (i := 0) (by omega)
  simp only [if_true] at y0 y1
  have b0 : IntB (W.alloc (.cells Cs 3)) W.heap.size ns (trZ (ns : Int) n F T P 0) := by
    have := Blk.new W Cs 3 (fun _ => .int .i64 0) (fun i hi => eCs i (by omega))
    rw [zs] at this
    exact this
  have EA : EnvT (W.alloc (.cells Cs 3)) bl be (ns : Int) g n le he m ae ce F T P := EW.kept (KpT.of_turned (Turned.of_below (E := fun _ => False) (lo := 0) (hi := 0) (below_alloc (Below.refl _ _) _)) id id id id)
  have JA : J 0 (W.alloc (.cells Cs 3)) := hJ _ _ _ none h0 (World.grownBy_alloc _ _ _) (fun r e => by cases e)
  have zl := EW.1.lt
  have ze := EW.2.1.lt
  clear mk0 eCs h0 hE
  refine callsIn_of_wp Try.func99 rfl trivial ?_ rfl
  simp only [Try.ntmps99, List.size_toArray, List.length_cons, List.length_nil, Nat.reduceAdd, Nat.reduceSub, Array.replicate_succ, Array.replicate_zero, List.push_toArray, List.append_toArray, List.nil_append, List.cons_append]
  gi_wp2
  gi_loopw [12] (fun i wr => ∃ k : Nat, k ≤ m ∧ i = .int .i64 k ∧ IntB wr W.heap.size ns (trZ (ns : Int) n F T P k) ∧ EnvT wr bl be (ns : Int) g n le he m ae ce F T P ∧ J k wr) (fun i _ => m - (intOf i).toNat)
  case atStart => exact ⟨0, Nat.zero_le _, rfl, b0, EA, JA⟩
  case round =>
    clear b0 EA JA EW y0 y1 mk
    obtain ⟨k, hk, rfl, hB, hE, hJk⟩ := hrel
    by_cases hlt : k < m
    · have hE' := hE
      obtain ⟨bL, bE, hrow, ⟨ae', ce', ee, he0⟩⟩ := hE'
      simp only [Value.slice.injEq] at ee
      obtain ⟨rfl, _, rfl⟩ := ee
      rcases he0 with he0 | ⟨ge, me, fe, rfl, _, _, h2, h3, h4⟩
      · omega
      obtain ⟨c0, c1, c2⟩ := trio h3 h2 hlt h4
      have y0 := bL.cell (i := 0) (by omega)
      have y1 := bL.cell (i := 1) (by omega)
      simp only [if_true, Nat.one_ne_zero, if_false] at y0 y1
      have zl' := bL.lt
      have eZ : trZ (ns : Int) n F T P (k + 1) = stepZ (ns : Int) n F T (trZ (ns : Int) n F T P k) (P k 0) (P k 1) (P k 2) := rfl
      obtain ⟨op, eop⟩ : ∃ op, P k 0 = op := ⟨_, rfl⟩
      obtain ⟨f, ef⟩ : ∃ f, P k 1 = f := ⟨_, rfl⟩
      obtain ⟨d, ed⟩ : ∃ d, P k 2 = d := ⟨_, rfl⟩
      rw [eop] at c0 eZ
      rw [ef] at c1 eZ
      rw [ed] at c2 eZ
      have hBU := below_alloc (Below.refl wr.heap.size wr) (.cells #[.int .i64 op, .int .i64 f, .int .i64 d] 33)
      have km := move_any (ns : Int) op f d g n ns W.heap.size F T (trZ (ns : Int) n F T P k) (wr.alloc (.cells #[.int .i64 op, .int .i64 f, .int .i64 d] 33)) hl rfl (hrow.alloc _) (Blk.on hB hBU) (fun s _ => by have := trZ_bound (ns : Int) n F T P k s; omega)
      rw [← eZ] at km
      have EU := hE.kept (KpT.of_turned (Turned.of_below (E := fun _ => False) (lo := 0) (hi := 0) hBU) id id id id)
      have JU := hJ _ _ _ none hJk (grown_of_below hBU) (fun r e => by cases e)
      have hi1 : (k : Int) < (m : Int) := by omega
      clear eZ eop ef ed h3 h4 bE hrow hE hJk hBU bL hB
      gi_wp2_with fail
      refine ⟨trivial, fun h => (by cases h), ?_⟩
      refine (callsIn_wide.2 km).mono ?_
      clear km
      rintro e w1 ⟨⟨v, rfl⟩, hB1, hT1⟩
      have J1 := hJ _ _ _ (some W.heap.size) JU hT1.grown1 (fun r e => by cases e; rfl)
      have E1 := EU.kept (KpT.of_turned hT1 (by decide) (by decide) (by decide) (by decide))
      obtain ⟨fn, tmps, assign, body, hy, hR⟩ := hY k w1 hlt J1 hB1
      clear J1 JU EU hT1 y0 y1 c0 c1 c2
      gi_wp2
      refine ⟨fun h => (by cases h), hR.mono ?_⟩
      rintro e W3 ⟨rfl, hJ3, hB3, hk3⟩
      have E3 := E1.kept hk3
      clear hR hy
      gi_wp2
      go_roundw
      case rel => exact ⟨k + 1, by omega, by go_num, hB3, E3, hJ3⟩
      case measure => simp [intOf]; omega
    · gi_wp2
      go_end0
      have : k = m := by omega
      subst this
      exact ⟨⟨_, rfl⟩, hJk⟩

end Go.Proofs.Ytlpopfhaephfaab
