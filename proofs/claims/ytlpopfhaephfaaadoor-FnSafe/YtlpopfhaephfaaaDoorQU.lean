import Derived.Test.YtlpopfhaephfaaaDoorCR
import Derived.Test.YtlpopfhaephfaaaDoorDM3
import Derived.Test.YtlpopfhaephfaaaDoorEV2
import Derived.Test.YtlpopfhaephfaaaDoorRE1
import Derived.RangeFuncOwn
import Derived.RangeFuncLeaves
import Derived.RangeFuncRecord
import Derived.Test.YtlpopfhaephfaaaDoorST2
namespace Go.Proofs.YtlpopfhaephfaaaDoor
open Go.RowKit Go.Maps Go.Sort

/-- how many are in each section behind an event -/
def stepZ (S : Int) (n : Nat) (F T : Nat → Int) (Z : Nat → Int) (op f d : Int) : Nat → Int :=
  if evB S n op f d = true ∧ op = 1 then (fun s => Z s - (if fromZ F T f.toNat d = (s : Int) then 1 else 0) + (if toZ F T f.toNat d = (s : Int) then 1 else 0)) else Z

def trZ (S : Int) (n : Nat) (F T : Nat → Int) (P : Nat → Nat → Int) : Nat → Nat → Int
  | 0 => fun _ => 0
  | k + 1 => stepZ S n F T (trZ S n F T P k) (P k 0) (P k 1) (P k 2)

theorem stepZ_bound {S : Int} {n : Nat} {F T Z : Nat → Int} {op f d : Int} {s : Nat} {b : Int} (h : -b ≤ Z s ∧ Z s ≤ b) : -(b + 1) ≤ stepZ S n F T Z op f d s ∧ stepZ S n F T Z op f d s ≤ b + 1 := by
  unfold stepZ
  split
  · dsimp only
    split <;> split <;> omega
  · omega

theorem trZ_bound (S : Int) (n : Nat) (F T : Nat → Int) (P : Nat → Nat → Int) (k s : Nat) : -(k : Int) ≤ trZ S n F T P k s ∧ trZ S n F T P k s ≤ (k : Int) := by
  induction k with
  | zero => simp [trZ]
  | succ k ih =>
    have := stepZ_bound (S := S) (n := n) (F := F) (T := T) (op := P k 0) (f := P k 1) (d := P k 2) ih
    simp only [trZ]
    omega

/-- numbers in a block -/
def IntB (w : World) (b n : Nat) (Z : Nat → Int) : Prop := Blk w b 3 n (fun i => .int .i64 (Z i))

theorem IntB.set {w : World} {b n : Nat} {Z : Nat → Int} (h : IntB w b n Z) (j : Nat) (x : Int) : IntB (w.setCell ⟨b, j, none⟩ (.int .i64 x)) b n (fun i => if i = j then x else Z i) :=
  (Blk.set h j (.int .i64 x)).congr fun i _ => by
    by_cases e : i = j
    · simp [e]
    · simp [e]

theorem IntB.turn {w : World} {b n : Nat} {Z : Nat → Int} (h : IntB w b n Z) (j : Nat) (x : Value) : Turned w (w.setCell ⟨b, j, none⟩ x) (· = 3) b (b + 1) :=
  Turned.of_grown (grown_set (World.grownBy.refl _ _) _) (Nat.le_refl _) (by omega) rfl h

set_option maxRecDepth 100000 in
set_option maxHeartbeats 2000000 in
theorem move_axle (S d : Int) (g n ns rb f : Nat) (F T Z : Nat → Int) (w : World) (hn : n ≤ 120) (hev : evB S n 1 (f : Int) d = true) (hf : f < n) (hd : d = 1 ∨ d = -1) (hs : -1 ≤ fromZ F T f d ∧ fromZ F T f d < (ns : Int) ∧ -1 ≤ toZ F T f d ∧ toZ F T f d < (ns : Int)) (hne : fromZ F T f d ≠ toZ F T f d)
    (hrow : CRow w g n F T) (hb : IntB w rb ns Z) (hZ : ∀ s, s < ns → -2000000 ≤ Z s ∧ Z s ≤ 2000000) :
    Calls Tryd.prog 48 #[.agg #[.int .i64 S, .slice (gA g) n (gC g)], .slice (some ⟨rb, 0, none⟩) ns ns, .agg #[.int .i64 1, .int .i64 (f : Int), .int .i64 d]] w fun e w' => (∃ v, e = .returned v) ∧ IntB w' rb ns (fun s => Z s - (if fromZ F T f d = (s : Int) then 1 else 0) + (if toZ F T f d = (s : Int) then 1 else 0)) ∧ Turned w w' (· = 3) rb (rb + 1) := by
  have eI : hapI S n 1 (f : Int) d = .iface 140 (.agg #[.int .i64 (f : Int), .int .i64 d]) := by unfold hapI; rw [hev]; simp [hapV, hd]
  have kh := fun W => happensIn_any S 1 (f : Int) d n g W hn
  rw [eI] at kh
  have as_axlePasses : ∀ (v : Value) (W : World), (Instr.typeAssert (.iface 140 v) 98 140 true).run Tryd.prog W = .ok (.tuple #[v, .bool true]) W := fun _ _ => by kernel_rfl
  have ks := fun W (hW : Below w.heap.size w W) => sides_any S d g n f F T W hf (hrow.on hW)
  obtain ⟨a, ea⟩ : ∃ a, fromZ F T f d = a := ⟨_, rfl⟩
  obtain ⟨b, eb⟩ : ∃ b, toZ F T f d = b := ⟨_, rfl⟩
  rw [ea, eb] at hs hne
  simp only [ea, eb] at ks ⊢
  clear ea eb eI
  go_enter Tryd.func48, Tryd.ntmps48
  go_wp2_with fail
  refine (kh _).mono ?_
  rintro e w1 ⟨rfl, hb1⟩
  have B1 := below_on (show Below w.heap.size w _ from (by repeat (first | exact Below.refl _ _ | assumption | refine below_alloc ?_ _ | refine Below.setCell ?_ (by first | omega | (simp; done) | (simp; omega)) _ | refine Below.alloc ?_ (by first | omega | (simp; done) | (simp; omega)) _ | refine Below.drew ?_))) hb1
  have z1 : w.heap.size + 1 < w1.heap.size := by have := hb1.size; simp at this; omega
  have y0 : w1.cell? ⟨w.heap.size, 0, none⟩ = some (.int .i64 S) := (hb1.cell (p := ⟨w.heap.size, 0, none⟩) (by first | omega | (simp; done) | (simp; omega))).trans (by simp)
  have y1 : w1.cell? ⟨w.heap.size, 1, none⟩ = some (.slice (gA g) n (gC g)) := (hb1.cell (p := ⟨w.heap.size, 1, none⟩) (by first | omega | (simp; done) | (simp; omega))).trans (by simp)
  have z0 : w.heap.size < w1.heap.size := by omega
  clear hb1
  go_wp2_with fail
  refine (ks _ (below_alloc B1 _)).mono ?_
  rintro e w2 ⟨rfl, hb2⟩
  have B2 := below_on (below_alloc B1 _) hb2
  have b2 : IntB w2 rb ns Z := Blk.on hb B2
  clear hb2 B1 y0 y1
  rcases (show a = -1 ∨ 0 ≤ a by omega) with rfl | ha
  · rcases (show b = -1 ∨ 0 ≤ b by omega) with rfl | hb0
    · omega
    · obtain ⟨j, rfl⟩ : ∃ j : Nat, b = (j : Int) := ⟨b.toNat, by omega⟩
      have hj : j < ns := by omega
      have hj' : (j : Int) < (ns : Int) := by omega
      have c1 := Blk.cell b2 hj
      have q1 := Blk.frozen b2 j
      obtain ⟨x, ex⟩ : ∃ x, Z j = x := ⟨_, rfl⟩
      have hx := hZ j hj
      rw [ex] at c1 hx
      go_wp2
      go_end0
      refine ⟨⟨_, rfl⟩, (b2.set j (x + 1)).congr (fun i hi => ?_), (Turned.of_below B2).trans (b2.turn j _)⟩
      by_cases e : i = j
      · subst e; simp [ex]
      · have e' : ¬ (j : Int) = (i : Int) := by omega
        have e2 : ¬ (-1 : Int) = (i : Int) := by omega
        simp [e, e', e2]
  · obtain ⟨i0, rfl⟩ : ∃ j : Nat, a = (j : Int) := ⟨a.toNat, by omega⟩
    have hi0 : i0 < ns := by omega
    have hi0' : (i0 : Int) < (ns : Int) := by omega
    have ha1 : ¬ (i0 : Int) = -1 := by omega
    have c1 := Blk.cell b2 hi0
    have q1 := Blk.frozen b2 i0
    obtain ⟨x, ex⟩ : ∃ x, Z i0 = x := ⟨_, rfl⟩
    have hx := hZ i0 hi0
    rw [ex] at c1 hx
    have s3 := b2.set i0 (x - 1)
    have t3 := b2.turn i0 (.int .i64 (x - 1))
    rcases (show b = -1 ∨ 0 ≤ b by omega) with rfl | hb0
    · have S3 : Hid _ := s3
      have T3 : Hid _ := t3
      clear s3 t3
      go_wp2
      go_end0
      refine ⟨⟨_, rfl⟩, Blk.congr S3.out (fun i hi => ?_), (Turned.of_below B2).trans T3.out⟩
      by_cases e : i = i0
      · subst e
        have e2 : ¬ (-1 : Int) = (i : Int) := by omega
        simp [ex, e2]
      · have e' : ¬ (i0 : Int) = (i : Int) := by omega
        have e2 : ¬ (-1 : Int) = (i : Int) := by omega
        simp [e, e', e2]
    · obtain ⟨j, rfl⟩ : ∃ j : Nat, b = (j : Int) := ⟨b.toNat, by omega⟩
      have hj : j < ns := by omega
      have hj' : (j : Int) < (ns : Int) := by omega
      have hb1 : ¬ (j : Int) = -1 := by omega
      have hij : ¬ j = i0 := by omega
      have hji : ¬ i0 = j := by omega
      have c2 := Blk.cell b2 hj
      obtain ⟨y, ey⟩ : ∃ y, Z j = y := ⟨_, rfl⟩
      have hy := hZ j hj
      rw [ey] at c2 hy
      have q2 := Blk.frozen b2 j
      have s4 := s3.set j (y + 1)
      have t4 := s3.turn j (.int .i64 (y + 1))
      have S4 : Hid _ := s4
      have T4 : Hid _ := t3.trans t4
      clear s3 t3 s4 t4
      go_wp2
      go_end0
      refine ⟨⟨_, rfl⟩, Blk.congr S4.out (fun i hi => ?_), (Turned.of_below B2).trans T4.out⟩
      by_cases e : i = j
      · subst e
        have hji' : ¬ (i0 : Int) = (i : Int) := by omega
        simp [ey, hji']
      · have e' : ¬ (j : Int) = (i : Int) := by omega
        by_cases e3 : i = i0
        · subst e3
          simp [e, e', ex]
        · have e4 : ¬ (i0 : Int) = (i : Int) := by omega
          simp [e, e', e3, e4]

set_option maxRecDepth 100000 in
set_option maxHeartbeats 2000000 in
theorem move_other (S op f d : Int) (g n ns rb : Nat) (Z : Nat → Int) (w : World) (hn : n ≤ 120) (hno : ¬ (evB S n op f d = true ∧ op = 1)) (hb : IntB w rb ns Z) :
    Calls Tryd.prog 48 #[.agg #[.int .i64 S, .slice (gA g) n (gC g)], .slice (some ⟨rb, 0, none⟩) ns ns, .agg #[.int .i64 op, .int .i64 f, .int .i64 d]] w fun e w' => (∃ v, e = .returned v) ∧ IntB w' rb ns Z ∧ Turned w w' (· = 3) rb (rb + 1) := by
  have k1 : ∀ (W : World), (Instr.typeAssert .nilIface 98 140 true).run Tryd.prog W = .ok (.tuple #[.agg #[.int .i64 0, .int .i64 0], .bool false]) W := fun _ => by kernel_rfl
  have k2 : ∀ (W : World), (Instr.typeAssert (.iface 147 (.agg #[.int .i64 f, .int .i64 d])) 98 140 true).run Tryd.prog W = .ok (.tuple #[.agg #[.int .i64 0, .int .i64 0], .bool false]) W := fun _ => by kernel_rfl
  have k3 : ∀ (W : World), (Instr.typeAssert (.iface 149 (.agg #[.int .i64 f])) 98 140 true).run Tryd.prog W = .ok (.tuple #[.agg #[.int .i64 0, .int .i64 0], .bool false]) W := fun _ => by kernel_rfl
  have k4 : ∀ (W : World), (Instr.typeAssert (.iface 150 (.agg #[.int .i64 f])) 98 140 true).run Tryd.prog W = .ok (.tuple #[.agg #[.int .i64 0, .int .i64 0], .bool false]) W := fun _ => by kernel_rfl
  have k5 : ∀ (W : World), (Instr.typeAssert (.iface 123 (.agg #[.int .i64 f])) 98 140 true).run Tryd.prog W = .ok (.tuple #[.agg #[.int .i64 0, .int .i64 0], .bool false]) W := fun _ => by kernel_rfl
  have no : ∀ (W : World), (Instr.typeAssert (hapI S n op f d) 98 140 true).run Tryd.prog W = .ok (.tuple #[.agg #[.int .i64 0, .int .i64 0], .bool false]) W := fun W => by
    have hv : hapI S n op f d = .nilIface ∨ hapI S n op f d = .iface 147 (.agg #[.int .i64 f, .int .i64 d]) ∨ hapI S n op f d = .iface 149 (.agg #[.int .i64 f]) ∨ hapI S n op f d = .iface 150 (.agg #[.int .i64 f]) ∨ hapI S n op f d = .iface 123 (.agg #[.int .i64 f]) := by
      unfold hapI
      cases hev : evB S n op f d
      · exact .inl rfl
      · have h1 : ¬ op = 1 := fun h => hno ⟨hev, h⟩
        unfold hapV
        rw [if_pos rfl, if_neg h1]
        by_cases h2 : d = 1 ∨ d = -1
        · rw [if_pos h2]
          by_cases h3 : op = 2
          · rw [if_pos h3]; exact .inr (.inl rfl)
          · rw [if_neg h3]; exact .inl rfl
        · rw [if_neg h2]
          by_cases h3 : d = 0
          · rw [if_pos h3]
            by_cases h4 : op = 3
            · rw [if_pos h4]; exact .inr (.inr (.inl rfl))
            · rw [if_neg h4]
              by_cases h5 : op = 4
              · rw [if_pos h5]; exact .inr (.inr (.inr (.inl rfl)))
              · rw [if_neg h5]
                by_cases h6 : op = 5
                · rw [if_pos h6]; exact .inr (.inr (.inr (.inr rfl)))
                · rw [if_neg h6]; exact .inl rfl
          · rw [if_neg h3]; exact .inl rfl
    rcases hv with hv | hv | hv | hv | hv
    · rw [hv]; exact k1 W
    · rw [hv]; exact k2 W
    · rw [hv]; exact k3 W
    · rw [hv]; exact k4 W
    · rw [hv]; exact k5 W
  have kh := fun W => happensIn_any S op f d n g W hn
  obtain ⟨v, ev⟩ : ∃ v, hapI S n op f d = v := ⟨_, rfl⟩
  rw [ev] at kh
  simp only [ev] at no
  clear ev k1 k2 k3 k4 k5
  go_enter Tryd.func48, Tryd.ntmps48
  go_wp2_with fail
  refine (kh _).mono ?_
  rintro e w1 ⟨rfl, hb1⟩
  have B1 := below_on (show Below w.heap.size w _ from (by repeat (first | exact Below.refl _ _ | assumption | refine below_alloc ?_ _ | refine Below.setCell ?_ (by first | omega | (simp; done) | (simp; omega)) _ | refine Below.alloc ?_ (by first | omega | (simp; done) | (simp; omega)) _ | refine Below.drew ?_))) hb1
  go_wp2
  refine bodyPost_ret (results_none rfl _ _ _) rfl ?_
  exact ⟨⟨_, rfl⟩, Blk.on hb (below_alloc B1 _), Turned.of_below (below_alloc B1 _)⟩

theorem move_any (S op f d : Int) (g n ns rb : Nat) (F T Z : Nat → Int) (w : World) (hl : lokZ S n F T = 0) (hS : (ns : Int) = S) (hrow : CRow w g n F T) (hb : IntB w rb ns Z) (hZ : ∀ s, s < ns → -2000000 ≤ Z s ∧ Z s ≤ 2000000) :
    Calls Tryd.prog 48 #[.agg #[.int .i64 S, .slice (gA g) n (gC g)], .slice (some ⟨rb, 0, none⟩) ns ns, .agg #[.int .i64 op, .int .i64 f, .int .i64 d]] w fun e w' => (∃ v, e = .returned v) ∧ IntB w' rb ns (stepZ S n F T Z op f d) ∧ Turned w w' (· = 3) rb (rb + 1) := by
  obtain ⟨r1, r2, r3⟩ := lok_range hl
  unfold stepZ
  by_cases hno : evB S n op f d = true ∧ op = 1
  · rw [if_pos hno]
    obtain ⟨hev, rfl⟩ := hno
    have h := hev
    unfold evB at h
    rw [if_pos (.inl rfl)] at h
    simp only [decide_eq_true_eq] at h
    obtain ⟨h1, h2, hd⟩ := h
    obtain ⟨k, rfl⟩ : ∃ k : Nat, f = (k : Int) := ⟨f.toNat, by omega⟩
    have hk : k < n := by omega
    have hs := lok_sides hl k hk
    simp only [Int.toNat_natCast]
    refine move_axle S d g n ns rb k F T Z w r3 hev hk hd ?_ ?_ hrow hb hZ
    · unfold fromZ toZ; split <;> omega
    · unfold fromZ toZ; split <;> omega
  · rw [if_neg hno]
    exact move_other S op f d g n ns rb Z w r3 hno hb

end Go.Proofs.YtlpopfhaephfaaaDoor

namespace Go.Proofs.YtlpopfhaephfaaaDoor
open Go.RowKit

/-- How a round's body is left here: it goes on. -/
def onPost (R : World → Prop) : Exit → Act → World → Prop
  | .normal, _, W' => R W'
  | .ret, _, _ => False
  | .exit _, _, _ => False
  | .goto _, _, _ => False
  | .panic _, _, _ => False
  | .outgrown, _, _ => False

/-- An iterator that makes one block of its own (at the heap's end), turns it ahead of each of m rounds, and hands it to the round. -/
def SeqR (n : Nat) (P : Program) (gf : Nat) (lb : Array Value) (encs : Nat → Nat → Array Value) (m : Nat) (Rw : Nat → Nat → World → Prop) (Kp : World → World → Prop) (w0 : World) : Prop :=
  ∀ (l : Nat) (J : Nat → World → Prop) (W : World), Below w0.heap.size w0 W →
    (∀ k A B row, J k A → A.grownBy B row → (∀ r, row = some r → r = W.heap.size) → J k B) →
    (∀ k W1, k < m → J k W1 → Rw W.heap.size k W1 → YieldAt Fence.wide (n - 1) P l (encs W.heap.size k) W1 fun e W' => e = .returned (.bool true) ∧ J (k + 1) W' ∧ Rw W.heap.size k W' ∧ Kp W1 W') →
    J 0 W → CallsIn Fence.wide n P gf (#[.func (.yield l) #[] #[]] ++ lb) W fun e W' => (∃ v, e = .returned v) ∧ J m W'

theorem range_rows {P : Program} {n : Nat} {g : Operand} {ps : Array Tmp} {assign body : Code} {Q : Exit → Act → World → Prop} {a : Act} {w : World} {gf : Nat} {lb : Array Value}
    (hg : a.eval g = .func (.func gf) #[] lb) (eg : ∀ args w, (callFunc gf args).run P w = .ok (.enter gf args) w)
    {encs : Nat → Nat → Array Value} {m : Nat} {Rw : Nat → Nat → World → Prop} {Kp : World → World → Prop} (hseq : SeqR (n - 1) P gf lb encs m Rw Kp w)
    (hps : ∀ rb k, (encs rb k).size = ps.size)
    (hRp : ∀ rb k W l o o', Rw rb k W → W.heap[l]? = some o → o.isCells = false → Rw rb k (W.putObj l o'))
    (hKt : ∀ {A B C : World}, Kp A B → Kp B C → Kp A C) (hKb : ∀ (W : World) (l : Nat) (o o' : Obj), W.heap[l]? = some o → o.isCells = false → Kp W (W.putObj l o'))
    (I : Nat → World → Prop)
    (hI : ∀ k A B row, I k A → A.grownBy B row → (∀ r, row = some r → r = w.heap.size + 1 + 1 ∨ (w.heap.size ≤ r ∧ ∃ o : Obj, A.heap[r]? = some o ∧ o.isCells = false)) → I k B)
    (h0 : I 0 w) (a₁ : Nat → Act)
    (hassign : ∀ (l k : Nat) (W : World) (K : Act → World → Prop), K (a₁ k) W →
      assign.wpIn (Fence.wide.inRound l) (n - 1 - 1) P (Exit.then K (fun _ _ _ => False)) { tmps := (ps.zip (encs (w.heap.size + 1 + 1) k)).foldl (fun t (p, v) => t.setIfInBounds p v) a.tmps, defers := [] } W)
    (hbody : ∀ (l k : Nat) (W : World), k < m → I k W → Rw (w.heap.size + 1 + 1) k W → body.wpIn (Fence.wide.inRound l) (n - 1 - 1) P (onPost fun W' => KeepsOthers W W' ∧ Kp W W' ∧ Rw (w.heap.size + 1 + 1) k W' ∧ I (k + 1) W') (a₁ k) W)
    (hdone : ∀ (W : World), I m W → W.heap[w.heap.size]? = some (.deferred (some [])) → Q .normal { a with defers := { target := .collected w.heap.size, args := #[] } :: a.defers } W) :
    (Code.rangeFunc g ps assign body).wpIn Fence.wide n P Q a w := by
  refine wpIn_rangeFunc ?_
  intro fn hfn
  obtain ⟨rec, hrec⟩ : ∃ rec : LoopState → Option Code → Loop, rec = fun st pe => { state := st, pending := pe, fn, tmps := a.tmps, params := ps, assign, body, defers := w.heap.size } := ⟨_, rfl⟩
  obtain ⟨W1, hW1⟩ : ∃ W1, (w.alloc (.deferred (some []))).alloc (.loop (rec .ready none)) = W1 := ⟨_, rfl⟩
  have hL1 : W1.heap[w.heap.size + 1]? = some (.loop (rec .ready none)) := by
    rw [← hW1]; have := World.alloc_heap_new (w.alloc (.deferred (some []))) (.loop (rec .ready none)); rwa [World.size_alloc] at this
  have hK1 : W1.heap[w.heap.size]? = some (.deferred (some [])) := by
    rw [← hW1]; exact (Below.heap_alloc _ _ _ (by simp)).trans (World.alloc_heap_new w _)
  have hI1 : I 0 W1 := by rw [← hW1]; exact hI _ _ _ none (hI _ _ _ none h0 (World.grownBy_alloc w _ none) (fun r e => by cases e)) (World.grownBy_alloc _ _ none) (fun r e => by cases e)
  have hb1 : Below w.heap.size w W1 := by
    rw [← hW1]; exact ((Below.refl _ w).alloc (Nat.le_refl _) _).alloc (by simp) _
  have hs1 : W1.heap.size = w.heap.size + 1 + 1 := by rw [← hW1]; simp
  refine ⟨w.heap.size + 1, [{ target := .collected w.heap.size, args := #[] }], W1, { target := .fn (.func gf) lb, args := #[.func (.yield (w.heap.size + 1)) #[] #[]] }, W1, gf,
    #[.func (.yield (w.heap.size + 1)) #[] #[]] ++ lb, W1, ?_, ?_, ?_, ?_, fun h => (by cases h), ?_⟩
  · rw [← hW1, hrec]; exact run_enterLoop_outer _ _ _ _ _
  · simp only [resolve, hg]
    simp [go_sem]
  · intro f' hf'; trivial
  · simp [invoke, go_sem, eg]
  · refine (hseq (w.heap.size + 1)
      (fun k W => I k W ∧ W.heap[w.heap.size + 1]? = some (.loop (rec .ready none)) ∧ W.heap[w.heap.size]? = some (.deferred (some [])))
      W1 hb1
      (fun k A B row hs hg' hr => ⟨hI k A B row hs.1 hg' (fun r e => .inl (by rw [hr r e, hs1])),
        (hg'.block _ (Array.getElem?_eq_some_iff.1 hs.2.1).1 (fun e => by have := hr _ e.symm; omega)).trans hs.2.1, (hg'.block _ (Array.getElem?_eq_some_iff.1 hs.2.2).1 (fun e => by have := hr _ e.symm; omega)).trans hs.2.2⟩)
      ?_ ⟨hI1, hL1, hK1⟩).mono ?_
    · rw [hs1]
      rintro k W hk ⟨hi, hl, hd⟩ hrw
      have hlt : w.heap.size + 1 < W.heap.size := (Array.getElem?_eq_some_iff.1 hl).1
      have hy := run_yield (P := P) (args := encs (w.heap.size + 1 + 1) k) hl (by rw [hrec]; exact hps _ k)
      rw [hrec] at hy
      refine ⟨fn, _, assign, body, hy, roundIn_of_wpIn hfn (hassign _ k W _ ⟨_, run_beginRound hl (by rw [hrec]), ?_⟩)⟩
      have hl2 : (W.putObj (w.heap.size + 1) (.loop { rec .ready none with state := .busy })).heap[w.heap.size + 1]? = some (.loop { rec .ready none with state := .busy }) := World.putObj_heap_same hlt
      have hk2 : (W.putObj (w.heap.size + 1) (.loop { rec .ready none with state := .busy })).heap[w.heap.size]? = some (.deferred (some [])) := (World.putObj_heap_other (by omega)).trans hd
      have hw2 : Kp W (W.putObj (w.heap.size + 1) (.loop { rec .ready none with state := .busy })) := hKb _ _ _ _ hl rfl
      have hi2 : I k (W.putObj (w.heap.size + 1) (.loop { rec .ready none with state := .busy })) := hI _ _ _ (some (w.heap.size + 1)) hi (grownBy_putObj' _ _ _) (fun r e => by cases e; exact .inr ⟨by omega, _, hl, rfl⟩)
      refine wpIn_mono (hbody _ k _ hk hi2 (hRp _ _ _ _ _ _ hrw hl rfl)) ?_
      rintro e a3 W3 hp
      cases e with
      | normal =>
        obtain ⟨hk3, hkp3, hr3, hi3⟩ := hp
        have hl3 := hk3.same _ _ hl2 rfl
        have hd3 := hk3.same _ _ hk2 rfl
        have he := run_endRound (P := P) none hl3
        refine ⟨_, _, he, rfl, ⟨hI _ _ _ (some (w.heap.size + 1)) hi3 (grownBy_putObj' _ _ _) (fun r e => by cases e; exact .inr ⟨by omega, _, hl3, rfl⟩), ?_, (World.putObj_heap_other (by omega)).trans hd3⟩, hRp _ _ _ _ _ _ hr3 hl3 rfl, hKt (hKt hw2 hkp3) (hKb _ _ _ _ hl3 rfl)⟩
        rw [World.putObj_heap_same (Array.getElem?_eq_some_iff.1 hl3).1, hrec]
        rfl
      | ret => exact hp.elim
      | exit id => exact hp.elim
      | goto t => exact hp.elim
      | panic ch => exact hp.elim
      | outgrown => exact hp.elim
    · rintro e W2 ⟨⟨v, rfl⟩, hi, hl, hd⟩
      exact ⟨none, _, by have := run_endLoop (P := P) hl (by rw [hrec]; simp); rw [hrec] at this; exact this, hdone _ (hI _ _ _ (some (w.heap.size + 1)) hi (grownBy_putObj' _ _ _) (fun r e => by cases e; exact .inr ⟨by omega, _, hl, rfl⟩)) ((World.putObj_heap_other (by omega)).trans hd)⟩

end Go.Proofs.YtlpopfhaephfaaaDoor
