import Derived.Test.YtlpopfhaephfaabDoorTR1
import Derived.Test.YtlpopfhaephfaabDoorTR2
import Derived.RangeFuncBound
import Derived.RangeFuncCalls
import Derived.Shelf.Abstract
import Derived.Shelf.RegionOpen
import Derived.WalkKit
import Derived.OwnWalkIn
import Derived.TacticsInMore
import Derived.LoopNIn
import Derived.LoopIn
namespace Go.Proofs.YtlpopfhaephfaabDoor
open Go.RowKit Go.Shelf
attribute [local go_sem] Oper.semAt_some

/-- What a round keeps of what the iterator reads. -/
def KpT (A B : World) : Prop := A.heap.size ≤ B.heap.size ∧ ∀ b e m f, Blk A b e m f → (e = 31 ∨ e = 33 ∨ e = 81 ∨ e = 51) → B.heap[b]? = A.heap[b]?

theorem KpT.trans {A B C : World} (h : KpT A B) (k : KpT B C) : KpT A C :=
  ⟨Nat.le_trans h.1 k.1, fun b e m f hb he => (k.2 b e m f (hb.of_block (h.2 b e m f hb he)) he).trans (h.2 b e m f hb he)⟩

theorem blk_cells {w : World} {b e m : Nat} {f : Nat → Value} (h : Blk w b e m f) : ∃ o : Obj, w.heap[b]? = some o ∧ o.isCells = true := by
  obtain ⟨c, h1, _⟩ := h
  exact ⟨_, h1, rfl⟩

theorem KpT.putObj (W : World) (l : Nat) (o o' : Obj) (h : W.heap[l]? = some o) (ho : o.isCells = false) : KpT W (W.putObj l o') :=
  ⟨by simp, fun b e m f hb _ => World.putObj_heap_other (fun e1 => by
    subst e1
    obtain ⟨o2, h2, h3⟩ := blk_cells hb
    rw [h] at h2; cases h2; rw [ho] at h3; cases h3)⟩

theorem KpT.of_turned {A B : World} {E : Nat → Prop} {lo hi : Nat} (h : Turned A B E lo hi) (h1 : ¬ E 31) (h2 : ¬ E 33) (h3 : ¬ E 81) (h4 : ¬ E 51) : KpT A B :=
  ⟨h.size, fun b e m f hb he => by
    rcases h.block b hb.lt with h' | ⟨_, _, e', m', f', a3, a4⟩
    · exact h'
    · have := a4.type_eq hb
      subst this
      rcases he with rfl | rfl | rfl | rfl
      · exact absurd a3 h1
      · exact absurd a3 h2
      · exact absurd a3 h3
      · exact absurd a3 h4⟩

/-- What the iterator reads. -/
def EnvT (W : World) (bl be : Nat) (S : Int) (g n le he m : Nat) (ae : Option Addr) (ce : Nat) (F T : Nat → Int) (P : Nat → Nat → Int) : Prop :=
  Blk W bl 31 2 (fun i => if i = 0 then .int .i64 S else .slice (some ⟨g, 0, none⟩) n n) ∧ Blk W be 33 1 (fun _ => .slice ae m ce) ∧ Row W g 81 2 n (two F T) ∧ SlF W 51 3 le he (.slice ae m ce) m (evs P)

theorem EnvT.kept {W W' : World} {bl be g n le he m ce : Nat} {S : Int} {ae : Option Addr} {F T : Nat → Int} {P : Nat → Nat → Int} (h : EnvT W bl be S g n le he m ae ce F T P) (hk : KpT W W') : EnvT W' bl be S g n le he m ae ce F T P :=
  ⟨h.1.of_block (hk.2 _ _ _ _ h.1 (.inl rfl)), h.2.1.of_block (hk.2 _ _ _ _ h.2.1 (.inr (.inl rfl))), Blk.of_block h.2.2.1 (hk.2 _ _ _ _ h.2.2.1 (.inr (.inr (.inl rfl)))), h.2.2.2.of_block (fun _ _ _ hb _ _ => hk.2 _ _ _ _ hb (.inr (.inr (.inr rfl))))⟩

theorem Turned.grown1 {A B : World} {E : Nat → Prop} {r : Nat} (h : Turned A B E r (r + 1)) : A.grownBy B (some r) :=
  ⟨h.os, h.tape, h.output, h.size, fun k hk hne => by
    rcases h.block k hk with h' | ⟨a1, a2, _⟩
    · exact h'
    · exact absurd (by rw [show k = r by omega]) hne⟩

theorem grown_of_below {A B : World} (h : Below A.heap.size A B) : A.grownBy B none := ⟨h.os, h.tape, h.output, h.size, fun k hk _ => h.block k hk⟩

theorem Tryd.infoIn : (Tryd.prog.info? 3).map (fun i => (i.zero, i.size, i.bytes)) = some (some (.int .i64 0), 1, 8) := by kernel_rfl

theorem made_ints (n : Nat) : ∃ C : Array Value, C.size = n ∧ (∀ i, i < n → C[i]? = some (.int .i64 0)) ∧ ∀ W : World, n ≤ 1048576 → (Instr.makeSlice 53 (.int .i64 (n : Int)) (.int .i64 (n : Int))).run Tryd.prog W = .ok (.slice (some ⟨W.heap.size, 0, none⟩) n n) (W.alloc (.cells C 3)) := by
  obtain ⟨i0, hi, hz0, hz1, hz2⟩ := info_parts Tryd.infoIn
  refine ⟨madeCells (Value.cells (.int .i64 0)) n, size_madeCells _ _, fun i hi => ?_, fun W hn => ?_⟩
  · have e : Value.cells (.int .i64 0) = #[.int .i64 0] := rfl
    simp [madeCells, e, hi, Nat.mod_one]
  · have := run_make (P := Tryd.prog) W 53 3 i0 _ Tryd.underlying53 hi hz0 .i64 .i64 (n : Int) (n : Int) (by omega) (by omega) (by rw [hz2]; omega) (by omega)
    rw [hz1] at this
    simpa using this

theorem trio {w : World} {g e m n k : Nat} {f : Nat → Value} {P : Nat → Nat → Int} (h : Blk w g e m f) (hm : n * 3 ≤ m) (hk : k < n) (hf : ∀ i, i < n → ∀ j, j < 3 → f (i * 3 + j) = evs P i j) :
    w.cell? ⟨g, k * 3, none⟩ = some (.int .i64 (P k 0)) ∧ w.cell? ⟨g, k * 3 + 1, none⟩ = some (.int .i64 (P k 1)) ∧ w.cell? ⟨g, k * 3 + 2, none⟩ = some (.int .i64 (P k 2)) :=
  ⟨by rw [h.cell (by omega)]; exact congrArg some (hf k hk 0 (by omega)), by rw [h.cell (by omega), hf k hk 1 (by omega)]; rfl, by rw [h.cell (by omega), hf k hk 2 (by omega)]; rfl⟩

theorem rows_any (S : Int) (g n m ce : Nat) (ae : Option Addr) (w : World) :
    Calls Tryd.prog 47 #[.agg #[.int .i64 S, .slice (some ⟨g, 0, none⟩) n n], .slice ae m ce] w fun e w' => e = .returned (.func (.func 62) #[] #[.pointer (some ⟨w.heap.size, 0, none⟩), .pointer (some ⟨w.heap.size + 1, 0, none⟩)]) ∧ w' = (w.alloc (.cells #[.int .i64 S, .slice (some ⟨g, 0, none⟩) n n] 31)).alloc (.cells #[.slice ae m ce] 33) := by
  go_enter Tryd.func47, Tryd.ntmps47
  go_wp2
  go_ret
  exact ⟨rfl, rfl⟩

set_option maxRecDepth 100000 in
set_option maxHeartbeats 2000000 in
theorem rows1_in (q bl be g n le he m ce ns : Nat) (ae : Option Addr) (F T : Nat → Int) (P : Nat → Nat → Int) (w0 : World) (hl : lokZ (ns : Int) n F T = 0) (hm : m ≤ 2000) (hE : EnvT w0 bl be (ns : Int) g n le he m ae ce F T P) :
    SeqR q Tryd.prog 62 #[.pointer (some ⟨bl, 0, none⟩), .pointer (some ⟨be, 0, none⟩)] (fun rb k => #[.int .i64 (k : Int), .slice (some ⟨rb, 0, none⟩) ns ns]) m (fun rb k W => IntB W rb ns (trZ (ns : Int) n F T P (k + 1))) KpT w0 := by
  intro l J W hW hJ hY h0
  obtain ⟨r1, r2, r3⟩ := lok_range hl
  obtain ⟨Cs, zs, eCs, mk0⟩ := made_ints ns
  have mk := fun W => mk0 W (by omega)
  have EW : EnvT W bl be (ns : Int) g n le he m ae ce F T P := hE.kept (KpT.of_turned (Turned.of_below (E := fun _ => False) (lo := 0) (hi := 0) hW) id id id id)
  have y0 := EW.1.cell (i := 0) (by omega)
  have y1 := EW.2.1.cell (i := 0) (by omega)
  simp only [if_true] at y0 y1
  have b0 : IntB (W.alloc (.cells Cs 3)) W.heap.size ns (trZ (ns : Int) n F T P 0) := by
    have := Blk.new W Cs 3 (fun _ => .int .i64 0) (fun i hi => eCs i (by omega))
    rw [zs] at this
    exact this
  have EA : EnvT (W.alloc (.cells Cs 3)) bl be (ns : Int) g n le he m ae ce F T P := EW.kept (KpT.of_turned (Turned.of_below (E := fun _ => False) (lo := 0) (hi := 0) (below_alloc (Below.refl _ _) _)) id id id id)
  have JA : J 0 (W.alloc (.cells Cs 3)) := hJ _ _ _ none h0 (World.grownBy_alloc _ _ _) (fun r e => by cases e)
  have zl := EW.1.lt
  have ze := EW.2.1.lt
  clear mk0 eCs h0 hE
  refine callsIn_of_wp Tryd.func62 rfl trivial ?_ rfl
  simp only [Tryd.ntmps62, List.size_toArray, List.length_cons, List.length_nil, Nat.reduceAdd, Nat.reduceSub, Array.replicate_succ, Array.replicate_zero, List.push_toArray, List.append_toArray, List.nil_append, List.cons_append]
  gi_wp2
  gi_loopw [12] (fun i wr => ∃ k : Nat, k ≤ m ∧ i = .int .i64 k ∧ IntB wr W.heap.size ns (trZ (ns : Int) n F T P k) ∧ EnvT wr bl be (ns : Int) g n le he m ae ce F T P ∧ J k wr) (fun i _ => m - (intOf i).toNat)
  case atStart => exact ⟨0, Nat.zero_le _, rfl, b0, EA, JA⟩
  case round =>
    clear b0 EA JA EW y0 y1 mk
    obtain ⟨k, hk, rfl, hB, hE, hJk⟩ := hrel
    by_cases hlt : k < m
    · have hE' := hE
      obtain ⟨bL, bE, hrow, ⟨ae', ce', ee, he0⟩⟩ := hE'
      simp only [Value.slice.injEq] at ee
      obtain ⟨rfl, _, rfl⟩ := ee
      rcases he0 with he0 | ⟨ge, me, fe, rfl, _, _, h2, h3, h4⟩
      · omega
      obtain ⟨c0, c1, c2⟩ := trio h3 h2 hlt h4
      have y0 := bL.cell (i := 0) (by omega)
      have y1 := bL.cell (i := 1) (by omega)
      simp only [if_true, Nat.one_ne_zero, if_false] at y0 y1
      have zl' := bL.lt
      have eZ : trZ (ns : Int) n F T P (k + 1) = stepZ (ns : Int) n F T (trZ (ns : Int) n F T P k) (P k 0) (P k 1) (P k 2) := rfl
      obtain ⟨op, eop⟩ : ∃ op, P k 0 = op := ⟨_, rfl⟩
      obtain ⟨f, ef⟩ : ∃ f, P k 1 = f := ⟨_, rfl⟩
      obtain ⟨d, ed⟩ : ∃ d, P k 2 = d := ⟨_, rfl⟩
      rw [eop] at c0 eZ
      rw [ef] at c1 eZ
      rw [ed] at c2 eZ
      have hBU := below_alloc (Below.refl wr.heap.size wr) (.cells #[.int .i64 op, .int .i64 f, .int .i64 d] 51)
      have km := move_any (ns : Int) op f d g n ns W.heap.size F T (trZ (ns : Int) n F T P k) (wr.alloc (.cells #[.int .i64 op, .int .i64 f, .int .i64 d] 51)) hl rfl (hrow.alloc _) (Blk.on hB hBU) (fun s _ => by have := trZ_bound (ns : Int) n F T P k s; omega)
      rw [← eZ] at km
      have EU := hE.kept (KpT.of_turned (Turned.of_below (E := fun _ => False) (lo := 0) (hi := 0) hBU) id id id id)
      have JU := hJ _ _ _ none hJk (grown_of_below hBU) (fun r e => by cases e)
      have hi1 : (k : Int) < (m : Int) := by omega
      clear eZ eop ef ed h3 h4 bE hrow hE hJk hBU bL hB
      gi_wp2_with fail
      refine ⟨trivial, fun h => (by cases h), ?_⟩
      refine (callsIn_wide.2 km).mono ?_
      clear km
      rintro e w1 ⟨⟨v, rfl⟩, hB1, hT1⟩
      have J1 := hJ _ _ _ (some W.heap.size) JU hT1.grown1 (fun r e => by cases e; rfl)
      have E1 := EU.kept (KpT.of_turned hT1 (by decide) (by decide) (by decide) (by decide))
      obtain ⟨fn, tmps, assign, body, hy, hR⟩ := hY k w1 hlt J1 hB1
      clear J1 JU EU hT1 y0 y1 c0 c1 c2
      gi_wp2
      refine ⟨fun h => (by cases h), hR.mono ?_⟩
      rintro e W3 ⟨rfl, hJ3, hB3, hk3⟩
      have E3 := E1.kept hk3
      clear hR hy
      gi_wp2
      go_roundw
      case rel => exact ⟨k + 1, by omega, by go_num, hB3, E3, hJ3⟩
      case measure => simp [intOf]; omega
    · gi_wp2
      go_end0
      have : k = m := by omega
      subst this
      exact ⟨⟨_, rfl⟩, hJk⟩

end Go.Proofs.YtlpopfhaephfaabDoor
