import Derived.Test.YtlpopfhaephfaaaDoorCR
import Derived.Test.YtlpopfhaephfaaaDoorQU
import Derived.RangeFuncBound
import Derived.RangeFuncCalls
import Derived.Shelf.Abstract
import Derived.Shelf.RegionOpen
import Derived.WalkKit
import Derived.OwnWalkIn
import Derived.TacticsInMore
import Derived.LoopNIn
import Derived.LoopIn
import Derived.Test.YtlpopfhaephfaaaDoorDM7
import Derived.Test.YtlpopfhaephfaaaDoorRN4
import Derived.Test.YtlpopfhaephfaaaDoorEV2
import Derived.Test.YtlpopfhaephfaaaDoorRC
namespace Go.Proofs.YtlpopfhaephfaaaDoor
open Go.RowKit Go.Shelf
attribute [local go_sem] Oper.semAt_some

/-- What a round keeps of what the iterator reads. -/
def KpT (A B : World) : Prop := A.heap.size ≤ B.heap.size ∧ ∀ b e m f, Blk A b e m f → (e = 25 ∨ e = 26 ∨ e = 74 ∨ e = 56) → B.heap[b]? = A.heap[b]?

theorem KpT.trans {A B C : World} (h : KpT A B) (k : KpT B C) : KpT A C :=
  ⟨Nat.le_trans h.1 k.1, fun b e m f hb he => (k.2 b e m f (hb.of_block (h.2 b e m f hb he)) he).trans (h.2 b e m f hb he)⟩

theorem blk_cells {w : World} {b e m : Nat} {f : Nat → Value} (h : Blk w b e m f) : ∃ o : Obj, w.heap[b]? = some o ∧ o.isCells = true := by
  obtain ⟨c, h1, _⟩ := h
  exact ⟨_, h1, rfl⟩

theorem KpT.putObj (W : World) (l : Nat) (o o' : Obj) (h : W.heap[l]? = some o) (ho : o.isCells = false) : KpT W (W.putObj l o') :=
  ⟨by simp, fun b e m f hb _ => World.putObj_heap_other (fun e1 => by
    subst e1
    obtain ⟨o2, h2, h3⟩ := blk_cells hb
    rw [h] at h2; cases h2; rw [ho] at h3; cases h3)⟩

theorem KpT.of_turned {A B : World} {E : Nat → Prop} {lo hi : Nat} (h : Turned A B E lo hi) (h1 : ¬ E 25) (h2 : ¬ E 26) (h3 : ¬ E 74) (h4 : ¬ E 56) : KpT A B :=
  ⟨h.size, fun b e m f hb he => by
    rcases h.block b hb.lt with h' | ⟨_, _, e', m', f', a3, a4⟩
    · exact h'
    · have := a4.type_eq hb
      subst this
      rcases he with rfl | rfl | rfl | rfl
      · exact absurd a3 h1
      · exact absurd a3 h2
      · exact absurd a3 h3
      · exact absurd a3 h4⟩

/-- What the iterator reads. -/
def EnvT (W : World) (bl be : Nat) (S : Int) (g n le he m : Nat) (ae : Option Addr) (ce : Nat) (F T : Nat → Int) (P : Nat → Nat → Int) : Prop :=
  Blk W bl 25 2 (fun i => if i = 0 then .int .i64 S else .slice (gA g) n (gC g)) ∧ Blk W be 26 1 (fun _ => .slice ae m ce) ∧ CRow W g n F T ∧ SlF W 56 3 le he (.slice ae m ce) m (evs P)

theorem CRow.of_block {w w' : World} {g n : Nat} {F T : Nat → Int} (h : CRow w g n F T) (hb : ∀ b m f, Blk w b 74 m f → w'.heap[b]? = w.heap[b]?) : CRow w' g n F T := by
  rcases h with h | ⟨b, m, f, h1, h2, h3, h4⟩
  · exact .inl h
  · exact .inr ⟨b, m, f, h1, h2, Blk.of_block h3 (hb b m f h3), h4⟩

theorem EnvT.kept {W W' : World} {bl be g n le he m ce : Nat} {S : Int} {ae : Option Addr} {F T : Nat → Int} {P : Nat → Nat → Int} (h : EnvT W bl be S g n le he m ae ce F T P) (hk : KpT W W') : EnvT W' bl be S g n le he m ae ce F T P :=
  ⟨h.1.of_block (hk.2 _ _ _ _ h.1 (.inl rfl)), h.2.1.of_block (hk.2 _ _ _ _ h.2.1 (.inr (.inl rfl))), h.2.2.1.of_block (fun _ _ _ hb => hk.2 _ _ _ _ hb (.inr (.inr (.inl rfl)))), h.2.2.2.of_block (fun _ _ _ hb _ _ => hk.2 _ _ _ _ hb (.inr (.inr (.inr rfl))))⟩

theorem Turned.grown1 {A B : World} {E : Nat → Prop} {r : Nat} (h : Turned A B E r (r + 1)) : A.grownBy B (some r) :=
  ⟨h.os, h.tape, h.output, h.size, fun k hk hne => by
    rcases h.block k hk with h' | ⟨a1, a2, _⟩
    · exact h'
    · exact absurd (by rw [show k = r by omega]) hne⟩

theorem grown_of_below {A B : World} (h : Below A.heap.size A B) : A.grownBy B none := ⟨h.os, h.tape, h.output, h.size, fun k hk _ => h.block k hk⟩

theorem Tryd.infoIn : (Tryd.prog.info? 3).map (fun i => (i.zero, i.size, i.bytes)) = some (some (.int .i64 0), 1, 8) := by kernel_rfl

theorem made_ints (n : Nat) : ∃ C : Array Value, C.size = n ∧ (∀ i, i < n → C[i]? = some (.int .i64 0)) ∧ ∀ W : World, n ≤ 1048576 → (Instr.makeSlice 44 (.int .i64 (n : Int)) (.int .i64 (n : Int))).run Tryd.prog W = .ok (.slice (some ⟨W.heap.size, 0, none⟩) n n) (W.alloc (.cells C 3)) := by
  obtain ⟨i0, hi, hz0, hz1, hz2⟩ := info_parts Tryd.infoIn
  refine ⟨madeCells (Value.cells (.int .i64 0)) n, size_madeCells _ _, fun i hi => ?_, fun W hn => ?_⟩
  · have e : Value.cells (.int .i64 0) = #[.int .i64 0] := rfl
    simp [madeCells, e, hi, Nat.mod_one]
  · have := run_make (P := Tryd.prog) W 44 3 i0 _ Tryd.underlying44 hi hz0 .i64 .i64 (n : Int) (n : Int) (by omega) (by omega) (by rw [hz2]; omega) (by omega)
    rw [hz1] at this
    simpa using this

theorem trio {w : World} {g e m n k : Nat} {f : Nat → Value} {P : Nat → Nat → Int} (h : Blk w g e m f) (hm : n * 3 ≤ m) (hk : k < n) (hf : ∀ i, i < n → ∀ j, j < 3 → f (i * 3 + j) = evs P i j) :
    w.cell? ⟨g, k * 3, none⟩ = some (.int .i64 (P k 0)) ∧ w.cell? ⟨g, k * 3 + 1, none⟩ = some (.int .i64 (P k 1)) ∧ w.cell? ⟨g, k * 3 + 2, none⟩ = some (.int .i64 (P k 2)) :=
  ⟨by rw [h.cell (by omega)]; exact congrArg some (hf k hk 0 (by omega)), by rw [h.cell (by omega), hf k hk 1 (by omega)]; rfl, by rw [h.cell (by omega), hf k hk 2 (by omega)]; rfl⟩

theorem rows_any (S : Int) (g n m ce : Nat) (ae : Option Addr) (w : World) :
    Calls Tryd.prog 26 #[.agg #[.int .i64 S, .slice (gA g) n (gC g)], .slice ae m ce] w fun e w' => e = .returned (.func (.func 47) #[] #[.pointer (some ⟨w.heap.size, 0, none⟩), .pointer (some ⟨w.heap.size + 1, 0, none⟩)]) ∧ w' = (w.alloc (.cells #[.int .i64 S, .slice (gA g) n (gC g)] 25)).alloc (.cells #[.slice ae m ce] 26) := by
  go_enter Tryd.func26, Tryd.ntmps26
  go_wp2
  go_ret
  exact ⟨rfl, rfl⟩

set_option maxRecDepth 100000 in
set_option maxHeartbeats 2000000 in
theorem rows1_in (q bl be g n le he m ce ns : Nat) (ae : Option Addr) (F T : Nat → Int) (P : Nat → Nat → Int) (w0 : World) (hl : lokZ (ns : Int) n F T = 0) (hm : m ≤ 2000) (hE : EnvT w0 bl be (ns : Int) g n le he m ae ce F T P) :
    SeqR q Tryd.prog 47 #[.pointer (some ⟨bl, 0, none⟩), .pointer (some ⟨be, 0, none⟩)] (fun rb k => #[.int .i64 (k : Int), .slice (some ⟨rb, 0, none⟩) ns ns]) m (fun rb k W => IntB W rb ns (trZ (ns : Int) n F T P (k + 1))) KpT w0 := by
  intro l J W hW hJ hY h0
  obtain ⟨r1, r2, r3⟩ := lok_range hl
  obtain ⟨Cs, zs, eCs, mk0⟩ := made_ints ns
  have mk := fun W => mk0 W (by omega)
  have EW : EnvT W bl be (ns : Int) g n le he m ae ce F T P := hE.kept (KpT.of_turned (Turned.of_below (E := fun _ => False) (lo := 0) (hi := 0) hW) id id id id)
  have y0 := EW.1.cell (i := 0) (by omega)
  have y1 := EW.2.1.cell (i := 0) (by omega)
  simp only [if_true] at y0 y1
  have b0 : IntB (W.alloc (.cells Cs 3)) W.heap.size ns (trZ (ns : Int) n F T P 0) := by
    have := Blk.new W Cs 3 (fun _ => .int .i64 0) (fun i hi => eCs i (by omega))
    rw [zs] at this
    exact this
  have EA : EnvT (W.alloc (.cells Cs 3)) bl be (ns : Int) g n le he m ae ce F T P := EW.kept (KpT.of_turned (Turned.of_below (E := fun _ => False) (lo := 0) (hi := 0) (below_alloc (Below.refl _ _) _)) id id id id)
  have JA : J 0 (W.alloc (.cells Cs 3)) := hJ _ _ _ none h0 (World.grownBy_alloc _ _ _) (fun r e => by cases e)
  have zl := EW.1.lt
  have ze := EW.2.1.lt
  clear mk0 eCs h0 hE
  refine callsIn_of_wp Tryd.func47 rfl trivial ?_ rfl
  simp only [Tryd.ntmps47, List.size_toArray, List.length_cons, List.length_nil, Nat.reduceAdd, Nat.reduceSub, Array.replicate_succ, Array.replicate_zero, List.push_toArray, List.append_toArray, List.nil_append, List.cons_append]
  gi_wp2
  gi_loopw [12] (fun i wr => ∃ k : Nat, k ≤ m ∧ i = .int .i64 k ∧ IntB wr W.heap.size ns (trZ (ns : Int) n F T P k) ∧ EnvT wr bl be (ns : Int) g n le he m ae ce F T P ∧ J k wr) (fun i _ => m - (intOf i).toNat)
  case atStart => exact ⟨0, Nat.zero_le _, rfl, b0, EA, JA⟩
  case round =>
    clear b0 EA JA EW y0 y1 mk
    obtain ⟨k, hk, rfl, hB, hE, hJk⟩ := hrel
    by_cases hlt : k < m
    · have hE' := hE
      obtain ⟨bL, bE, hrow, ⟨ae', ce', ee, he0⟩⟩ := hE'
      simp only [Value.slice.injEq] at ee
      obtain ⟨rfl, _, rfl⟩ := ee
      rcases he0 with he0 | ⟨ge, me, fe, rfl, _, _, h2, h3, h4⟩
      · omega
      obtain ⟨c0, c1, c2⟩ := trio h3 h2 hlt h4
      have y0 := bL.cell (i := 0) (by omega)
      have y1 := bL.cell (i := 1) (by omega)
      simp only [if_true, Nat.one_ne_zero, if_false] at y0 y1
      have zl' := bL.lt
      have eZ : trZ (ns : Int) n F T P (k + 1) = stepZ (ns : Int) n F T (trZ (ns : Int) n F T P k) (P k 0) (P k 1) (P k 2) := rfl
      obtain ⟨op, eop⟩ : ∃ op, P k 0 = op := ⟨_, rfl⟩
      obtain ⟨f, ef⟩ : ∃ f, P k 1 = f := ⟨_, rfl⟩
      obtain ⟨d, ed⟩ : ∃ d, P k 2 = d := ⟨_, rfl⟩
      rw [eop] at c0 eZ
      rw [ef] at c1 eZ
      rw [ed] at c2 eZ
      have hBU := below_alloc (Below.refl wr.heap.size wr) (.cells #[.int .i64 op, .int .i64 f, .int .i64 d] 56)
      have km := move_any (ns : Int) op f d g n ns W.heap.size F T (trZ (ns : Int) n F T P k) (wr.alloc (.cells #[.int .i64 op, .int .i64 f, .int .i64 d] 56)) hl rfl (hrow.alloc _) (Blk.on hB hBU) (fun s _ => by have := trZ_bound (ns : Int) n F T P k s; omega)
      rw [← eZ] at km
      have EU := hE.kept (KpT.of_turned (Turned.of_below (E := fun _ => False) (lo := 0) (hi := 0) hBU) id id id id)
      have JU := hJ _ _ _ none hJk (grown_of_below hBU) (fun r e => by cases e)
      have hi1 : (k : Int) < (m : Int) := by omega
      clear eZ eop ef ed h3 h4 bE hrow hE hJk hBU bL hB
      gi_wp2_with fail
      refine ⟨trivial, fun h => (by cases h), ?_⟩
      refine (callsIn_wide.2 km).mono ?_
      clear km
      rintro e w1 ⟨⟨v, rfl⟩, hB1, hT1⟩
      have J1 := hJ _ _ _ (some W.heap.size) JU hT1.grown1 (fun r e => by cases e; rfl)
      have E1 := EU.kept (KpT.of_turned hT1 (by decide) (by decide) (by decide) (by decide))
      obtain ⟨fn, tmps, assign, body, hy, hR⟩ := hY k w1 hlt J1 hB1
      clear J1 JU EU hT1 y0 y1 c0 c1 c2
      gi_wp2
      refine ⟨fun h => (by cases h), hR.mono ?_⟩
      rintro e W3 ⟨rfl, hJ3, hB3, hk3⟩
      have E3 := E1.kept hk3
      clear hR hy
      gi_wp2
      go_roundw
      case rel => exact ⟨k + 1, by omega, by go_num, hB3, E3, hJ3⟩
      case measure => simp [intOf]; omega
    · gi_wp2
      go_end0
      have : k = m := by omega
      subst this
      exact ⟨⟨_, rfl⟩, hJk⟩

end Go.Proofs.YtlpopfhaephfaaaDoor

namespace Go.Proofs.YtlpopfhaephfaaaDoor
open Go.RowKit Go.Maps

/-- numbers as a row of cells -/
def rowV (Z : Nat → Int) : Nat → Nat → Value := fun i _ => .int .i64 (Z i)
def markZ (q0 : Int) (i : Nat) : Int := q0 + (i : Int)
def markI (q0 : Int) (k : Nat) (f : Nat → Value) : Nat → Value := fun c => if c < k then .int .i64 (markZ q0 c) else f c
theorem markI_step (q0 : Int) (k : Nat) (f : Nat → Value) (c : Nat) : (if c = k then .int .i64 (markZ q0 k) else markI q0 k f c) = markI q0 (k + 1) f c := by
  unfold markI
  rcases Nat.lt_trichotomy c k with h | h | h
  · rw [if_neg (by omega), if_pos h, if_pos (by omega)]
  · subst h; rw [if_pos rfl, if_pos (by omega)]
  · rw [if_neg (by omega), if_neg (by omega), if_neg (by omega)]

theorem oneZ {w : World} {g e m n k : Nat} {f : Nat → Value} {D : Nat → Int} (h : Blk w g e m f) (hm : n * 1 ≤ m) (hk : k < n) (hf : ∀ i, i < n → ∀ j, j < 1 → f (i * 1 + j) = rowV D i j) : w.cell? ⟨g, k, none⟩ = some (.int .i64 (D k)) := by
  rw [h.cell (by omega)]
  have := hf k hk 0 (by omega)
  simp only [Nat.mul_one, Nat.add_zero] at this
  rw [this]; rfl

def intL (D : Nat → Int) : Nat → List Value
  | 0 => []
  | k + 1 => intL D k ++ [.int .i64 (D k)]

theorem intL_len (D : Nat → Int) (k : Nat) : (intL D k).length = k := by
  induction k with
  | zero => rfl
  | succ k ih => simp only [intL, List.length_append, ih, List.length_cons, List.length_nil]
theorem intL_get (D : Nat → Int) (k i : Nat) (hi : i < k) : (intL D k)[i]? = some (.int .i64 (D i)) := by
  induction k with
  | zero => omega
  | succ k ih =>
    unfold intL
    by_cases e : i < k
    · rw [List.getElem?_append_left (by rw [intL_len]; omega)]; exact ih e
    · have e' : i = k := by omega
      subst e'
      rw [List.getElem?_append_right (by rw [intL_len]; omega), intL_len]
      simp
theorem intL_uniI (D : Nat → Int) (k : Nat) : ∀ u ∈ intL D k, u.oneCell' = true := by
  induction k with
  | zero => simp [intL]
  | succ k ih =>
    intro u hu
    unfold intL at hu
    rcases List.mem_append.1 hu with h | h
    · exact ih u h
    · simp only [List.mem_cons, List.not_mem_nil, or_false] at h
      subst h; rfl

theorem intL_cells {w : World} {g m n : Nat} {e : TypeId} {f : Nat → Value} {D : Nat → Int} (b2 : Blk w g e m f) (b1 : n * 1 ≤ m) (b3 : ∀ i, i < n → ∀ j, j < 1 → f (i * 1 + j) = rowV D i j) : ∀ j u, (intL D n)[j]? = some u → w.cell? ((⟨g, 0, none⟩ : Addr).add j) = some u := by
  intro j u hu
  have hj : j < n := by rw [← intL_len D n]; exact (List.getElem?_eq_some_iff.1 hu).1
  have ea : (⟨g, 0, none⟩ : Addr).add j = ⟨g, j, none⟩ := by simp [Addr.add]; exact fun h => h.symm
  rw [ea, oneZ b2 b1 hj b3]
  rw [intL_get D n j hj] at hu
  exact hu

set_option maxRecDepth 100000 in
set_option maxHeartbeats 1000000 in
theorem cloneI_some (ad : Addr) (n c2 : Nat) (D : Nat → Int) (w : World) (hn : n ≤ 60) (hnw : ∀ j u, (intL D n)[j]? = some u → (w.alloc (.cells #[] 3)).cell? (ad.add j) = some u) :
    Calls Tryd.prog 43 #[.slice (some ad) n c2] w fun e w' => ∃ a' c', e = .returned (.slice a' n c') ∧ SlF w' 3 1 w.heap.size w'.heap.size (.slice a' n c') n (rowV D) ∧ Below w.heap.size w w' := by
  obtain ⟨i0, hi, hz0, hz1, hz2⟩ := info_parts Tryd.infoIn
  have hown : (w.alloc (.cells #[] 3)).ownsRow w.heap.size 3 1 (.slice (some ⟨w.heap.size, 0, none⟩) 0 0) 0 [] := World.ownsRow_lit w #[] 0 (Nat.le_refl _) (Nat.zero_le _) rfl
  have hq : ∀ W : World, (binOp .eql 44 (.slice (some ad) n c2) (.slice none 0 0)).run Tryd.prog W = .ok (.bool false) W := fun W => Go.Lib.run_eql_slice_nil W _ _ _ _ _ _ _ Tryd.underlying44
  go_enter Tryd.func43, Tryd.ntmps43
  go_wp2_with (first
    | (at_builtin; refine wpList_append_own _ rfl _ _ 44 rfl w.heap.size 3 i0 _ 1 8 Tryd.underlying44 hi hz0 hz1 hz2 rfl (by decide) _ _ _ rfl hown ad n c2 (intL D n) rfl (by rw [intL_len]; omega) hnw (intL_uniI D n) (by unfold maxLen; omega) (by omega) (by simp) ?_; intro v' w2 hown' hgrow hnil))
  go_ret
  have hS : SlF w2 3 1 w.heap.size w2.heap.size v' n (rowV D) := by
    have := SlF.of_ownsRow (G := rowV D) hown' (fun i hi j hj => by
      have hj0 : j = 0 := by omega
      subst hj0
      simp only [List.nil_append, Nat.mul_one, Nat.add_zero]; exact intL_get D n i (by omega))
    rw [Nat.zero_add] at this
    exact this
  have hBw : Below w.heap.size w w2 := (below_alloc (Below.refl _ _) _).grown hgrow (by simp) (fun k hk => (hown.lt k hk).1)
  obtain ⟨ao, cap, rfl, h0⟩ := id hS
  exact ⟨ao, cap, rfl, hS, hBw⟩

set_option maxRecDepth 100000 in
theorem cloneI_any (a2 : Option Addr) (lo hi n c2 : Nat) (D : Nat → Int) (w : World) (hn : n ≤ 60) (hd : SlF w 3 1 lo hi (.slice a2 n c2) n (rowV D)) :
    Calls Tryd.prog 43 #[.slice a2 n c2] w fun e w' => ∃ a' c', e = .returned (.slice a' n c') ∧ SlF w' 3 1 w.heap.size w'.heap.size (.slice a' n c') n (rowV D) ∧ Below w.heap.size w w' := by
  rcases Nat.eq_zero_or_pos n with rfl | hp
  · cases a2 with
    | none =>
      have hq : ∀ W : World, (binOp .eql 44 (.slice none 0 c2) (.slice none 0 0)).run Tryd.prog W = .ok (.bool true) W := fun W => Go.Lib.run_eql_slice_nil W _ _ _ _ _ _ _ Tryd.underlying44
      go_enter Tryd.func43, Tryd.ntmps43
      go_wp2
      go_ret
      exact ⟨none, 0, rfl, ⟨none, 0, rfl, .inl rfl⟩, Below.refl _ _⟩
    | some ad => exact cloneI_some ad 0 c2 D w hn (fun j u hu => by simp [intL] at hu)
  · obtain ⟨g, rfl⟩ := hd.addr hp
    obtain ⟨l1, l2, m, f, b1, b2, b3⟩ := hd.blk hp
    exact cloneI_some ⟨g, 0, none⟩ n c2 D w hn (intL_cells (b2.alloc _) b1 b3)

end Go.Proofs.YtlpopfhaephfaaaDoor

namespace Go.Proofs.YtlpopfhaephfaaaDoor
open Go.RowKit Go.Maps

/-- A list of m rows of numbers in a block between lo and hi; the rows lie in ranges that rise. -/
def RwF (w : World) (lo hi : Nat) (v : Value) (m ns : Nat) (Z : Nat → Nat → Int) : Prop :=
  ∃ (A : Nat → Value) (L : Nat → Nat), SlF w 44 1 lo hi v m (fun i _ => A i) ∧ lo ≤ L 0 ∧ L m ≤ hi ∧ ∀ i, i < m → L i ≤ L (i + 1) ∧ SlF w 3 1 (L i) (L (i + 1)) (A i) ns (rowV (Z i))

section
variable {w w' : World} {lo hi m ns : Nat} {v : Value} {Z : Nat → Nat → Int}
theorem RwF.on (h : RwF w lo hi v m ns Z) (hb : Below w.heap.size w w') : RwF w' lo hi v m ns Z := by
  obtain ⟨A, L, h1, h2, h3, h4⟩ := h
  exact ⟨A, L, h1.on hb, h2, h3, fun i hi => ⟨(h4 i hi).1, (h4 i hi).2.on hb⟩⟩
theorem RwF.turned {E : Nat → Prop} {lo' hi' : Nat} (h : RwF w lo hi v m ns Z) (ht : Turned w w' E lo' hi') (hd : hi' ≤ lo ∨ hi ≤ lo') : RwF w' lo hi v m ns Z := by
  obtain ⟨A, L, h1, h2, h3, h4⟩ := h
  refine ⟨A, L, h1.turned ht (.inr hd), h2, h3, fun i hlt => ?_⟩
  have hL : ∀ i, i < m → L i ≤ L (i + 1) := fun i hi => (h4 i hi).1
  have a1 := rise' hL (Nat.zero_le i) (Nat.le_of_lt hlt)
  have a2 := rise' hL (a := i + 1) (b := m) hlt (Nat.le_refl _)
  exact ⟨(h4 i hlt).1, (h4 i hlt).2.turned ht (.inr (by omega))⟩
theorem RwF.wide {lo' : Nat} (h : RwF w lo hi v m ns Z) (h1 : lo' ≤ lo) : RwF w lo' hi v m ns Z := by
  obtain ⟨A, L, a1, a2, a3, a4⟩ := h
  exact ⟨A, L, a1.wide h1 (Nat.le_refl _), by omega, a3, a4⟩
theorem RwF.nil (w : World) (lo hi ns : Nat) (ao : Option Addr) (cap : Nat) (h : lo ≤ hi) (Z : Nat → Nat → Int) : RwF w lo hi (.slice ao 0 cap) 0 ns Z :=
  ⟨fun _ => .slice none 0 0, fun _ => lo, ⟨ao, cap, rfl, .inl rfl⟩, Nat.le_refl _, h, fun i hi => by omega⟩
end

theorem oneA {w : World} {g e m n k : Nat} {f A : Nat → Value} (h : Blk w g e m f) (hm : n * 1 ≤ m) (hk : k < n) (hf : ∀ i, i < n → ∀ j, j < 1 → f (i * 1 + j) = A i) : w.cell? ⟨g, k, none⟩ = some (A k) := by
  rw [h.cell (by omega)]
  have := hf k hk 0 (by omega)
  simp only [Nat.mul_one, Nat.add_zero] at this
  rw [this]

/-- the number at which the marks of the k-th row begin -/
def rwQ (q0 : Int) (ns : Nat) : Nat → Int
  | 0 => q0
  | k + 1 => rwQ q0 ns k + (ns : Int)

theorem rwQ_bound {q0 : Int} {ns k : Nat} (hs : ns ≤ 60) (h0 : 0 ≤ q0) : 0 ≤ rwQ q0 ns k ∧ rwQ q0 ns k ≤ q0 + 60 * (k : Int) := by
  induction k with
  | zero => simp [rwQ]; omega
  | succ k ih => simp only [rwQ]; omega

def MkR (w : World) (lo hi : Nat) (v : Value) (m ns : Nat) (q0 : Int) : Prop := RwF w lo hi v m ns (fun i => markZ (rwQ q0 ns i))

/-- the cells of a list of rows -/
def rwL (A : Nat → Value) : Nat → List Value
  | 0 => []
  | k + 1 => rwL A k ++ [A k]
theorem rwL_len (A : Nat → Value) (k : Nat) : (rwL A k).length = k := by
  induction k with
  | zero => rfl
  | succ k ih => simp only [rwL, List.length_append, ih, List.length_cons, List.length_nil]
theorem rwL_get (A : Nat → Value) (k i : Nat) (hi : i < k) : (rwL A k)[i]? = some (A i) := by
  induction k with
  | zero => omega
  | succ k ih =>
    unfold rwL
    rcases (show i < k ∨ i = k by omega) with e | e
    · rw [List.getElem?_append_left (by rw [rwL_len]; omega)]; exact ih e
    · subst e
      rw [List.getElem?_append_right (by rw [rwL_len]; omega), rwL_len]
      simp
theorem rwL_congr {A A' : Nat → Value} {k : Nat} (h : ∀ i, i < k → A' i = A i) : rwL A' k = rwL A k := by
  induction k with
  | zero => rfl
  | succ k ih => unfold rwL; rw [ih (fun i hi => h i (by omega)), h k (by omega)]

/-- What stands of the rows behind k events. -/
def RowI (w : World) (base low top : Nat) (v : Value) (k ns : Nat) (Z : Nat → Nat → Int) : Prop :=
  ∃ (A : Nat → Value) (L : Nat → Nat), w.ownsRow base 44 1 v k (rwL A k) ∧ low ≤ L 0 ∧ L k ≤ top ∧ ∀ i, i < k → L i ≤ L (i + 1) ∧ SlF w 3 1 (L i) (L (i + 1)) (A i) ns (rowV (Z i))

section
variable {w w' : World} {base low top k ns : Nat} {v : Value} {Z : Nat → Nat → Int}
theorem RowI.on (h : RowI w base low top v k ns Z) (hb : Below w.heap.size w w') : RowI w' base low top v k ns Z := by
  obtain ⟨A, L, a1, a2, a3, a4⟩ := h
  exact ⟨A, L, own_on a1 hb, a2, a3, fun i hi => ⟨(a4 i hi).1, (a4 i hi).2.on hb⟩⟩
theorem RowI.step {A : Nat → Value} {L : Nat → Nat} (a1 : w.ownsRow base 44 1 v k (rwL A k)) (a2 : low ≤ L 0) (a3 : L k ≤ top) (a4 : ∀ i, i < k → L i ≤ L (i + 1) ∧ SlF w 3 1 (L i) (L (i + 1)) (A i) ns (rowV (Z i)))
    {lo hi : Nat} {u v' : Value} (hl : SlF w 3 1 lo hi u ns (rowV (Z k))) (h1 : top ≤ lo) (h2 : lo ≤ hi)
    (ha : w'.ownsRow base 44 1 v' (k + 1) (rwL A k ++ [u])) (hg : w.grownBy w' v.ownBlock) : RowI w' base low hi v' (k + 1) ns Z := by
  have ht := own_grown a1 hg
  have f1 : ∀ i, i < k → (if i = k then u else A i) = A i := fun i hi => if_neg (by omega)
  refine ⟨fun i => if i = k then u else A i, fun i => if i ≤ k then L i else hi, ?_, by simpa using a2, by show (if k + 1 ≤ k then _ else _) ≤ _; rw [if_neg (by omega)]; exact Nat.le_refl _, fun i hi' => ?_⟩
  · unfold rwL
    rw [rwL_congr (A := A) f1]
    simp only [if_true]
    exact ha
  · by_cases hk : i = k
    · subst hk
      simp only [if_true, Nat.le_refl, show ¬ i + 1 ≤ i by omega, if_false]
      exact ⟨by omega, (hl.turned ht (.inl (by decide))).wide (by omega) (Nat.le_refl _)⟩
    · have b1 : i ≤ k := by omega
      have b2 : i + 1 ≤ k := by omega
      simp only [b1, b2, hk, if_true, if_false]
      exact ⟨(a4 i b2).1, (a4 i b2).2.turned ht (.inl (by decide))⟩
theorem RowI.rows (h : RowI w base low top v k ns Z) (hb : base ≤ low) (h1 : top ≤ w.heap.size) : RwF w base w.heap.size v k ns Z := by
  obtain ⟨A, L, a1, a2, a3, a4⟩ := h
  exact ⟨A, L, SlF.of_ownsRow a1 (fun i hi j hj => by
    have hj0 : j = 0 := by omega
    subst hj0
    simp only [Nat.mul_one, Nat.add_zero]; exact rwL_get A k i hi), by omega, by omega, a4⟩
end

end Go.Proofs.YtlpopfhaephfaaaDoor

namespace Go.Proofs.YtlpopfhaephfaaaDoor
open Go.RowKit Go.Shelf
attribute [local go_sem] Oper.semAt_some

theorem Tryd.infoRw : (Tryd.prog.info? 44).map (fun i => (i.zero, i.size, i.bytes)) = some (some (.slice none 0 0), 1, 24) := by kernel_rfl

theorem made_rows (m : Nat) : ∃ C : Array Value, C.size = m ∧ ∀ W : World, m ≤ 2000 → (Instr.makeSlice 32 (.int .i64 0) (.int .i64 (m : Int))).run Tryd.prog W = .ok (.slice (some ⟨W.heap.size, 0, none⟩) 0 m) (W.alloc (.cells C 44)) := by
  obtain ⟨i0, hi, hz0, hz1, hz2⟩ := info_parts Tryd.infoRw
  refine ⟨madeCells (Value.cells (.slice none 0 0)) m, size_madeCells _ _, fun W hn => ?_⟩
  have := run_make (P := Tryd.prog) W 32 44 i0 _ Tryd.underlying32 hi hz0 .i64 .i64 0 (m : Int) (by omega) (by omega) (by rw [hz2]; omega) (by omega)
  rw [hz1] at this
  simpa using this

theorem own_of_block {w w' : World} {base e sz n : Nat} {v : Value} {xs : List Value} (h : w.ownsRow base e sz v n xs) (hb : ∀ g, v.ownBlock = some g → w'.heap[g]? = w.heap[g]?) : w'.ownsRow base e sz v n xs := by
  refine ⟨h.1, ?_⟩
  rcases h.2 with hn | ⟨g, cap, cur, rfl, hbb, hgg, rest⟩
  · exact .inl hn
  · exact .inr ⟨g, cap, cur, rfl, hbb, by rw [hb g rfl]; exact hgg, rest⟩

theorem hnewo' (w : World) (o : Obj) : (w.alloc o).heap[w.heap.size]? = some o := by
  unfold World.alloc
  simp

/-- an append, as an operation of a region that draws its order -/
theorem opIn_append {F : Fence} {n : Nat} {P : Program} (w : World) {ops : Array Oper} {o : Oper} {a : Act} {Q : Exit → Act → World → Prop} {K : Act → World → Prop}
    (hg : o.guard = none) (s x : Operand) (t : TypeId) (hop : o.op = Op.call { callee := Callee.builtin Builtin.append, args := #[s, x], argTypes := #[t, t] })
    {v y v' : Value} {w' : World} (hs : a.eval s = v) (hx : a.eval x = y) (hrun : (Builtin.append_ #[t, t] o.type #[v, y]).run P w = .ok v' w') (hK : K (a.put o.dst v') w') :
    if Region.wanted o (yielded ops a.tmps) = true then Oper.wpIn F n P o a w K Q else (∀ f, o.about P w a.eval = some f → F.fn f) ∧ K (a.put o.dst undef) w := by
  rw [if_pos (by simp only [Region.wanted, hg])]
  unfold Oper.wpIn
  refine ⟨?_, ?_⟩
  · simp [Oper.about, hop, resolve, Target.leads, Sem.run_pure]
  · rw [Oper.semAt_plain F _ _ (by rw [hop]; intro c hc'; cases hc')]
    simp [execOp, hop, resolve, invoke, builtin, hs, hx, hrun, Result.andThen]
    exact hK

theorem cell_one (w : World) (v : Value) (e : TypeId) : ∀ j u, [v][j]? = some u → (w.alloc (.cells #[v] e)).cell? ((⟨w.heap.size, 0, none⟩ : Addr).add j) = some u := by
  intro j u hu
  have hj : j < 1 := (List.getElem?_eq_some_iff.1 hu).1
  have hj0 : j = 0 := by omega
  subst hj0
  simpa [Addr.add] using hu

theorem blk_one {w : World} {b : Nat} {e : TypeId} {v : Value} (h : Blk w b e 1 (fun _ => v)) (x : Value) : Blk (w.setCell ⟨b, 0, none⟩ x) b e 1 (fun _ => x) :=
  (h.set 0 x).congr (fun i hi => by
    have h0 : i = 0 := by omega
    simp [h0])

theorem IntB.row {w : World} {b n : Nat} {Z : Nat → Int} (h : IntB w b n Z) : SlF w 3 1 b (b + 1) (.slice (some ⟨b, 0, none⟩) n n) n (rowV Z) :=
  ⟨_, _, rfl, .inr ⟨b, n, _, rfl, Nat.le_refl _, by omega, by omega, h, fun i _ j hj => by
    have h0 : j = 0 := by omega
    subst h0
    simp [rowV]⟩⟩

theorem RwF.kept {A B : World} {row : Option Nat} {lo hi m ns : Nat} {v : Value} {Z : Nat → Nat → Int} (h : RwF A lo hi v m ns Z) (hg : A.grownBy B row) (hr : ∀ r, row = some r → ∃ o : Obj, A.heap[r]? = some o ∧ o.isCells = false) : RwF B lo hi v m ns Z := by
  have key : ∀ b e mm f, Blk A b e mm f → B.heap[b]? = A.heap[b]? := fun b e mm f h1 => hg.block b h1.lt (fun e1 => by
    obtain ⟨o, ho, hc⟩ := hr b e1.symm
    obtain ⟨o2, h3, h4⟩ := blk_cells h1
    rw [ho] at h3; cases h3; rw [hc] at h4; cases h4)
  obtain ⟨A', L, h1, h2, h3, h4⟩ := h
  exact ⟨A', L, h1.of_block (fun _ _ _ hb _ _ => key _ _ _ _ hb), h2, h3, fun i hi => ⟨(h4 i hi).1, (h4 i hi).2.of_block (fun _ _ _ hb _ _ => key _ _ _ _ hb)⟩⟩

theorem keeps_turned {A B : World} {E : Nat → Prop} {lo hi : Nat} (h : Turned A B E lo hi) : KeepsOthers A B :=
  ⟨h.size, fun k o hk ho => by
    rcases h.block k (Array.getElem?_eq_some_iff.1 hk).1 with h' | ⟨_, _, e', m', f', _, a4⟩
    · rw [h']; exact hk
    · obtain ⟨o2, h3, h4⟩ := blk_cells a4
      rw [hk] at h3; cases h3; rw [ho] at h4; cases h4⟩

theorem RowI.turned {w w' : World} {base low top k ns lo hi : Nat} {v : Value} {Z : Nat → Nat → Int} {E : Nat → Prop} (h : RowI w base low top v k ns Z) (ht : Turned w w' E lo hi) (h1 : ¬ E 44) (h2 : ¬ E 3) : RowI w' base low top v k ns Z := by
  obtain ⟨A, L, a1, a2, a3, a4⟩ := h
  exact ⟨A, L, own_turned a1 ht h1, a2, a3, fun i hi => ⟨(a4 i hi).1, (a4 i hi).2.turned ht (.inl h2)⟩⟩

/-- behind a round of Truth's loop -/
theorem truth_fin {w W w5 w6 : World} {base low top tb rb k ns lo5 hi5 : Nat} {v v' u : Value} {Z : Nat → Nat → Int} {A : Nat → Value} {L : Nat → Nat} (hB : Below w.heap.size w W) (hb : Blk W tb 32 1 (fun _ => v)) (htb : w.heap.size ≤ tb) (hrw : IntB W rb ns (Z k))
    (q1 : W.ownsRow base 44 1 v k (rwL A k)) (q2 : low ≤ L 0) (q3 : L k ≤ top) (q4 : ∀ i, i < k → L i ≤ L (i + 1) ∧ SlF W 3 1 (L i) (L (i + 1)) (A i) ns (rowV (Z i))) (hbase : base = w.heap.size) (htop : top ≤ W.heap.size)
    (h5 : Below W.heap.size W w5) (s5 : SlF w5 3 1 lo5 hi5 u ns (rowV (Z k))) (h1 : W.heap.size ≤ lo5) (h2 : lo5 ≤ hi5) (h3 : hi5 ≤ w5.heap.size)
    (r1 : w6.ownsRow base 44 1 v' (k + 1) (rwL A k ++ [u])) (r2 : (w5.alloc (.cells #[u] 44)).grownBy w6 v.ownBlock) :
    Blk w6 tb 32 1 (fun _ => v) ∧ (KeepsOthers W (w6.setCell ⟨tb, 0, none⟩ v') ∧ KpT W (w6.setCell ⟨tb, 0, none⟩ v') ∧ IntB (w6.setCell ⟨tb, 0, none⟩ v') rb ns (Z k) ∧ ∃ x top', Blk (w6.setCell ⟨tb, 0, none⟩ v') tb 32 1 (fun _ => x) ∧ RowI (w6.setCell ⟨tb, 0, none⟩ v') base low top' x (k + 1) ns Z ∧ x.ownBlock ≠ some rb ∧ (top' ≤ (w6.setCell ⟨tb, 0, none⟩ v').heap.size ∨ (k + 1 = 0 ∧ top' = low)) ∧ Below w.heap.size w (w6.setCell ⟨tb, 0, none⟩ v')) := by
  subst hbase
  have hU : Below W.heap.size W (w5.alloc (.cells #[u] 44)) := below_alloc h5 _
  have ownU := own_on q1 hU
  have tg := own_grown ownU r2
  have tW : Turned W w6 (· = 44) w.heap.size (w5.alloc (.cells #[u] 44)).heap.size := (Turned.of_below hU).trans tg
  have b6 := hb.turned tW (.inl (by decide))
  have i6 : IntB w6 rb ns (Z k) := Blk.turned hrw tW (.inl (by decide))
  have tS : Turned w6 (w6.setCell ⟨tb, 0, none⟩ v') (· = 32) tb (tb + 1) := Turned.of_grown (grown_set (World.grownBy.refl _ _) _) (Nat.le_refl _) (by omega) rfl b6
  have tA : Turned W (w6.setCell ⟨tb, 0, none⟩ v') (fun e => e = 44 ∨ e = 32) w.heap.size (tb + 1 + (w5.alloc (.cells #[u] 44)).heap.size) := (tW.mono (fun _ h => .inl h) (Nat.le_refl _) (by omega)).trans (tS.mono (fun _ h => .inr h) htb (by omega))
  have I6 : RowI w6 w.heap.size low hi5 v' (k + 1) ns Z := RowI.step ownU q2 q3 (fun i hi => ⟨(q4 i hi).1, (q4 i hi).2.on hU⟩) (s5.on (below_alloc (Below.refl _ _) _)) (by omega) h2 r1 r2
  have zz : W.heap.size ≤ w6.heap.size := tW.size
  have z6 : (w5.alloc (.cells #[u] 44)).heap.size ≤ w6.heap.size := tg.size
  rw [World.size_alloc] at z6
  refine ⟨b6, keeps_turned tA, KpT.of_turned tA (by decide) (by decide) (by decide) (by decide), Blk.turned i6 tS (.inl (by decide)), v', hi5, blk_one b6 v', I6.turned tS (by decide) (by decide), fun e => ?_, .inl (by have := tS.size; omega), (hB.trans (tW.below (Nat.le_refl _) hB.size)).trans (tS.below htb (by have := hB.size; omega))⟩
  obtain ⟨_, mm, f, h9⟩ := own_blk r1 e
  have := h9.type_eq i6
  exact absurd this (by decide)

theorem implTruth_bad (S : Int) (g n m ce : Nat) (ae : Option Addr) (F T : Nat → Int) (w : World) (hm : m ≤ 1048576) (hrow : CRow w g n F T) (hb : ¬ (lokZ S n F T = 0 ∧ m ≤ 2000)) :
    Calls Tryd.prog 20 #[.agg #[.int .i64 S, .slice (gA g) n (gC g)], .slice ae m ce] w fun e w' => e = .returned (.slice none 0 0) ∧ Below w.heap.size w w' := by
  have kc := fun o => runOk_any S g n m ce ae F T _ hm (hrow.alloc o)
  have e0 : (lokZ S n F T == 0 && decide (m ≤ 2000)) = false := by
    cases h1 : (lokZ S n F T == 0)
    · rfl
    · simp only [beq_iff_eq] at h1
      simp only [Bool.true_and, decide_eq_false_iff_not]
      exact fun h => hb ⟨h1, h⟩
  rw [e0] at kc
  go_enter Tryd.func20, Tryd.ntmps20
  go_wp2_with fail
  refine (kc _).mono ?_
  rintro e w1 ⟨rfl, hb1⟩
  have B1 := below_on (show Below w.heap.size w _ from (by repeat (first | exact Below.refl _ _ | assumption | refine below_alloc ?_ _ | refine Below.setCell ?_ (by first | omega | (simp; done) | (simp; omega)) _ | refine Below.alloc ?_ (by first | omega | (simp; done) | (simp; omega)) _ | refine Below.drew ?_))) hb1
  go_wp2
  go_ret
  exact ⟨rfl, B1⟩

set_option maxRecDepth 100000 in
set_option maxHeartbeats 4000000 in
theorem implTruth_ok (S : Int) (g n le he m ns : Nat) (F T : Nat → Int) (P : Nat → Nat → Int) (ve : Value) (w : World) (hrow : CRow w g n F T) (hev : SlF w 56 3 le he ve m (evs P)) (hl : lokZ S n F T = 0) (hS : (ns : Int) = S) (hm : m ≤ 2000) :
    Calls Tryd.prog 20 #[.agg #[.int .i64 S, .slice (gA g) n (gC g)], ve] w fun e w' => ∃ u, e = .returned u ∧ RwF w' w.heap.size w'.heap.size u m ns (fun k => trZ S n F T P (k + 1)) ∧ Below w.heap.size w w' := by
  subst hS
  obtain ⟨r1, r2, r3⟩ := lok_range hl
  have hp : 0 < ns := by omega
  have hm' : m ≤ 1048576 := by omega
  obtain ⟨ae, ce, rfl, he0⟩ := id hev
  obtain ⟨i0, hi, hz0, hz1, hz2⟩ := info_parts Tryd.infoRw
  obtain ⟨Cs, zs, mk0⟩ := made_rows m
  have mk := fun W => mk0 W hm
  have kc := fun o => runOk_any (ns : Int) g n m ce ae F T _ hm' (hrow.alloc o)
  have e0 : (lokZ (ns : Int) n F T == 0 && decide (m ≤ 2000)) = true := by simp [hl, hm]
  rw [e0] at kc
  clear e0 mk0 he0
  obtain ⟨V, eV⟩ : ∃ V, w.alloc (.cells #[.int .i64 (ns : Int), .slice (gA g) n (gC g)] 25) = V := ⟨_, rfl⟩
  have sV : V.heap.size = w.heap.size + 1 := by rw [← eV]; simp
  have bV : Below w.heap.size w V := by rw [← eV]; exact (by repeat (first | exact Below.refl _ _ | assumption | refine below_alloc ?_ _ | refine Below.setCell ?_ (by first | omega | (simp; done) | (simp; omega)) _ | refine Below.alloc ?_ (by first | omega | (simp; done) | (simp; omega)) _ | refine Below.drew ?_))
  have bL : Blk V w.heap.size 25 2 (fun i => if i = 0 then .int .i64 (ns : Int) else .slice (gA g) n (gC g)) := by
    rw [← eV]
    exact Blk.new w #[.int .i64 (ns : Int), .slice (gA g) n (gC g)] 25 _ (fun i hi => by simp at hi; match i, hi with | 0, _ => rfl | 1, _ => rfl)
  have P0 : ∀ W, Below V.heap.size V W → W.cell? ⟨w.heap.size, 0, none⟩ = some (.int .i64 (ns : Int)) ∧ W.cell? ⟨w.heap.size, 1, none⟩ = some (.slice (gA g) n (gC g)) := fun W hb => ⟨(bL.on hb).cell (i := 0) (by omega), (bL.on hb).cell (i := 1) (by omega)⟩
  have kc' := kc (.cells #[.int .i64 (ns : Int), .slice (gA g) n (gC g)] 25)
  rw [eV] at kc'
  have EV : Hid _ := eV
  clear eV bL kc
  refine (callsIn_wide (n := 3)).1 ?_
  refine callsIn_of_wp_marks Tryd.func20 rfl trivial ?_ rfl
  simp only [Tryd.ntmps20, List.size_toArray, List.length_cons, List.length_nil, Nat.reduceAdd, Nat.reduceSub, Array.replicate_succ, Array.replicate_zero, List.push_toArray, List.append_toArray, List.nil_append, List.cons_append]
  gi_wp2_with fail
  rw [EV.out]
  refine ⟨trivial, (callsIn_wide.2 kc').mono ?_⟩
  clear kc'
  rintro e w1 ⟨rfl, B1⟩
  obtain ⟨y0, y1⟩ := P0 w1 B1
  have z1 : w.heap.size + 1 ≤ w1.heap.size := by have := B1.size; omega
  have zl : w.heap.size < w1.heap.size + 1 := by omega
  have zl' : w.heap.size < w1.heap.size := by omega
  gi_wp2_with fail
  have bT : Blk ((w1.alloc (.cells Cs 44)).alloc (.cells #[.slice (some ⟨w1.heap.size, 0, none⟩) 0 m] 32)) (w1.heap.size + 1) 32 1 (fun _ => .slice (some ⟨w1.heap.size, 0, none⟩) 0 m) := by
    have := Blk.new (w1.alloc (.cells Cs 44)) #[.slice (some ⟨w1.heap.size, 0, none⟩) 0 m] 32 (fun _ => .slice (some ⟨w1.heap.size, 0, none⟩) 0 m) (fun i hi => by simp at hi; match i, hi with | 0, _ => rfl)
    rw [World.size_alloc] at this
    exact this
  have oT : ((w1.alloc (.cells Cs 44)).alloc (.cells #[.slice (some ⟨w1.heap.size, 0, none⟩) 0 m] 32)).ownsRow w.heap.size 44 1 (.slice (some ⟨w1.heap.size, 0, none⟩) 0 m) 0 [] := by
    have : (w1.alloc (.cells Cs 44)).ownsRow w.heap.size 44 1 (.slice (some ⟨w1.heap.size, 0, none⟩) 0 m) 0 [] := ⟨rfl, .inr ⟨w1.heap.size, m, Cs, rfl, by omega, hnewo' w1 _, by omega, by unfold maxLen; omega, by rw [zs]; omega, by simp⟩⟩
    exact this.alloc _
  have B2 : Below V.heap.size V ((w1.alloc (.cells Cs 44)).alloc (.cells #[.slice (some ⟨w1.heap.size, 0, none⟩) 0 m] 32)) := below_alloc (below_alloc B1 _) _
  obtain ⟨W2, e2⟩ : ∃ W2, (w1.alloc (.cells Cs 44)).alloc (.cells #[.slice (some ⟨w1.heap.size, 0, none⟩) 0 m] 32) = W2 := ⟨_, rfl⟩
  have z2 : w1.heap.size + 1 < W2.heap.size := by rw [← e2]; simp
  rw [e2] at bT oT B2 ⊢
  clear e2 mk y0 y1
  refine ⟨trivial, (callsIn_wide.2 (rows_any (ns : Int) g n m ce ae W2)).mono ?_⟩
  rintro e w3 ⟨rfl, hw3⟩
  have h23 : Below W2.heap.size W2 w3 := by rw [hw3]; exact (by repeat (first | exact Below.refl _ _ | assumption | refine below_alloc ?_ _ | refine Below.setCell ?_ (by first | omega | (simp; done) | (simp; omega)) _ | refine Below.alloc ?_ (by first | omega | (simp; done) | (simp; omega)) _ | refine Below.drew ?_))
  have z3 : w3.heap.size = W2.heap.size + 1 + 1 := by rw [hw3]; simp
  have B3 := below_on bV (below_on B2 h23)
  have eL : Blk w3 W2.heap.size 25 2 (fun i => if i = 0 then .int .i64 (ns : Int) else .slice (gA g) n (gC g)) := by
    rw [hw3]
    exact (Blk.new W2 #[.int .i64 (ns : Int), .slice (gA g) n (gC g)] 25 _ (fun i hi => by simp at hi; match i, hi with | 0, _ => rfl | 1, _ => rfl)).alloc _
  have eE : Blk w3 (W2.heap.size + 1) 26 1 (fun _ => .slice ae m ce) := by
    rw [hw3]
    have := Blk.new (W2.alloc (.cells #[.int .i64 (ns : Int), .slice (gA g) n (gC g)] 25)) #[.slice ae m ce] 26 (fun _ => .slice ae m ce) (fun i hi => by simp at hi; match i, hi with | 0, _ => rfl)
    rw [World.size_alloc] at this
    exact this
  have EN : EnvT w3 W2.heap.size (W2.heap.size + 1) (ns : Int) g n le he m ae ce F T P := ⟨eL, eE, hrow.on B3, hev.on B3⟩
  have bT3 := bT.on h23
  have oT3 := own_on oT h23
  have zT : w1.heap.size + 1 < w3.heap.size := by omega
  have zw : w.heap.size ≤ w3.heap.size := B3.size
  clear hw3 eL eE h23 bT oT B2 B1 EV P0 z3 sV bV
  gi_wp2_with fail
  refine range_rows (gf := 47) (lb := #[.pointer (some ⟨W2.heap.size, 0, none⟩), .pointer (some ⟨W2.heap.size + 1, 0, none⟩)]) rfl (enters_of Tryd.func47 (by kernel_rfl) rfl) (rows1_in _ W2.heap.size (W2.heap.size + 1) g n le he m ce ns ae F T P w3 hl hm EN) (fun _ _ => rfl)
    (fun rb k W l o o' h h1 h2 => Blk.of_block h (World.putObj_heap_other (fun e1 => by subst e1; obtain ⟨o2, h3, h4⟩ := blk_cells h; rw [h1] at h3; cases h3; rw [h2] at h4; cases h4)))
    KpT.trans KpT.putObj
    (fun k W => ∃ v top, Blk W (w1.heap.size + 1) 32 1 (fun _ => v) ∧ RowI W w.heap.size (w3.heap.size + 1 + 1 + 1) top v k ns (fun k => trZ (ns : Int) n F T P (k + 1)) ∧ v.ownBlock ≠ some (w3.heap.size + 1 + 1) ∧ (top ≤ W.heap.size ∨ (k = 0 ∧ top = w3.heap.size + 1 + 1 + 1)) ∧ Below w.heap.size w W)
    ?own ⟨_, w3.heap.size + 1 + 1 + 1, bT3, ⟨fun _ => .slice none 0 0, fun _ => w3.heap.size + 1 + 1 + 1, oT3, Nat.le_refl _, Nat.le_refl _, fun i hi => by omega⟩, ?ne, .inr ⟨rfl, rfl⟩, B3⟩
    (fun k => { tmps := #[.agg #[.int .i64 (ns : Int), .slice (gA g) n (gC g)], .slice ae m ce, .pointer (some ⟨w.heap.size, 0, none⟩), undef, .slice none 0 0, .pointer (some ⟨w1.heap.size + 1, 0, none⟩), undef, .slice (some ⟨w3.heap.size + 1 + 1, 0, none⟩) ns ns, .agg #[.int .i64 (ns : Int), .slice (gA g) n (gC g)], .slice ae m ce, .bool true, .bool false, .slice ae m ce, .int .i64 (m : Int), .slice (some ⟨w1.heap.size, 0, none⟩) 0 m, .agg #[.int .i64 (ns : Int), .slice (gA g) n (gC g)], .slice ae m ce, .func (.func 47) #[] #[.pointer (some ⟨W2.heap.size, 0, none⟩), .pointer (some ⟨W2.heap.size + 1, 0, none⟩)], .int .i64 (k : Int), .slice (some ⟨w3.heap.size + 1 + 1, 0, none⟩) ns ns, undef, undef, undef, undef, undef, undef], defers := [] }) ?assign ?body ?done
  case ne => simp only [Value.ownBlock, ne_eq, Option.some.injEq]; omega
  case own =>
    rintro k A B row ⟨v, top, hb, ⟨A', L, a1, a2, a3, a4⟩, hne, htop, hB⟩ hg hr
    have key : ∀ b e mm f, Blk A b e mm f → b ≠ w3.heap.size + 1 + 1 → B.heap[b]? = A.heap[b]? := fun b e mm f h1 h2 => hg.block b h1.lt (fun e1 => by
      rcases hr b e1.symm with h | ⟨_, o, ho, hc⟩
      · exact h2 h
      · obtain ⟨o2, h3, h4⟩ := blk_cells h1
        rw [ho] at h3; cases h3; rw [hc] at h4; cases h4)
    have hL : ∀ i, i < k → L i ≤ L (i + 1) := fun i hi => (a4 i hi).1
    refine ⟨v, top, hb.of_block (key _ _ _ _ hb (by omega)), ⟨A', L, own_of_block a1 (fun b h1 => ?_), a2, a3, fun i hi => ⟨(a4 i hi).1, (a4 i hi).2.of_block (fun b _ _ h1 h2 _ => key _ _ _ _ h1 ?_)⟩⟩, hne, htop.imp (fun h => Nat.le_trans h hg.size) id, hB.grown hg hB.size (fun r e => ?_)⟩
    · obtain ⟨_, mm, f, h2⟩ := own_blk a1 h1
      exact key _ _ _ _ h2 (fun e => hne (by rw [h1, e]))
    · have := rise' hL (Nat.zero_le i) (Nat.le_of_lt hi)
      omega
    · rcases hr r e with h | ⟨h, _⟩ <;> omega
  case assign =>
    intro l k W K hK
    gi_wp2
    exact hK
  case body =>
    rintro l k W hk ⟨v, top, hb, ⟨A', L, q1, q2, q3, q4⟩, hne, htop, hB⟩ hrw
    have zr : w3.heap.size + 1 + 1 < W.heap.size := Blk.lt hrw
    have htop' : top ≤ W.heap.size := by omega
    have c0 := hb.cell (i := 0) (by omega)
    have zt := hb.lt
    gi_wp2_with fail
    have kl := cloneI_any (some ⟨w3.heap.size + 1 + 1, 0, none⟩) (w3.heap.size + 1 + 1) (w3.heap.size + 1 + 1 + 1) ns ns (trZ (ns : Int) n F T P (k + 1)) W.drew (by omega) (IntB.row hrw)
    refine wpIn_region_any (by kernel_rfl) ?_
    change wpAnyIn _ _ _ _ _ _ _ _ _ (World.drew _)
    refine wpAnyIn_ready (rs := [0, 1]) (by kernel_rfl) (by simp) ?_
    refine AllReadyIn.cons rfl (fun K hK => ?_) (AllReadyIn.cons rfl (fun K hK => ?_) AllReadyIn.nil)
    · go_simp
      refine hK _ _ ?_
      clear hK K
      refine wpAnyIn_ready (rs := [1]) (by kernel_rfl) (by simp) ?_
      refine AllReadyIn.cons rfl (fun K hK => ?_) AllReadyIn.nil
      go_simp
      refine hK _ _ ?_
      clear hK K
      refine wpAnyIn_ready (rs := [2]) (by kernel_rfl) (by simp) ?_
      refine AllReadyIn.cons rfl (fun K hK => ?_) AllReadyIn.nil
      go_simp
      refine ⟨trivial, (CallsIn.inRound l (callsIn_wide.2 kl)).mono ?_⟩
      rintro e w5 ⟨a5, c5, rfl, s5, hb5⟩
      have h5 : Below W.heap.size W w5 := (Below.refl W.heap.size W).drew.trans hb5
      have z5 := h5.size
      have d5 : w5.cell? ⟨w1.heap.size + 1, 0, none⟩ = some v := (h5.cell (p := ⟨w1.heap.size + 1, 0, none⟩) zt).trans c0
      have zt5 : w1.heap.size + 1 < w5.heap.size := by omega
      refine hK _ _ ?_
      clear hK K
      refine wpAnyIn_ready (rs := [3]) (by kernel_rfl) (by simp) ?_
      refine AllReadyIn.cons rfl (fun K hK => ?_) AllReadyIn.nil
      go_simp
      refine hK _ _ ?_
      clear hK K
      obtain ⟨v', w6, hrun, r1, r2, _⟩ := run_append_own (P := Tryd.prog) (w := w5.alloc (.cells #[.slice a5 ns c5] 44)) w.heap.size 32 32 44 i0 _ 1 24 Tryd.underlying32 hi hz0 hz1 hz2 rfl (by decide) v k (rwL A' k) (own_on q1 (below_alloc h5 _)) ⟨w5.heap.size, 0, none⟩ 1 1 [.slice a5 ns c5] rfl (cell_one w5 _ _) (fun u hu => by simp only [List.mem_cons, List.not_mem_nil, or_false] at hu; subst hu; rfl) (by unfold maxLen; omega) (by omega) (by simp; omega)
      obtain ⟨g6, cap6, rfl⟩ := own_some r1 (by omega)
      obtain ⟨b6, fin⟩ := truth_fin (Z := fun k => trZ (ns : Int) n F T P (k + 1)) hB hb (by omega) hrw q1 q2 q3 q4 rfl htop' h5 s5 (Nat.le_refl _) hb5.size (Nat.le_refl _) r1 r2
      have x6 := b6.cell (i := 0) (by omega)
      have f6 := b6.frozen 0
      have FI : Hid _ := fin
      clear fin r1 r2
      refine wpAnyIn_ready (rs := [4]) (by kernel_rfl) (by simp) ?_ 
      refine AllReadyIn.cons rfl (fun K hK => opIn_append _ rfl _ _ _ rfl rfl rfl hrun (hK _ _ ?_)) AllReadyIn.nil
      go_simp
      refine wpAnyIn_ready (rs := [5]) (by kernel_rfl) (by simp) ?_
      refine AllReadyIn.cons rfl (fun K hK => ?_) AllReadyIn.nil
      go_simp
      refine hK _ _ ?_
      clear hK K
      refine wpAnyIn_done (by kernel_rfl) ?_ _
      gi_wp2
      exact FI.out
    · go_simp
      refine hK _ _ ?_
      clear hK K
      refine wpAnyIn_ready (rs := [0, 2]) (by kernel_rfl) (by simp) ?_
      refine AllReadyIn.cons rfl (fun K hK => ?_) (AllReadyIn.cons rfl (fun K hK => ?_) AllReadyIn.nil)
      · go_simp
        refine hK _ _ ?_
        clear hK K
        refine wpAnyIn_ready (rs := [2]) (by kernel_rfl) (by simp) ?_
        refine AllReadyIn.cons rfl (fun K hK => ?_) AllReadyIn.nil
        go_simp
        refine ⟨trivial, (CallsIn.inRound l (callsIn_wide.2 kl)).mono ?_⟩
        rintro e w5 ⟨a5, c5, rfl, s5, hb5⟩
        have h5 : Below W.heap.size W w5 := (Below.refl W.heap.size W).drew.trans hb5
        have z5 := h5.size
        have d5 : w5.cell? ⟨w1.heap.size + 1, 0, none⟩ = some v := (h5.cell (p := ⟨w1.heap.size + 1, 0, none⟩) zt).trans c0
        have zt5 : w1.heap.size + 1 < w5.heap.size := by omega
        refine hK _ _ ?_
        clear hK K
        refine wpAnyIn_ready (rs := [3]) (by kernel_rfl) (by simp) ?_
        refine AllReadyIn.cons rfl (fun K hK => ?_) AllReadyIn.nil
        go_simp
        refine hK _ _ ?_
        clear hK K
        obtain ⟨v', w6, hrun, r1, r2, _⟩ := run_append_own (P := Tryd.prog) (w := w5.alloc (.cells #[.slice a5 ns c5] 44)) w.heap.size 32 32 44 i0 _ 1 24 Tryd.underlying32 hi hz0 hz1 hz2 rfl (by decide) v k (rwL A' k) (own_on q1 (below_alloc h5 _)) ⟨w5.heap.size, 0, none⟩ 1 1 [.slice a5 ns c5] rfl (cell_one w5 _ _) (fun u hu => by simp only [List.mem_cons, List.not_mem_nil, or_false] at hu; subst hu; rfl) (by unfold maxLen; omega) (by omega) (by simp; omega)
        obtain ⟨g6, cap6, rfl⟩ := own_some r1 (by omega)
        obtain ⟨b6, fin⟩ := truth_fin (Z := fun k => trZ (ns : Int) n F T P (k + 1)) hB hb (by omega) hrw q1 q2 q3 q4 rfl htop' h5 s5 (Nat.le_refl _) hb5.size (Nat.le_refl _) r1 r2
        have x6 := b6.cell (i := 0) (by omega)
        have f6 := b6.frozen 0
        have FI : Hid _ := fin
        clear fin r1 r2
        refine wpAnyIn_ready (rs := [4]) (by kernel_rfl) (by simp) ?_ 
        refine AllReadyIn.cons rfl (fun K hK => opIn_append _ rfl _ _ _ rfl rfl rfl hrun (hK _ _ ?_)) AllReadyIn.nil
        go_simp
        refine wpAnyIn_ready (rs := [5]) (by kernel_rfl) (by simp) ?_
        refine AllReadyIn.cons rfl (fun K hK => ?_) AllReadyIn.nil
        go_simp
        refine hK _ _ ?_
        clear hK K
        refine wpAnyIn_done (by kernel_rfl) ?_ _
        gi_wp2
        exact FI.out
      · go_simp
        refine ⟨trivial, (CallsIn.inRound l (callsIn_wide.2 kl)).mono ?_⟩
        rintro e w5 ⟨a5, c5, rfl, s5, hb5⟩
        have h5 : Below W.heap.size W w5 := (Below.refl W.heap.size W).drew.trans hb5
        have z5 := h5.size
        have d5 : w5.cell? ⟨w1.heap.size + 1, 0, none⟩ = some v := (h5.cell (p := ⟨w1.heap.size + 1, 0, none⟩) zt).trans c0
        have zt5 : w1.heap.size + 1 < w5.heap.size := by omega
        refine hK _ _ ?_
        clear hK K
        refine wpAnyIn_ready (rs := [0, 3]) (by kernel_rfl) (by simp) ?_
        refine AllReadyIn.cons rfl (fun K hK => ?_) (AllReadyIn.cons rfl (fun K hK => ?_) AllReadyIn.nil)
        · go_simp
          refine hK _ _ ?_
          clear hK K
          refine wpAnyIn_ready (rs := [3]) (by kernel_rfl) (by simp) ?_
          refine AllReadyIn.cons rfl (fun K hK => ?_) AllReadyIn.nil
          go_simp
          refine hK _ _ ?_
          clear hK K
          obtain ⟨v', w6, hrun, r1, r2, _⟩ := run_append_own (P := Tryd.prog) (w := w5.alloc (.cells #[.slice a5 ns c5] 44)) w.heap.size 32 32 44 i0 _ 1 24 Tryd.underlying32 hi hz0 hz1 hz2 rfl (by decide) v k (rwL A' k) (own_on q1 (below_alloc h5 _)) ⟨w5.heap.size, 0, none⟩ 1 1 [.slice a5 ns c5] rfl (cell_one w5 _ _) (fun u hu => by simp only [List.mem_cons, List.not_mem_nil, or_false] at hu; subst hu; rfl) (by unfold maxLen; omega) (by omega) (by simp; omega)
          obtain ⟨g6, cap6, rfl⟩ := own_some r1 (by omega)
          obtain ⟨b6, fin⟩ := truth_fin (Z := fun k => trZ (ns : Int) n F T P (k + 1)) hB hb (by omega) hrw q1 q2 q3 q4 rfl htop' h5 s5 (Nat.le_refl _) hb5.size (Nat.le_refl _) r1 r2
          have x6 := b6.cell (i := 0) (by omega)
          have f6 := b6.frozen 0
          have FI : Hid _ := fin
          clear fin r1 r2
          refine wpAnyIn_ready (rs := [4]) (by kernel_rfl) (by simp) ?_ 
          refine AllReadyIn.cons rfl (fun K hK => opIn_append _ rfl _ _ _ rfl rfl rfl hrun (hK _ _ ?_)) AllReadyIn.nil
          go_simp
          refine wpAnyIn_ready (rs := [5]) (by kernel_rfl) (by simp) ?_
          refine AllReadyIn.cons rfl (fun K hK => ?_) AllReadyIn.nil
          go_simp
          refine hK _ _ ?_
          clear hK K
          refine wpAnyIn_done (by kernel_rfl) ?_ _
          gi_wp2
          exact FI.out
        · go_simp
          refine hK _ _ ?_
          clear hK K
          refine wpAnyIn_ready (rs := [0]) (by kernel_rfl) (by simp) ?_
          refine AllReadyIn.cons rfl (fun K hK => ?_) AllReadyIn.nil
          go_simp
          refine hK _ _ ?_
          clear hK K
          obtain ⟨v', w6, hrun, r1, r2, _⟩ := run_append_own (P := Tryd.prog) (w := w5.alloc (.cells #[.slice a5 ns c5] 44)) w.heap.size 32 32 44 i0 _ 1 24 Tryd.underlying32 hi hz0 hz1 hz2 rfl (by decide) v k (rwL A' k) (own_on q1 (below_alloc h5 _)) ⟨w5.heap.size, 0, none⟩ 1 1 [.slice a5 ns c5] rfl (cell_one w5 _ _) (fun u hu => by simp only [List.mem_cons, List.not_mem_nil, or_false] at hu; subst hu; rfl) (by unfold maxLen; omega) (by omega) (by simp; omega)
          obtain ⟨g6, cap6, rfl⟩ := own_some r1 (by omega)
          obtain ⟨b6, fin⟩ := truth_fin (Z := fun k => trZ (ns : Int) n F T P (k + 1)) hB hb (by omega) hrw q1 q2 q3 q4 rfl htop' h5 s5 (Nat.le_refl _) hb5.size (Nat.le_refl _) r1 r2
          have x6 := b6.cell (i := 0) (by omega)
          have f6 := b6.frozen 0
          have FI : Hid _ := fin
          clear fin r1 r2
          refine wpAnyIn_ready (rs := [4]) (by kernel_rfl) (by simp) ?_ 
          refine AllReadyIn.cons rfl (fun K hK => opIn_append _ rfl _ _ _ rfl rfl rfl hrun (hK _ _ ?_)) AllReadyIn.nil
          go_simp
          refine wpAnyIn_ready (rs := [5]) (by kernel_rfl) (by simp) ?_
          refine AllReadyIn.cons rfl (fun K hK => ?_) AllReadyIn.nil
          go_simp
          refine hK _ _ ?_
          clear hK K
          refine wpAnyIn_done (by kernel_rfl) ?_ _
          gi_wp2
          exact FI.out
  case done =>
    rintro W ⟨v, top, hb, hR, hne, htop, hB⟩ hD
    have c0 := hb.cell (i := 0) (by omega)
    have hz : w.heap.size + 1 + 1 ≤ W.heap.size := by have := hb.lt; omega
    have RW : RwF W w.heap.size W.heap.size v m ns (fun k => trZ (ns : Int) n F T P (k + 1)) := by
      rcases htop with h | ⟨rfl, rfl⟩
      · exact hR.rows (by omega) h
      · obtain ⟨A', L, q1, _⟩ := hR
        rcases q1.2 with ⟨rfl, _⟩ | ⟨g', cap', cur, rfl, _⟩
        · exact RwF.nil _ _ _ _ _ _ (by omega) _
        · exact RwF.nil _ _ _ _ _ _ (by omega) _
    have RB := RwF.kept RW (grownBy_putObj' W w3.heap.size (.deferred none)) (fun r e => by cases e; exact ⟨_, hD, rfl⟩)
    have BB : Below w.heap.size w (W.putObj w3.heap.size (.deferred none)) := hB.grown (grownBy_putObj' W w3.heap.size (.deferred none)) hB.size (fun r e => by cases e; exact zw)
    have HR : Hid _ := RB
    clear hR RW RB hne htop hb
    gi_wp2
    refine ⟨by simp, .inl ⟨_, _, rfl, run_takeDeferred hD, ?_⟩⟩
    refine ⟨_, results_tmp rfl _ _ _, _, rfl, ?_, BB⟩
    rw [World.putObj_size]
    exact HR.out

end Go.Proofs.YtlpopfhaephfaaaDoor

namespace Go.Proofs.YtlpopfhaephfaaaDoor
open Go.RowKit Go.Maps Go.Sort

theorem wrapS (z : Int) (h1 : -9223372036854775808 ≤ z) (h2 : z ≤ 9223372036854775807) : IntKind.i64.wrap z = z := by
  rw [IntKind.wrap_i64]; omega

theorem Turned.drew {w w' : World} {E : Nat → Prop} {lo hi : Nat} (h : Turned w w' E lo hi) : Turned w w'.drew E lo hi := ⟨h.os, h.tape, h.output, h.size, h.block⟩

theorem specTruth_bad (S : Int) (g n m ce : Nat) (ae : Option Addr) (F T : Nat → Int) (w : World) (hm : m ≤ 1048576) (hrow : CRow w g n F T) (hb : ¬ (lokZ S n F T = 0 ∧ m ≤ 2000)) :
    Calls Tryd.prog 9 #[.agg #[.int .i64 S, .slice (gA g) n (gC g)], .slice ae m ce] w fun e w' => e = .returned (.slice none 0 0) ∧ Below w.heap.size w w' := by
  have kc := fun o => specLayoutOk_any S g n F T _ (hrow.alloc o)
  go_enter Tryd.func9, Tryd.ntmps9
  go_wp2_with fail
  refine (kc _).mono ?_
  rintro e w1 ⟨rfl, hb1⟩
  have B1 := below_on (show Below w.heap.size w _ from (by repeat (first | exact Below.refl _ _ | assumption | refine below_alloc ?_ _ | refine Below.setCell ?_ (by first | omega | (simp; done) | (simp; omega)) _ | refine Below.alloc ?_ (by first | omega | (simp; done) | (simp; omega)) _ | refine Below.drew ?_))) hb1
  by_cases hl : lokZ S n F T = 0
  · have h2 : 2000 < (m : Int) := by
      have : ¬ m ≤ 2000 := fun h => hb ⟨hl, h⟩
      omega
    rw [hl]
    go_wp2
    go_ret
    exact ⟨rfl, B1⟩
  · have h1 : (lokZ S n F T == 0) = false := by simp [hl]
    go_wp2
    go_ret
    exact ⟨rfl, B1⟩

/-- an axle's step as the specification counts it -/
theorem step_spec {S d : Int} {n k : Nat} {F T Z : Nat → Int} (hev : evB S n 1 (k : Int) d = true) (hd : d = 1 ∨ d = -1) (s : Nat) : stepZ S n F T Z 1 (k : Int) d s = Z s - (if F k = (s : Int) then d else 0) + (if T k = (s : Int) then d else 0) := by
  unfold stepZ
  rw [if_pos ⟨hev, rfl⟩]
  simp only [Int.toNat_natCast]
  unfold fromZ toZ
  rcases hd with rfl | rfl
  · simp
  · simp only [show ¬ ((-1 : Int) = 1) by omega, if_false]
    split <;> split <;> omega

theorem step_other {S op f d : Int} {n : Nat} {F T Z : Nat → Int} (h : ¬ (evB S n op f d = true ∧ op = 1)) : stepZ S n F T Z op f d = Z := by
  unfold stepZ
  rw [if_neg h]

set_option maxRecDepth 100000 in
set_option maxHeartbeats 4000000 in
theorem specTruth_ok (g n le he m ns ce : Nat) (ae : Option Addr) (F T : Nat → Int) (P : Nat → Nat → Int) (w : World) (hrow : CRow w g n F T) (hev : SlF w 56 3 le he (.slice ae m ce) m (evs P)) (hcap : m ≤ ce) (hl : lokZ (ns : Int) n F T = 0) (hm : m ≤ 2000) :
    Calls Tryd.prog 9 #[.agg #[.int .i64 (ns : Int), .slice (gA g) n (gC g)], .slice ae m ce] w fun e w' => ∃ u, e = .returned u ∧ RwF w' w.heap.size w'.heap.size u m ns (fun k => trZ (ns : Int) n F T P (k + 1)) ∧ Below w.heap.size w w' := by
  obtain ⟨r1, r2, r3⟩ := lok_range hl
  have hp : 0 < ns := by omega
  have hm1 : ¬ 2000 < (m : Int) := by omega
  obtain ⟨i0, hi, hz0, hz1, hz2⟩ := info_parts Tryd.infoRw
  obtain ⟨Cs, zs, eCs, mk0⟩ := made_ints ns
  have mk := fun W => mk0 W (by omega)
  have kc := fun o => specLayoutOk_any (ns : Int) g n F T _ (hrow.alloc o)
  rw [hl] at kc
  obtain ⟨V, eV⟩ : ∃ V, w.alloc (.cells #[.int .i64 (ns : Int), .slice (gA g) n (gC g)] 25) = V := ⟨_, rfl⟩
  have sV : V.heap.size = w.heap.size + 1 := by rw [← eV]; simp
  have bV : Below w.heap.size w V := by rw [← eV]; exact (by repeat (first | exact Below.refl _ _ | assumption | refine below_alloc ?_ _ | refine Below.setCell ?_ (by first | omega | (simp; done) | (simp; omega)) _ | refine Below.alloc ?_ (by first | omega | (simp; done) | (simp; omega)) _ | refine Below.drew ?_))
  have bL : Blk V w.heap.size 25 2 (fun i => if i = 0 then .int .i64 (ns : Int) else .slice (gA g) n (gC g)) := by
    rw [← eV]
    exact Blk.new w #[.int .i64 (ns : Int), .slice (gA g) n (gC g)] 25 _ (fun i hi => by simp at hi; match i, hi with | 0, _ => rfl | 1, _ => rfl)
  have P0 : ∀ W, Below V.heap.size V W → W.cell? ⟨w.heap.size, 0, none⟩ = some (.int .i64 (ns : Int)) ∧ W.cell? ⟨w.heap.size, 1, none⟩ = some (.slice (gA g) n (gC g)) := fun W hb => ⟨(bL.on hb).cell (i := 0) (by omega), (bL.on hb).cell (i := 1) (by omega)⟩
  have kc' := kc (.cells #[.int .i64 (ns : Int), .slice (gA g) n (gC g)] 25)
  rw [eV] at kc'
  have EV : Hid _ := eV
  clear eV bL kc mk0
  go_enter Tryd.func9, Tryd.ntmps9
  go_wp2_with fail
  rw [EV.out]
  refine kc'.mono ?_
  clear kc'
  rintro e w1 ⟨rfl, B1⟩
  have z1 : V.heap.size ≤ w1.heap.size := B1.size
  have I0 : RowI w1 V.heap.size V.heap.size w1.heap.size (.slice none 0 0) 0 ns (fun k => trZ (ns : Int) n F T P (k + 1)) := ⟨fun _ => .slice none 0 0, fun _ => w1.heap.size, World.ownsRow_nil _ _ _ _, z1, Nat.le_refl _, fun i hi => by omega⟩
  go_wp2
  go_loopw [5, 21] (fun q i wr => ∃ (k top : Nat), k ≤ m ∧ i = .int .i64 k ∧ RowI wr V.heap.size V.heap.size top q k ns (fun k => trZ (ns : Int) n F T P (k + 1)) ∧ top ≤ wr.heap.size ∧ Below V.heap.size V wr) (fun _ i _ => m - (intOf i).toNat)
  case atStart => exact ⟨0, w1.heap.size, Nat.zero_le _, rfl, I0, Nat.le_refl _, B1⟩
  case round =>
    clear I0 B1 z1 EV
    obtain ⟨k, top, hk, rfl, hI, htop, Bw⟩ := hrel
    by_cases hlt : k < m
    · have hi1 : (k : Int) < (m : Int) := by omega
      have hi2 : (k : Int) + 1 ≤ (m : Int) := by omega
      have hi3 : (k : Int) + 1 ≤ (ce : Int) := by omega
      obtain ⟨ae', ce', ee, he0⟩ := id hev
      simp only [Value.slice.injEq] at ee
      obtain ⟨rfl, _, rfl⟩ := ee
      rcases he0 with he0 | ⟨ge, me, fe, rfl, _, _, h2, h3, h4⟩
      · omega
      have H3 : Hid (m * 3 ≤ me ∧ Blk w ge 56 me fe ∧ ∀ i, i < m → ∀ j, j < 3 → fe (i * 3 + j) = evs P i j) := ⟨h2, h3, h4⟩
      clear h2 h3 h4
      obtain ⟨y0, y1⟩ := P0 wr Bw
      have zw : w.heap.size < wr.heap.size := by have := Bw.size; omega
      have b0 : IntB (wr.alloc (.cells Cs 3)) wr.heap.size ns (trZ (ns : Int) n F T P 0) := by
        have := Blk.new wr Cs 3 (fun _ => .int .i64 0) (fun i hi => eCs i (by omega))
        rw [zs] at this
        exact this
      have hBr : Below wr.heap.size wr (wr.alloc (.cells Cs 3)) := below_alloc (Below.refl _ _) _
      go_wp2
      rename World => wo
      go_loopw [32] (fun i wq => ∃ j : Nat, j ≤ k + 1 ∧ i = .int .i64 j ∧ IntB wq wo.heap.size ns (trZ (ns : Int) n F T P j) ∧ Below wo.heap.size wo wq) (fun i _ => k + 1 - (intOf i).toNat)
      case atStart => exact ⟨0, Nat.zero_le _, rfl, b0, hBr⟩
      case round =>
        clear b0 hBr
        obtain ⟨j, hj, rfl, hB, hBq⟩ := hrel
        by_cases hjl : j < k + 1
        · have hj1 : (j : Int) < (k : Int) + 1 := by omega
          have hjm : j < m := by omega
          have Bq := below_on Bw hBq
          obtain ⟨c0, c1, c2⟩ := trio (Blk.on H3.out.2.1 (below_on bV Bq)) H3.out.1 hjm H3.out.2.2
          obtain ⟨y0, y1⟩ := P0 _ Bq
          have eZ : trZ (ns : Int) n F T P (j + 1) = stepZ (ns : Int) n F T (trZ (ns : Int) n F T P j) (P j 0) (P j 1) (P j 2) := rfl
          have hZ := fun s => trZ_bound (ns : Int) n F T P j s
          obtain ⟨op, eop⟩ : ∃ op, P j 0 = op := ⟨_, rfl⟩
          obtain ⟨f, ef⟩ : ∃ f, P j 1 = f := ⟨_, rfl⟩
          obtain ⟨d, ed⟩ : ∃ d, P j 2 = d := ⟨_, rfl⟩
          rw [eop] at c0 eZ
          rw [ef] at c1 eZ
          rw [ed] at c2 eZ
          obtain ⟨Z, eZ0⟩ : ∃ Z, trZ (ns : Int) n F T P j = Z := ⟨_, rfl⟩
          rw [eZ0] at hB eZ
          simp only [eZ0] at hZ
          clear eop ef ed eZ0
          have EZ : Hid _ := eZ
          clear eZ
          rename World => wq
          have zq : w.heap.size < wq.heap.size := by have := Bq.size; omega
          have hBa : Below wq.heap.size wq (wq.alloc (.cells #[.int .i64 op, .int .i64 f, .int .i64 d] 56)) := below_alloc (Below.refl _ _) _
          by_cases hop : op = 1
          · subst hop
            have ke := specEventOk_any (ns : Int) 1 f d g n F T (wq.alloc (.cells #[.int .i64 1, .int .i64 f, .int .i64 d] 56)) ((hrow.on (below_on bV Bq)).alloc _)
            have eE : evOk (ns : Int) n F T 1 f d = evB (ns : Int) n 1 f d := by unfold evOk; rw [hl]; simp
            rw [eE] at ke
            clear eE
            cases hv : evB (ns : Int) n 1 f d
            · rw [hv] at ke
              have eq : stepZ (ns : Int) n F T Z 1 f d = Z := step_other (fun h => by rw [hv] at h; cases h.1)
              have EQ : Hid _ := eq
              clear eq
              go_wp2_with fail
              refine ke.mono ?_
              clear ke
              rintro e w4 ⟨rfl, hb4⟩
              have h4 := below_on hBa hb4
              go_wp2
              go_roundw
              case rel => exact ⟨j + 1, by omega, by go_num, by rw [EZ.out, EQ.out]; exact Blk.on hB h4, below_on hBq h4⟩
              case measure => simp [intOf]; omega
            · rw [hv] at ke
              unfold evB at hv
              rw [if_pos (.inl rfl)] at hv
              simp only [decide_eq_true_eq] at hv
              obtain ⟨h1, h2, hd⟩ := hv
              obtain ⟨kk, rfl⟩ : ∃ kk : Nat, f = (kk : Int) := ⟨f.toNat, by omega⟩
              have hkk : kk < n := by omega
              have hkk' : (kk : Int) < (n : Int) := by omega
              have hs := lok_sides hl kk hkk
              have hv' : evB (ns : Int) n 1 (kk : Int) d = true := by unfold evB; rw [if_pos (.inl rfl)]; simp only [decide_eq_true_eq]; exact ⟨h1, h2, hd⟩
              have ES : Hid (∀ s, _) := fun s => step_spec (F := F) (T := T) (Z := Z) hv' hd s
              go_wp2_with fail
              refine ke.mono ?_
              clear ke
              rintro e w4 ⟨rfl, hb4⟩
              have h4 := below_on hBa hb4
              have R4 := hrow.on (below_on bV (below_on Bq h4))
              obtain ⟨gb, eg, lgb, g0, g1, _⟩ := R4.at hkk
              obtain ⟨y0', y1'⟩ := P0 _ (below_on Bq h4)
              rw [eg] at y1'
              have eb4 := (Box3.lay wq (.int .i64 1) (.int .i64 (kk : Int)) (.int .i64 d) 56).on hb4
              obtain ⟨e0, e1, e2⟩ := eb4.cells
              have hB4 : IntB w4 wo.heap.size ns Z := Blk.on hB h4
              obtain ⟨a, ea⟩ : ∃ a, F kk = a := ⟨_, rfl⟩
              obtain ⟨b, eb⟩ : ∃ b, T kk = b := ⟨_, rfl⟩
              rw [ea] at g0 hs
              rw [eb] at g1 hs
              have EA : Hid _ := ea
              have EB : Hid _ := eb
              have zq4 : wq.heap.size < w4.heap.size := Blk.lt eb4
              have zo4 : wo.heap.size < w4.heap.size := Blk.lt hB4
              have zl4 : w.heap.size < w4.heap.size := by omega
              have zg4 : gb < w4.heap.size := lgb
              have bb1 : -1 ≤ d ∧ d ≤ 1 := by omega
              clear ea eb c0 c1 c2 y0 y1 hBa hb4 hv' R4 hB
              rcases (show a = -1 ∨ 0 ≤ a by omega) with ha | ha
              · subst ha
                have hb0 : 0 ≤ b := by omega
                obtain ⟨j1, rfl⟩ : ∃ j1 : Nat, b = (j1 : Int) := ⟨b.toNat, by omega⟩
                have lj1 : j1 < ns := by omega
                have lj1' : (j1 : Int) < (ns : Int) := by omega
                have pj1 : (0 : Int) ≤ (j1 : Int) := by omega
                obtain ⟨xj1, ej1⟩ : ∃ x, Z j1 = x := ⟨_, rfl⟩
                have hj1 := hZ j1
                rw [ej1] at hj1
                go_upto_region 16 with fail
                obtain ⟨U, eU⟩ : ∃ U, w4.alloc (.cells #[.int .i64 (-1), .int .i64 (j1 : Int)] 74) = U := ⟨_, rfl⟩
                have hbU : Below w4.heap.size w4 U := by rw [← eU]; exact (by repeat (first | exact Below.refl _ _ | assumption | refine below_alloc ?_ _ | refine Below.setCell ?_ (by first | omega | (simp; done) | (simp; omega)) _ | refine Below.alloc ?_ (by first | omega | (simp; done) | (simp; omega)) _ | refine Below.drew ?_))
                have cbx : Blk U w4.heap.size 74 2 (fun i => if i = 0 then .int .i64 (-1) else .int .i64 (j1 : Int)) := by
                  rw [← eU]
                  exact Blk.new w4 #[.int .i64 (-1), .int .i64 (j1 : Int)] 74 _ (fun i hi => by simp at hi; match i, hi with | 0, _ => rfl | 1, _ => rfl)
                rw [eU]
                have ebx := eb4.on hbU
                have iB : IntB U wo.heap.size ns Z := Blk.on hB4 hbU
                have hU := below_on h4 hbU
                have zU := hbU.size
                have zoU : wo.heap.size < U.heap.size := by omega
                clear eU hbU
                refine wp_region_any (by kernel_rfl) ?_
                refine InC.any (C := fun W => Blk W w4.heap.size 74 2 (fun i => if i = 0 then .int .i64 (-1) else .int .i64 (j1 : Int)) ∧ Box3 W wq.heap.size 56 (.int .i64 1) (.int .i64 (kk : Int)) (.int .i64 d)) _ _ _ _ ?_
                have C0 : Blk U.drew w4.heap.size 74 2 (fun i => if i = 0 then .int .i64 (-1) else .int .i64 (j1 : Int)) ∧ Box3 U.drew wq.heap.size 56 (.int .i64 1) (.int .i64 (kk : Int)) (.int .i64 d) := ⟨cbx, ebx⟩
                refine InC.take (i := 0) (v := .slice (some ⟨wo.heap.size, 0, none⟩) ns ns) rfl (by kernel_rfl) (by kernel_rfl) (by kernel_rfl) (fun _ _ _ h => h) C0 (Or.inl ⟨by rfl, ?_⟩) ?_
                · intro W hW
                  go_simp
                refine InC.take (i := 1) (v := .pointer (some ⟨w4.heap.size, 1, none⟩)) rfl (by kernel_rfl) (by kernel_rfl) (by kernel_rfl) (fun _ _ _ h => h) C0 (Or.inl ⟨by rfl, ?_⟩) ?_
                · intro W hW
                  go_simp
                refine InC.take (i := 2) (v := .int .i64 (j1 : Int)) rfl (by kernel_rfl) (by kernel_rfl) (by kernel_rfl) (fun _ _ _ h => h) C0 (Or.inl ⟨by rfl, ?_⟩) ?_
                · intro W hW
                  have k0 := hW.1.cell (i := 1) (by omega)
                  simp only [Nat.one_ne_zero, if_false] at k0
                  go_simp
                refine InC.take (i := 3) (v := .pointer (some ⟨wo.heap.size, j1, none⟩)) rfl (by kernel_rfl) (by kernel_rfl) (by kernel_rfl) (fun _ _ _ h => h) C0 (Or.inl ⟨by rfl, ?_⟩) ?_
                · intro W hW
                  go_simp
                refine InC.take (i := 5) (v := .pointer (some ⟨wq.heap.size, 2, none⟩)) rfl (by kernel_rfl) (by kernel_rfl) (by kernel_rfl) (fun _ _ _ h => h) C0 (Or.inl ⟨by rfl, ?_⟩) ?_
                · intro W hW
                  go_simp
                refine InC.take (i := 6) (v := .int .i64 d) rfl (by kernel_rfl) (by kernel_rfl) (by kernel_rfl) (fun _ _ _ h => h) C0 (Or.inl ⟨by rfl, ?_⟩) ?_
                · intro W hW
                  obtain ⟨e0, e1, e2⟩ := hW.2.cells
                  go_simp
                have x0 := Blk.cell iB (i := j1) (by omega)
                simp only [ej1] at x0
                have q0 := Blk.frozen iB j1
                have tS := IntB.turn iB j1 (.int .i64 (xj1 + d))
                have iS := IntB.set iB j1 (xj1 + d)
                have cbS := Blk.turned cbx tS (.inl (by decide))
                have ebS := Box3.turned ebx tS (.inl (by decide))
                have HS : Hid _ := tS
                have HI : Hid _ := iS
                have HC : Hid _ := cbS
                have HE : Hid _ := ebS
                clear tS iS cbS ebS
                refine InC.next1 (i := 4) (by kernel_rfl) (InC.one rfl fun K hK => ?_)
                go_simp
                refine hK _ _ C0 ?_
                clear hK K
                refine InC.next1 (i := 7) (by kernel_rfl) (InC.one rfl fun K hK => ?_)
                go_simp
                simp only [wrapS (xj1 + d) (by omega) (by omega)]
                refine hK _ _ C0 ?_
                clear hK K
                refine InC.next1 (i := 8) (by kernel_rfl) (InC.one rfl fun K hK => ?_)
                go_simp
                refine hK _ _ C0 ?_
                clear hK K
                refine InC.next1 (i := 9) (by kernel_rfl) (InC.one rfl fun K hK => ?_)
                go_simp
                refine hK _ _ ⟨HC.out, HE.out⟩ ?_
                clear hK K
                refine InC.done (by kernel_rfl) ?_
                have key := HI.out
                have tk := HS.out
                go_wp2
                go_roundw
                case rel =>
                  refine ⟨_, _, _, ⟨j + 1, by omega, by go_num, ?_, (hBq.trans (hU.mono (by have := hBq.size; omega))).trans (Turned.below (Turned.drew tk) (Nat.le_refl _) (by omega))⟩, rfl, rfl, rfl⟩
                  rw [EZ.out]
                  refine Blk.congr key (fun i hi => ?_)
                  rw [ES.out i, EA.out, EB.out]
                  by_cases e : i = j1
                  · subst e
                    have n1 : ¬ (-1 : Int) = (i : Int) := by omega
                    simp [n1, ej1]
                  · have n1 : ¬ (-1 : Int) = (i : Int) := by omega
                    have n2 : ¬ (j1 : Int) = (i : Int) := by omega
                    simp [e, n1, n2]
                case measure => simp [intOf]; omega
              · rcases (show b = -1 ∨ 0 ≤ b by omega) with hb0 | hb0
                · subst hb0
                  obtain ⟨i1, rfl⟩ : ∃ i1 : Nat, a = (i1 : Int) := ⟨a.toNat, by omega⟩
                  have li1 : i1 < ns := by omega
                  have li1' : (i1 : Int) < (ns : Int) := by omega
                  have pi1 : (0 : Int) ≤ (i1 : Int) := by omega
                  obtain ⟨xi1, ei1⟩ : ∃ x, Z i1 = x := ⟨_, rfl⟩
                  have hi1 := hZ i1
                  rw [ei1] at hi1
                  go_upto_region 14 with fail
                  obtain ⟨U, eU⟩ : ∃ U, w4.alloc (.cells #[.int .i64 (i1 : Int), .int .i64 (-1)] 74) = U := ⟨_, rfl⟩
                  have hbU : Below w4.heap.size w4 U := by rw [← eU]; exact (by repeat (first | exact Below.refl _ _ | assumption | refine below_alloc ?_ _ | refine Below.setCell ?_ (by first | omega | (simp; done) | (simp; omega)) _ | refine Below.alloc ?_ (by first | omega | (simp; done) | (simp; omega)) _ | refine Below.drew ?_))
                  have cbx : Blk U w4.heap.size 74 2 (fun i => if i = 0 then .int .i64 (i1 : Int) else .int .i64 (-1)) := by
                    rw [← eU]
                    exact Blk.new w4 #[.int .i64 (i1 : Int), .int .i64 (-1)] 74 _ (fun i hi => by simp at hi; match i, hi with | 0, _ => rfl | 1, _ => rfl)
                  rw [eU]
                  have ebx := eb4.on hbU
                  have iB : IntB U wo.heap.size ns Z := Blk.on hB4 hbU
                  have hU := below_on h4 hbU
                  have zU := hbU.size
                  have zoU : wo.heap.size < U.heap.size := by omega
                  clear eU hbU
                  refine wp_region_any (by kernel_rfl) ?_
                  refine InC.any (C := fun W => Blk W w4.heap.size 74 2 (fun i => if i = 0 then .int .i64 (i1 : Int) else .int .i64 (-1)) ∧ Box3 W wq.heap.size 56 (.int .i64 1) (.int .i64 (kk : Int)) (.int .i64 d)) _ _ _ _ ?_
                  have C0 : Blk U.drew w4.heap.size 74 2 (fun i => if i = 0 then .int .i64 (i1 : Int) else .int .i64 (-1)) ∧ Box3 U.drew wq.heap.size 56 (.int .i64 1) (.int .i64 (kk : Int)) (.int .i64 d) := ⟨cbx, ebx⟩
                  refine InC.take (i := 0) (v := .slice (some ⟨wo.heap.size, 0, none⟩) ns ns) rfl (by kernel_rfl) (by kernel_rfl) (by kernel_rfl) (fun _ _ _ h => h) C0 (Or.inl ⟨by rfl, ?_⟩) ?_
                  · intro W hW
                    go_simp
                  refine InC.take (i := 1) (v := .pointer (some ⟨w4.heap.size, 0, none⟩)) rfl (by kernel_rfl) (by kernel_rfl) (by kernel_rfl) (fun _ _ _ h => h) C0 (Or.inl ⟨by rfl, ?_⟩) ?_
                  · intro W hW
                    go_simp
                  refine InC.take (i := 2) (v := .int .i64 (i1 : Int)) rfl (by kernel_rfl) (by kernel_rfl) (by kernel_rfl) (fun _ _ _ h => h) C0 (Or.inl ⟨by rfl, ?_⟩) ?_
                  · intro W hW
                    have k0 := hW.1.cell (i := 0) (by omega)
                    simp only [if_true] at k0
                    go_simp
                  refine InC.take (i := 3) (v := .pointer (some ⟨wo.heap.size, i1, none⟩)) rfl (by kernel_rfl) (by kernel_rfl) (by kernel_rfl) (fun _ _ _ h => h) C0 (Or.inl ⟨by rfl, ?_⟩) ?_
                  · intro W hW
                    go_simp
                  refine InC.take (i := 5) (v := .pointer (some ⟨wq.heap.size, 2, none⟩)) rfl (by kernel_rfl) (by kernel_rfl) (by kernel_rfl) (fun _ _ _ h => h) C0 (Or.inl ⟨by rfl, ?_⟩) ?_
                  · intro W hW
                    go_simp
                  refine InC.take (i := 6) (v := .int .i64 d) rfl (by kernel_rfl) (by kernel_rfl) (by kernel_rfl) (fun _ _ _ h => h) C0 (Or.inl ⟨by rfl, ?_⟩) ?_
                  · intro W hW
                    obtain ⟨e0, e1, e2⟩ := hW.2.cells
                    go_simp
                  have x0 := Blk.cell iB (i := i1) (by omega)
                  simp only [ei1] at x0
                  have q0 := Blk.frozen iB i1
                  have tS := IntB.turn iB i1 (.int .i64 (xi1 - d))
                  have iS := IntB.set iB i1 (xi1 - d)
                  have cbS := Blk.turned cbx tS (.inl (by decide))
                  have ebS := Box3.turned ebx tS (.inl (by decide))
                  have HS : Hid _ := tS
                  have HI : Hid _ := iS
                  have HC : Hid _ := cbS
                  have HE : Hid _ := ebS
                  clear tS iS cbS ebS
                  refine InC.next1 (i := 4) (by kernel_rfl) (InC.one rfl fun K hK => ?_)
                  go_simp
                  refine hK _ _ C0 ?_
                  clear hK K
                  refine InC.next1 (i := 7) (by kernel_rfl) (InC.one rfl fun K hK => ?_)
                  go_simp
                  simp only [wrapS (xi1 - d) (by omega) (by omega)]
                  refine hK _ _ C0 ?_
                  clear hK K
                  refine InC.next1 (i := 8) (by kernel_rfl) (InC.one rfl fun K hK => ?_)
                  go_simp
                  refine hK _ _ C0 ?_
                  clear hK K
                  refine InC.next1 (i := 9) (by kernel_rfl) (InC.one rfl fun K hK => ?_)
                  go_simp
                  refine hK _ _ ⟨HC.out, HE.out⟩ ?_
                  clear hK K
                  refine InC.done (by kernel_rfl) ?_
                  have cb1 := Blk.cell HC.out (i := 1) (by omega)
                  simp only [Nat.one_ne_zero, if_false] at cb1
                  have key := HI.out
                  have tk := HS.out
                  go_wp2
                  go_roundw
                  case rel =>
                    refine ⟨_, _, _, ⟨j + 1, by omega, by go_num, ?_, (hBq.trans (hU.mono (by have := hBq.size; omega))).trans (Turned.below (Turned.drew tk) (Nat.le_refl _) (by omega))⟩, rfl, rfl, rfl⟩
                    rw [EZ.out]
                    refine Blk.congr key (fun i hi => ?_)
                    rw [ES.out i, EA.out, EB.out]
                    by_cases e : i = i1
                    · subst e
                      have n1 : ¬ (-1 : Int) = (i : Int) := by omega
                      simp [n1, ei1]
                    · have n1 : ¬ (-1 : Int) = (i : Int) := by omega
                      have n2 : ¬ (i1 : Int) = (i : Int) := by omega
                      simp [e, n1, n2]
                  case measure => simp [intOf]; omega
                · obtain ⟨i1, rfl⟩ : ∃ i1 : Nat, a = (i1 : Int) := ⟨a.toNat, by omega⟩
                  have li1 : i1 < ns := by omega
                  have li1' : (i1 : Int) < (ns : Int) := by omega
                  have pi1 : (0 : Int) ≤ (i1 : Int) := by omega
                  obtain ⟨xi1, ei1⟩ : ∃ x, Z i1 = x := ⟨_, rfl⟩
                  have hi1 := hZ i1
                  rw [ei1] at hi1
                  obtain ⟨j1, rfl⟩ : ∃ j1 : Nat, b = (j1 : Int) := ⟨b.toNat, by omega⟩
                  have lj1 : j1 < ns := by omega
                  have lj1' : (j1 : Int) < (ns : Int) := by omega
                  have pj1 : (0 : Int) ≤ (j1 : Int) := by omega
                  obtain ⟨xj1, ej1⟩ : ∃ x, Z j1 = x := ⟨_, rfl⟩
                  have hj1 := hZ j1
                  rw [ej1] at hj1
                  have hij : ¬ j1 = i1 := by omega
                  go_upto_region 14 with fail
                  obtain ⟨U, eU⟩ : ∃ U, w4.alloc (.cells #[.int .i64 (i1 : Int), .int .i64 (j1 : Int)] 74) = U := ⟨_, rfl⟩
                  have hbU : Below w4.heap.size w4 U := by rw [← eU]; exact (by repeat (first | exact Below.refl _ _ | assumption | refine below_alloc ?_ _ | refine Below.setCell ?_ (by first | omega | (simp; done) | (simp; omega)) _ | refine Below.alloc ?_ (by first | omega | (simp; done) | (simp; omega)) _ | refine Below.drew ?_))
                  have cbx : Blk U w4.heap.size 74 2 (fun i => if i = 0 then .int .i64 (i1 : Int) else .int .i64 (j1 : Int)) := by
                    rw [← eU]
                    exact Blk.new w4 #[.int .i64 (i1 : Int), .int .i64 (j1 : Int)] 74 _ (fun i hi => by simp at hi; match i, hi with | 0, _ => rfl | 1, _ => rfl)
                  rw [eU]
                  have ebx := eb4.on hbU
                  have iB : IntB U wo.heap.size ns Z := Blk.on hB4 hbU
                  have hU := below_on h4 hbU
                  have zU := hbU.size
                  have zoU : wo.heap.size < U.heap.size := by omega
                  clear eU hbU
                  refine wp_region_any (by kernel_rfl) ?_
                  refine InC.any (C := fun W => Blk W w4.heap.size 74 2 (fun i => if i = 0 then .int .i64 (i1 : Int) else .int .i64 (j1 : Int)) ∧ Box3 W wq.heap.size 56 (.int .i64 1) (.int .i64 (kk : Int)) (.int .i64 d)) _ _ _ _ ?_
                  have C0 : Blk U.drew w4.heap.size 74 2 (fun i => if i = 0 then .int .i64 (i1 : Int) else .int .i64 (j1 : Int)) ∧ Box3 U.drew wq.heap.size 56 (.int .i64 1) (.int .i64 (kk : Int)) (.int .i64 d) := ⟨cbx, ebx⟩
                  refine InC.take (i := 0) (v := .slice (some ⟨wo.heap.size, 0, none⟩) ns ns) rfl (by kernel_rfl) (by kernel_rfl) (by kernel_rfl) (fun _ _ _ h => h) C0 (Or.inl ⟨by rfl, ?_⟩) ?_
                  · intro W hW
                    go_simp
                  refine InC.take (i := 1) (v := .pointer (some ⟨w4.heap.size, 0, none⟩)) rfl (by kernel_rfl) (by kernel_rfl) (by kernel_rfl) (fun _ _ _ h => h) C0 (Or.inl ⟨by rfl, ?_⟩) ?_
                  · intro W hW
                    go_simp
                  refine InC.take (i := 2) (v := .int .i64 (i1 : Int)) rfl (by kernel_rfl) (by kernel_rfl) (by kernel_rfl) (fun _ _ _ h => h) C0 (Or.inl ⟨by rfl, ?_⟩) ?_
                  · intro W hW
                    have k0 := hW.1.cell (i := 0) (by omega)
                    simp only [if_true] at k0
                    go_simp
                  refine InC.take (i := 3) (v := .pointer (some ⟨wo.heap.size, i1, none⟩)) rfl (by kernel_rfl) (by kernel_rfl) (by kernel_rfl) (fun _ _ _ h => h) C0 (Or.inl ⟨by rfl, ?_⟩) ?_
                  · intro W hW
                    go_simp
                  refine InC.take (i := 5) (v := .pointer (some ⟨wq.heap.size, 2, none⟩)) rfl (by kernel_rfl) (by kernel_rfl) (by kernel_rfl) (fun _ _ _ h => h) C0 (Or.inl ⟨by rfl, ?_⟩) ?_
                  · intro W hW
                    go_simp
                  refine InC.take (i := 6) (v := .int .i64 d) rfl (by kernel_rfl) (by kernel_rfl) (by kernel_rfl) (fun _ _ _ h => h) C0 (Or.inl ⟨by rfl, ?_⟩) ?_
                  · intro W hW
                    obtain ⟨e0, e1, e2⟩ := hW.2.cells
                    go_simp
                  have x0 := Blk.cell iB (i := i1) (by omega)
                  simp only [ei1] at x0
                  have q0 := Blk.frozen iB i1
                  have tS := IntB.turn iB i1 (.int .i64 (xi1 - d))
                  have iS := IntB.set iB i1 (xi1 - d)
                  have cbS := Blk.turned cbx tS (.inl (by decide))
                  have ebS := Box3.turned ebx tS (.inl (by decide))
                  have HS : Hid _ := tS
                  have HI : Hid _ := iS
                  have HC : Hid _ := cbS
                  have HE : Hid _ := ebS
                  clear tS iS cbS ebS
                  refine InC.next1 (i := 4) (by kernel_rfl) (InC.one rfl fun K hK => ?_)
                  go_simp
                  refine hK _ _ C0 ?_
                  clear hK K
                  refine InC.next1 (i := 7) (by kernel_rfl) (InC.one rfl fun K hK => ?_)
                  go_simp
                  simp only [wrapS (xi1 - d) (by omega) (by omega)]
                  refine hK _ _ C0 ?_
                  clear hK K
                  refine InC.next1 (i := 8) (by kernel_rfl) (InC.one rfl fun K hK => ?_)
                  go_simp
                  refine hK _ _ C0 ?_
                  clear hK K
                  refine InC.next1 (i := 9) (by kernel_rfl) (InC.one rfl fun K hK => ?_)
                  go_simp
                  refine hK _ _ ⟨HC.out, HE.out⟩ ?_
                  clear hK K
                  refine InC.done (by kernel_rfl) ?_
                  have cb1 := Blk.cell HC.out (i := 1) (by omega)
                  simp only [Nat.one_ne_zero, if_false] at cb1
                  go_upto_region 16 with fail
                  obtain ⟨U3, e3⟩ : ∃ U3, (U.setCell ⟨wo.heap.size, i1, none⟩ (.int .i64 (xi1 - d))).drew = U3 := ⟨_, rfl⟩
                  have iB2 : IntB U3 wo.heap.size ns (fun i => if i = i1 then xi1 - d else Z i) := by rw [← e3]; exact HI.out
                  have cbx2 : Blk U3 w4.heap.size 74 2 (fun i => if i = 0 then .int .i64 (i1 : Int) else .int .i64 (j1 : Int)) := by rw [← e3]; exact HC.out
                  have ebx2 : Box3 U3 wq.heap.size 56 (.int .i64 1) (.int .i64 (kk : Int)) (.int .i64 d) := by rw [← e3]; exact HE.out
                  have tk1 : Turned U U3 (· = 3) wo.heap.size (wo.heap.size + 1) := by rw [← e3]; exact Turned.drew HS.out
                  rw [e3]
                  clear HI HC HE HS cbx ebx C0 x0 q0 cb1 e3
                  have cbx := cbx2
                  have ebx := ebx2
                  clear cbx2 ebx2
                  have z3 := tk1.size
                  have zo3 : wo.heap.size < U3.heap.size := by omega
                  refine wp_region_any (by kernel_rfl) ?_
                  refine InC.any (C := fun W => Blk W w4.heap.size 74 2 (fun i => if i = 0 then .int .i64 (i1 : Int) else .int .i64 (j1 : Int)) ∧ Box3 W wq.heap.size 56 (.int .i64 1) (.int .i64 (kk : Int)) (.int .i64 d)) _ _ _ _ ?_
                  have C0 : Blk U3.drew w4.heap.size 74 2 (fun i => if i = 0 then .int .i64 (i1 : Int) else .int .i64 (j1 : Int)) ∧ Box3 U3.drew wq.heap.size 56 (.int .i64 1) (.int .i64 (kk : Int)) (.int .i64 d) := ⟨cbx, ebx⟩
                  refine InC.take (i := 0) (v := .slice (some ⟨wo.heap.size, 0, none⟩) ns ns) rfl (by kernel_rfl) (by kernel_rfl) (by kernel_rfl) (fun _ _ _ h => h) C0 (Or.inl ⟨by rfl, ?_⟩) ?_
                  · intro W hW
                    go_simp
                  refine InC.take (i := 1) (v := .pointer (some ⟨w4.heap.size, 1, none⟩)) rfl (by kernel_rfl) (by kernel_rfl) (by kernel_rfl) (fun _ _ _ h => h) C0 (Or.inl ⟨by rfl, ?_⟩) ?_
                  · intro W hW
                    go_simp
                  refine InC.take (i := 2) (v := .int .i64 (j1 : Int)) rfl (by kernel_rfl) (by kernel_rfl) (by kernel_rfl) (fun _ _ _ h => h) C0 (Or.inl ⟨by rfl, ?_⟩) ?_
                  · intro W hW
                    have k0 := hW.1.cell (i := 1) (by omega)
                    simp only [Nat.one_ne_zero, if_false] at k0
                    go_simp
                  refine InC.take (i := 3) (v := .pointer (some ⟨wo.heap.size, j1, none⟩)) rfl (by kernel_rfl) (by kernel_rfl) (by kernel_rfl) (fun _ _ _ h => h) C0 (Or.inl ⟨by rfl, ?_⟩) ?_
                  · intro W hW
                    go_simp
                  refine InC.take (i := 5) (v := .pointer (some ⟨wq.heap.size, 2, none⟩)) rfl (by kernel_rfl) (by kernel_rfl) (by kernel_rfl) (fun _ _ _ h => h) C0 (Or.inl ⟨by rfl, ?_⟩) ?_
                  · intro W hW
                    go_simp
                  refine InC.take (i := 6) (v := .int .i64 d) rfl (by kernel_rfl) (by kernel_rfl) (by kernel_rfl) (fun _ _ _ h => h) C0 (Or.inl ⟨by rfl, ?_⟩) ?_
                  · intro W hW
                    obtain ⟨e0, e1, e2⟩ := hW.2.cells
                    go_simp
                  have x0 := Blk.cell iB2 (i := j1) (by omega)
                  simp only [hij, if_false, ej1] at x0
                  have q0 := Blk.frozen iB2 j1
                  have tS := IntB.turn iB2 j1 (.int .i64 (xj1 + d))
                  have iS := IntB.set iB2 j1 (xj1 + d)
                  have cbS := Blk.turned cbx tS (.inl (by decide))
                  have ebS := Box3.turned ebx tS (.inl (by decide))
                  have HS : Hid _ := tS
                  have HI : Hid _ := iS
                  have HC : Hid _ := cbS
                  have HE : Hid _ := ebS
                  clear tS iS cbS ebS
                  refine InC.next1 (i := 4) (by kernel_rfl) (InC.one rfl fun K hK => ?_)
                  go_simp
                  refine hK _ _ C0 ?_
                  clear hK K
                  refine InC.next1 (i := 7) (by kernel_rfl) (InC.one rfl fun K hK => ?_)
                  go_simp
                  simp only [wrapS (xj1 + d) (by omega) (by omega)]
                  refine hK _ _ C0 ?_
                  clear hK K
                  refine InC.next1 (i := 8) (by kernel_rfl) (InC.one rfl fun K hK => ?_)
                  go_simp
                  refine hK _ _ C0 ?_
                  clear hK K
                  refine InC.next1 (i := 9) (by kernel_rfl) (InC.one rfl fun K hK => ?_)
                  go_simp
                  refine hK _ _ ⟨HC.out, HE.out⟩ ?_
                  clear hK K
                  refine InC.done (by kernel_rfl) ?_
                  have key := HI.out
                  have tk := HS.out
                  go_wp2
                  go_roundw
                  case rel =>
                    refine ⟨_, _, _, ⟨j + 1, by omega, by go_num, ?_, (hBq.trans (hU.mono (by have := hBq.size; omega))).trans ((Turned.below tk1 (Nat.le_refl _) (by omega)).trans (Turned.below (Turned.drew tk) (Nat.le_refl _) (by omega)))⟩, rfl, rfl, rfl⟩
                    rw [EZ.out]
                    refine Blk.congr key (fun i hi => ?_)
                    rw [ES.out i, EA.out, EB.out]
                    by_cases e : i = j1
                    · subst e
                      have n2 : ¬ (i1 : Int) = (i : Int) := by omega
                      simp [n2, ej1]
                    · have n1 : ¬ (j1 : Int) = (i : Int) := by omega
                      by_cases e2 : i = i1
                      · subst e2
                        simp [e, n1, ei1]
                      · have n2 : ¬ (i1 : Int) = (i : Int) := by omega
                        simp [e, e2, n1, n2]
                  case measure => simp [intOf]; omega
          · have hop' : (op == 1) = false := by simp [hop]
            have eq : stepZ (ns : Int) n F T Z op f d = Z := step_other (fun h => hop h.2)
            have EQ : Hid _ := eq
            clear eq
            go_wp2
            go_roundw
            case rel => exact ⟨j + 1, by omega, by go_num, by rw [EZ.out, EQ.out]; exact Blk.on hB hBa, below_on hBq hBa⟩
            case measure => simp [intOf]; omega
        · have hjk : j = k + 1 := by omega
          subst hjk
          have Bq := below_on Bw hBq
          obtain ⟨A', L, q1, q2, q3, q4⟩ := hI
          have hbX : Below wo.heap.size wo (wr.alloc (.cells #[.slice (some ⟨wo.heap.size, 0, none⟩) ns ns] 44)) := below_alloc hBq _
          have ownU := own_on q1 hbX
          have hnw := cell_one wr (.slice (some ⟨wo.heap.size, 0, none⟩) ns ns) 44
          have h1c : ∀ u ∈ [Value.slice (some ⟨wo.heap.size, 0, none⟩) ns ns], u.oneCell' = true := fun u hu => by
            simp only [List.mem_cons, List.not_mem_nil, or_false] at hu
            subst hu; rfl
          have sR := (IntB.row hB).on (below_alloc (Below.refl wr.heap.size wr) (.cells #[.slice (some ⟨wo.heap.size, 0, none⟩) ns ns] 44))
          have BX := below_on Bw hbX
          have zX := hbX.size
          have q4' : ∀ i, i < k → L i ≤ L (i + 1) ∧ SlF (wr.alloc (.cells #[.slice (some ⟨wo.heap.size, 0, none⟩) ns ns] 44)) 3 1 (L i) (L (i + 1)) (A' i) ns (rowV (trZ (ns : Int) n F T P (i + 1))) := fun i hi => ⟨(q4 i hi).1, (q4 i hi).2.on hbX⟩
          have Q4 : Hid _ := q4'
          have zr : wo.heap.size < wr.heap.size := Blk.lt hB
          clear q4 q4' hbX hB y0 y1
          go_wp2_with (first
            | (at_builtin; refine wpList_append_own _ rfl _ _ 32 rfl V.heap.size 44 i0 _ 1 24 Tryd.underlying32 hi hz0 hz1 hz2 rfl (by decide) _ _ _ rfl ownU ⟨wr.heap.size, 0, none⟩ 1 1 [.slice (some ⟨wo.heap.size, 0, none⟩) ns ns] rfl rfl hnw h1c (by unfold maxLen; omega) (by omega) BX.size ?_; intro v' w6 hown' hgrow hnil; obtain ⟨g6, cap6, rfl⟩ := own_some hown' (by omega)))
          have tg := own_grown ownU hgrow
          have I6 := RowI.step (Z := fun k => trZ (ns : Int) n F T P (k + 1)) ownU q2 q3 Q4.out sR (by omega) (by omega) hown' hgrow
          have z6 : wo.heap.size + 1 ≤ w6.heap.size := by have := tg.size; simp at this; omega
          go_roundw
          case rel => exact ⟨k + 1, wo.heap.size + 1, by omega, by go_num, I6, z6, BX.trans (tg.below (Nat.le_refl _) BX.size)⟩
          case measure => simp [intOf]; omega
    · have hkm : k = m := by omega
      subst hkm
      go_wp2
      go_ret
      exact ⟨_, rfl, (hI.rows (Nat.le_refl _) htop).wide (by omega), below_on bV Bw⟩

end Go.Proofs.YtlpopfhaephfaaaDoor
