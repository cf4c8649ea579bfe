import Derived.Lib.SmallJoins
import Derived.Test.YtlpopfhaephfaabDoorShelf
import Derived.Test.YtlpopfhaephfaabDoorTX3
import Derived.Test.YtlpopfhaephfaabDoorRE1
import Derived.Laws.LoneSync
import Derived.Lib.QuietBelow
import Derived.BigQuiet
import Derived.Deep.Cut
import Derived.OwnWalk
import Derived.Lib.FrozenHead
import Derived.Lib.AppendIntMem
namespace Go.Proofs.YtlpopfhaephfaabDoor
open Go.RowKit

/-- The words lie as they are laid, and the library's powers of ten. -/
structure Lay (w : World) : Prop where
  words : ∀ i, i < 6 → w.cell? ⟨4, i, none⟩ = some (.string ⟨(wordB (i : Int)).toArray⟩)
  pow : Lib.TabIs Tryd.prog w "internal/strconv.uint64pow10" .u64 Lib.pow10Tab

theorem Tryd.gPow : Tryd.prog.globalNamed "internal/strconv.uint64pow10" = some 5 := by kernel_rfl

theorem Lay.on {w w' : World} (h : Lay w) (hb : Below w.heap.size w w') : Lay w' :=
  ⟨fun i hi => by rw [hb.cell (block_lt_of_cell (h.words i hi))]; exact h.words i hi, Joins.tab_stays Tryd.gPow h.pow hb (Nat.le_refl _)⟩

theorem came3_of_row {w : World} {ge m : Nat} {P : Nat → Nat → Int} (h : Row w ge 51 3 m (evs P)) : Came3 w (some ⟨ge, 0, none⟩) m P :=
  .inr ⟨ge, 0, rfl, h.lt, fun i hi j hj => by rw [Nat.zero_add]; exact h.cell hi hj⟩

/-- The k-th event's three cells. -/
theorem Came3.cells {w : World} {ae : Option Addr} {m k : Nat} {P : Nat → Nat → Int} (h : Came3 w ae m P) (hk : k < m) : ∃ b off, ae = some ⟨b, off, none⟩ ∧ w.cell? ⟨b, off + k * 3, none⟩ = some (.int .i64 (P k 0)) ∧ w.cell? ⟨b, off + k * 3 + 1, none⟩ = some (.int .i64 (P k 1)) ∧ w.cell? ⟨b, off + k * 3 + 2, none⟩ = some (.int .i64 (P k 2)) := by
  rcases h with h | ⟨b, off, h1, h2, h3⟩
  · omega
  · exact ⟨b, off, h1, h3 k hk 0 (by omega), h3 k hk 1 (by omega), h3 k hk 2 (by omega)⟩

theorem Tryd.infoU8 : (Tryd.prog.info? 5).map (fun i => (i.zero, i.size, i.bytes)) = some (some (.int .u8 0), 1, 1) := by kernel_rfl
theorem Tryd.infoSB : (Tryd.prog.info? 67).map (·.size) = some 2 := by kernel_rfl
theorem Tryd.liesSB : liesAt Tryd.prog Tryd.prog.depth 67 (2 / Tryd.prog.cellsOf 67) 0 67 1 = true := by kernel_rfl

set_option maxRecDepth 100000 in
/-- The builder's own look at its address. -/
theorem copyCheck_any (B b : Nat) (bs : List Value) (w : World) (h : Lib.IsBuilderF 67 5 B b bs w) :
    Calls Tryd.prog 55 #[.pointer (some ⟨b, 0, none⟩)] w fun e w' => e = .returned (.tuple #[]) ∧ Lib.BuilderAtF 67 5 B b (.pointer (some ⟨b, 0, none⟩)) bs w' ∧ Below B w w' ∧ w.heap.size ≤ w'.heap.size := by
  rcases h with h | h
  · have h0 := h.cell0
    have hsh := h.shape
    have hfz := h.frozen0
    have hu := h.used (.pointer (some ⟨b, 0, none⟩))
    have hb : Below B w (w.setCell ⟨b, 0, none⟩ (.pointer (some ⟨b, 0, none⟩))) := (Below.refl B w).setCell (p := ⟨b, 0, none⟩) h.1 _
    obtain ⟨j, hj, hjs⟩ := Option.map_eq_some_iff.1 Tryd.infoSB
    clear h
    go_enter Tryd.func55, Tryd.ntmps55
    go_wp2
    rw [Lib.run_to_unsafe w ⟨b, 0, none⟩ Tryd.underlying65 Tryd.underlying136 hj (by rw [hjs]; decide) hsh (Nat.zero_lt_succ 1)]
    simp only [Result.andThen]
    rw [Oper.upon_value]
    go_wp2
    rw [run_callFunc_extern Tryd.func66 (by kernel_rfl) (by kernel_rfl) (by kernel_rfl) (e := Extern.AbiNoEscape.same) (by kernel_rfl)]
    rw [Lib.run_noEscape]
    simp only [Result.andThen]
    rw [Oper.upon_value]
    go_wp2
    rw [Lib.run_from_unsafe w ⟨b, 0, none⟩ Tryd.underlying136 Tryd.underlying65 hj hsh Tryd.liesSB]
    simp only [Result.andThen]
    rw [Oper.upon_value]
    go_wp2
    go_end0
    exact ⟨rfl, hu, hb, by simp⟩
  · have h0 := h.cell0
    obtain ⟨j, hj, _⟩ := Option.map_eq_some_iff.1 Tryd.infoSB
    have H : Hid _ := h
    clear h
    go_enter Tryd.func55, Tryd.ntmps55
    go_wp2
    rw [Lib.run_neq_ptr_same w _ Tryd.underlying65 hj]
    go_wp2
    go_end0
    exact ⟨rfl, H.out, Below.refl B _, Nat.le_refl _⟩

set_option maxRecDepth 100000 in
set_option maxHeartbeats 1000000 in
/-- What is written stands behind what was there. -/
theorem writeString_any (B b : Nat) (bs : List Value) (s : ByteArray) (w : World) (h : Lib.IsBuilderF 67 5 B b bs w) (hlen : bs.length + s.size ≤ 1000000) (hBw : B ≤ w.heap.size) :
    Calls Tryd.prog 35 #[.pointer (some ⟨b, 0, none⟩), .string s] w fun e w' => ∃ v, e = .returned v ∧ Lib.IsBuilderF 67 5 B b (bs ++ Lib.strCells s) w' ∧ Below B w w' := by
  obtain ⟨i0, hi, hz0, hz1, hz2⟩ := info_parts Tryd.infoU8
  go_enter Tryd.func35, Tryd.ntmps35
  go_wp2_with fail
  refine (copyCheck_any B b bs _ h).mono ?_
  rintro e w1 ⟨rfl, h1, hb1, hz⟩
  obtain ⟨hB, v, hbk, hown, hne⟩ := h1
  have c0 : w1.cell? ⟨b, 0, none⟩ = some (.pointer (some ⟨b, 0, none⟩)) := by rw [Lib.cell_of_heap hbk]; rfl
  have c1 : w1.cell? ⟨b, 1, none⟩ = some v := by rw [Lib.cell_of_heap hbk]; rfl
  go_wp2_with (at_builtin; refine Lib.wpList_append_own_stringF _ rfl _ _ 63 9 rfl B 5 i0 Tryd.underlying63 Tryd.underlying9 hi hz0 hz1 hz2 _ _ _ rfl hown s rfl ?c3 ?c4 ?c5 ?_)
  case c3 => unfold maxLen; omega
  case c4 => omega
  case c5 => omega
  intro v' w2 hown' hgrow _
  have hlt : b < w1.heap.size := (Array.getElem?_eq_some_iff.1 hbk).1
  have hb2 : w2.heap[b]? = some (.cells #[.pointer (some ⟨b, 0, none⟩), v] 67 (0, 0)) := by
    rw [hgrow.block b hlt (fun e => hne e.symm)]
    exact hbk
  have d0 : w2.cell? ⟨b, 0, none⟩ = some (.pointer (some ⟨b, 0, none⟩)) := by rw [Lib.cell_of_heap hb2]; rfl
  have d1 : w2.cell? ⟨b, 1, none⟩ = some v := by rw [Lib.cell_of_heap hb2]; rfl
  have f1 : w2.frozen? ⟨b, 1, none⟩ = false := Lib.frozen_of_heap hb2 1
  obtain ⟨ao, n', cap, rfl⟩ : ∃ ao n' cap, v' = .slice ao n' cap := by
    rcases hown'.2 with ⟨hv, _⟩ | ⟨g, cap, cur, fz, hv, _⟩
    · exact ⟨_, _, _, hv⟩
    · exact ⟨_, _, _, hv⟩
  have F1 : Lib.BuilderAtF 67 5 B b (.pointer (some ⟨b, 0, none⟩)) (bs ++ Lib.strCells s) (w2.setCell ⟨b, 1, none⟩ (.slice ao n' cap)) := Lib.BuilderAtF.put (T := 67) (e := 5) hB hb2 (bs' := bs ++ Lib.strCells s) (by simpa [Lib.strCells_length] using hown') (by decide)
  have F2 : Below B w (w2.setCell ⟨b, 1, none⟩ (.slice ao n' cap)) := (hb1.grown hgrow (by omega) (fun k hk => (hown.lt k hk).1)).setCell (p := ⟨b, 1, none⟩) hB _
  clear hown' hgrow hb2 hown hbk
  go_wp2
  go_ret2
  exact ⟨_, rfl, .inr F1, F2⟩

theorem str_size (l : List UInt8) : (ByteArray.mk l.toArray).size = l.length := by
  show l.toArray.size = _
  simp

set_option maxRecDepth 100000 in
set_option maxHeartbeats 1000000 in
theorem lineOf_any (op f d : Int) (o1 : 1 ≤ op) (o2 : op ≤ 5) (f0 : 0 ≤ f) (f1 : f ≤ 1000000) (hd : d = 1 ∨ d = -1 ∨ d = 0) (w : World) (hL : Lay w) :
    Calls Tryd.prog 36 #[.agg #[.int .i64 op, .int .i64 f, .int .i64 d]] w fun e w' => e = .returned (.string ⟨(lineB op f d ++ [10]).toArray⟩) ∧ Below w.heap.size w w' := by
  obtain ⟨o, rfl⟩ : ∃ o : Nat, op = (o : Int) := ⟨op.toNat, by omega⟩
  obtain ⟨wb, hwb⟩ : ∃ wb, wordB (o : Int) = wb := ⟨_, rfl⟩
  obtain ⟨nb, hnb⟩ : ∃ nb, Lib.itoa f = nb := ⟨_, rfl⟩
  have lw : wb.length ≤ 5 := by rw [← hwb]; exact wordB_length _
  have ln : nb.length ≤ 21 := by rw [← hnb]; exact Lib.itoa_length_le f (by omega) (by omega)
  have ld := signB_length d
  obtain ⟨s1, hs1⟩ : ∃ s1, wb ++ [32] = s1 := ⟨_, rfl⟩
  obtain ⟨s2, hs2⟩ : ∃ s2, s1 ++ nb = s2 := ⟨_, rfl⟩
  obtain ⟨s3, hs3⟩ : ∃ s3, s2 ++ signB d = s3 := ⟨_, rfl⟩
  obtain ⟨s4, hs4⟩ : ∃ s4, s3 ++ [10] = s4 := ⟨_, rfl⟩
  have e0 : lineB (o : Int) f d ++ [10] = s4 := by rw [← hs4, ← hs3, ← hs2, ← hs1]; unfold lineB; rw [hwb, hnb]; simp
  have l1 : s1.length ≤ 6 := by rw [← hs1]; simp; omega
  have l2 : s2.length ≤ 27 := by rw [← hs2]; simp; omega
  have l3 : s3.length ≤ 29 := by rw [← hs3]; simp; omega
  obtain ⟨W, hW⟩ : ∃ W, w.alloc (.cells #[.int .i64 (o : Int), .int .i64 f, .int .i64 d] 51) = W := ⟨_, rfl⟩
  have bW : Below w.heap.size w W := by rw [← hW]; exact below_alloc (Below.refl _ _) _
  have c0 : W.cell? ⟨w.heap.size, 0, none⟩ = some (.int .i64 (o : Int)) := by rw [← hW]; simp
  have c1 : W.cell? ⟨w.heap.size, 1, none⟩ = some (.int .i64 f) := by rw [← hW]; simp
  have c2 : W.cell? ⟨w.heap.size, 2, none⟩ = some (.int .i64 d) := by rw [← hW]; simp
  have lW := hL.on bW
  have cw : W.cell? ⟨4, o, none⟩ = some (.string ⟨wb.toArray⟩) := by rw [← hwb]; exact lW.words o (by omega)
  have kc := fun dd os => Calls.regrown_of ((Tryd.strconv_Itoa f (by omega) (by omega) (Sort.grow (redrawn W dd) os) (lW.on (below_regrown W dd os)).pow).mono fun e w' ⟨h1, k, os', h2⟩ => ⟨h1, show Below (Sort.grow (redrawn W dd) os).heap.size (Sort.grow (redrawn W dd) os) w' by rw [h2]; exact Lib.below_grow _ _ (Nat.le_refl _) _ _⟩)
  rw [hnb] at kc
  have k0 := cell_regrown c0
  have k1 := cell_regrown c1
  have kw := cell_regrown cw
  have hw6 : (o : Int) < 6 := by omega
  have hadd1 : ∀ X : World, (Op.stringOp .add ⟨wb.toArray⟩ ⟨#[32]⟩).run Tryd.prog X = .ok (.string ⟨s1.toArray⟩) X := fun X => by rw [← hs1]; exact run_string_add_lists X wb [32] (by omega) (by simp)
  have hadd2 : ∀ X : World, (Op.stringOp .add ⟨s1.toArray⟩ ⟨nb.toArray⟩).run Tryd.prog X = .ok (.string ⟨s2.toArray⟩) X := fun X => by rw [← hs2]; exact run_string_add_lists X s1 nb (by omega) (by omega)
  have hadd4 : ∀ X : World, (Op.stringOp .add ⟨s3.toArray⟩ ⟨#[10]⟩).run Tryd.prog X = .ok (.string ⟨s4.toArray⟩) X := fun X => by rw [← hs4]; exact run_string_add_lists X s3 [10] (by omega) (by simp)
  rw [e0]
  have HW : Hid _ := hW
  have HS : Hid _ := hs3
  clear hW hwb hnb o2 e0 hs1 hs2 hs3 hs4 lW hL
  go_enter Tryd.func36, Tryd.ntmps36
  go_upto_region 1 with fail
  rw [HW.out]
  refine wp_region_quiet_below (by kernel_rfl) (by kernel_rfl) ?_
  repeat (go_big_quiet_step (first | with_reducible exact kc _ _))
  refine wpQuiet_nil ?_
  intro _ hw'
  obtain ⟨⟨dq, osq⟩, hw''⟩ := hw'
  have hBq := below_on bW (below_regrown W dq osq)
  have j2 := cell_regrown c2 dq osq
  subst hw''
  clear kc k0 k1 kw c0 c1 c2 cw HW bW
  generalize Sort.grow (redrawn W dq) osq = wq at *
  rcases hd with rfl | rfl | rfl
  · have hs : s2 ++ [32, 43] = s3 := HS.out
    have hadd3 : ∀ X : World, (Op.stringOp .add ⟨s2.toArray⟩ ⟨#[32, 43]⟩).run Tryd.prog X = .ok (.string ⟨s3.toArray⟩) X := fun X => by rw [← hs]; exact run_string_add_lists X s2 [32, 43] (by omega) (by simp)
    clear hs
    go_wp2
    go_ret
    exact ⟨rfl, hBq⟩
  · have hs : s2 ++ [32, 45] = s3 := HS.out
    have hadd3 : ∀ X : World, (Op.stringOp .add ⟨s2.toArray⟩ ⟨#[32, 45]⟩).run Tryd.prog X = .ok (.string ⟨s3.toArray⟩) X := fun X => by rw [← hs]; exact run_string_add_lists X s2 [32, 45] (by omega) (by simp)
    clear hs
    go_wp2
    go_ret
    exact ⟨rfl, hBq⟩
  · have hs : s2 ++ [] = s3 := HS.out
    rw [List.append_nil] at hs
    subst hs
    go_wp2
    go_ret
    exact ⟨rfl, hBq⟩

end Go.Proofs.YtlpopfhaephfaabDoor
