import Derived.Lib.ItoaLen
import Derived.Test.YtlpopfhaephfaaaGreatDoorEV2
import Derived.Lib.OthersKept
import Derived.Lib.ItoaNum
import Derived.Laws.IdiomStrings
import Derived.Laws.Concat
import Derived.Lib.SmallJoins
import Derived.Test.YtlpopfhaephfaaaGreatDoorShelf
import Derived.Test.YtlpopfhaephfaaaGreatDoorRE1
import Derived.Laws.LoneSync
import Derived.Lib.QuietBelow
import Derived.BigQuiet
import Derived.Deep.Cut
import Derived.OwnWalk
import Derived.Lib.FrozenHead
import Derived.Lib.AppendIntMem
import Derived.Lib.Split
import Derived.Lib.AtoiAll
import Derived.Maps.OwnSet
import Derived.Maps.Views
import Derived.Maps.OwnOps
import Derived.Test.YtlpopfhaephfaaaGreatDoorCR
import Derived.Test.YtlpopfhaephfaaaGreatDoorRC
import Derived.Deep.RegionWith
namespace Go.Proofs.YtlpopfhaephfaaaGreatDoor
open Go.RowKit

/-- What a text calls the events. -/
def wordB (op : Int) : List UInt8 :=
  if op = 1 then [112, 97, 115, 115] else if op = 2 then [103, 104, 111, 115, 116] else if op = 3 then [100, 101, 97, 100]
  else if op = 4 then [97, 108, 105, 118, 101] else if op = 5 then [114, 101, 115, 101, 116] else []

def signB (d : Int) : List UInt8 := if d = 1 then [32, 43] else if d = -1 then [32, 45] else []

/-- An event as a line, without its end. -/
def lineB (op f d : Int) : List UInt8 := wordB op ++ 32 :: (Lib.itoa f ++ signB d)

def linesB (P : Nat → Nat → Int) : Nat → List UInt8
  | 0 => []
  | k + 1 => linesB P k ++ (lineB (P k 0) (P k 1) (P k 2) ++ [10])

/-- The first k events are ones. -/
def evsB (S : Int) (n : Nat) (P : Nat → Nat → Int) : Nat → Bool
  | 0 => true
  | k + 1 => evsB S n P k && evB S n (P k 0) (P k 1) (P k 2)

/-- What is written. -/
def wrZ (S : Int) (n : Nat) (F T : Nat → Int) (P : Nat → Nat → Int) (m : Nat) : List UInt8 :=
  if (lokZ S n F T == 0 && decide (m ≤ 2000) && evsB S n P m && decide ((linesB P m).length ≤ 20000)) = true then linesB P m else []

theorem wordB_length (op : Int) : (wordB op).length ≤ 5 := by
  unfold wordB
  repeat' split
  all_goals simp

theorem signB_length (d : Int) : (signB d).length ≤ 2 := by
  unfold signB
  repeat' split
  all_goals simp

theorem lineB_length (op f d : Int) (h0 : 0 ≤ f) (h1 : f ≤ 9223372036854775807) : (lineB op f d).length ≤ 29 := by
  have a := wordB_length op
  have b := signB_length d
  have c := Lib.itoa_length_le f (by omega) h1
  unfold lineB
  simp only [List.length_append, List.length_cons]
  omega

theorem evB_range {S : Int} {n : Nat} {op f d : Int} (h : evB S n op f d = true) (hn : n ≤ 120) (hS : S ≤ 60) : (1 ≤ op ∧ op ≤ 5) ∧ (0 ≤ f ∧ f < 120) ∧ (d = 1 ∨ d = -1 ∨ d = 0) := by
  unfold evB at h
  repeat' split at h
  all_goals simp at h
  all_goals omega

theorem evsB_le {S : Int} {n : Nat} {P : Nat → Nat → Int} : ∀ {m : Nat}, evsB S n P m = true → ∀ i, i < m → evB S n (P i 0) (P i 1) (P i 2) = true
  | 0, _, i, hi => absurd hi (Nat.not_lt_zero i)
  | m + 1, h, i, hi => by
    simp only [evsB, Bool.and_eq_true] at h
    rcases Nat.lt_succ_iff_lt_or_eq.1 hi with hi | rfl
    · exact evsB_le h.1 i hi
    · exact h.2

theorem evsB_not {S : Int} {n : Nat} {P : Nat → Nat → Int} {i : Nat} (h : evB S n (P i 0) (P i 1) (P i 2) = false) : ∀ {m : Nat}, i < m → evsB S n P m = false
  | 0, hi => absurd hi (Nat.not_lt_zero i)
  | m + 1, hi => by
    simp only [evsB]
    rcases Nat.lt_succ_iff_lt_or_eq.1 hi with hi | rfl
    · rw [evsB_not h hi]; rfl
    · rw [h]; simp

theorem linesB_length {S : Int} {n : Nat} {P : Nat → Nat → Int} (hn : n ≤ 120) (hS : S ≤ 60) : ∀ {m : Nat}, evsB S n P m = true → (linesB P m).length ≤ 30 * m
  | 0, _ => by simp [linesB]
  | m + 1, h => by
    simp only [evsB, Bool.and_eq_true] at h
    have a := linesB_length hn hS h.1
    have b := evB_range h.2 hn hS
    have c := lineB_length (P m 0) (P m 1) (P m 2) b.2.1.1 (by omega)
    simp only [linesB, List.length_append, List.length_cons, List.length_nil]
    omega

end Go.Proofs.YtlpopfhaephfaaaGreatDoor

namespace Go.Proofs.YtlpopfhaephfaaaGreatDoor
open Go.RowKit

theorem builderAt_on {T e : TypeId} {B b : Nat} {p : Value} {bs : List Value} {w w' : World} (h : Lib.BuilderAtF T e B b p bs w) (hb : Below w.heap.size w w') : Lib.BuilderAtF T e B b p bs w' := by
  obtain ⟨hB, v, hbk, hown, hne⟩ := h
  have lt : ∀ {g : Nat} {o : Obj}, w.heap[g]? = some o → g < w.heap.size := fun h => (Array.getElem?_eq_some_iff.1 h).1
  refine ⟨hB, v, (hb.block b (lt hbk)).trans hbk, ⟨hown.1, ?_⟩, hne⟩
  rcases hown.2 with hn | ⟨g, cap, cur, fz, hv, hbg, hg, rest⟩
  · exact .inl hn
  · exact .inr ⟨g, cap, cur, fz, hv, hbg, (hb.block g (lt hg)).trans hg, rest⟩

theorem builder_on {T e : TypeId} {B b : Nat} {bs : List Value} {w w' : World} (h : Lib.IsBuilderF T e B b bs w) (hb : Below w.heap.size w w') : Lib.IsBuilderF T e B b bs w' :=
  h.elim (fun x => .inl (builderAt_on x hb)) (fun x => .inr (builderAt_on x hb))

theorem builder_lt {T e : TypeId} {B b : Nat} {bs : List Value} {w : World} (h : Lib.IsBuilderF T e B b bs w) : b < w.heap.size := by
  rcases h with ⟨_, v, hbk, _⟩ | ⟨_, v, hbk, _⟩ <;> exact (Array.getElem?_eq_some_iff.1 hbk).1

/-- The digits that are still to be laid. -/
def decD (u : Nat) : List UInt8 := if u = 0 then [] else Lib.decDigits u

theorem decD_step {u : Nat} (h : 0 < u) : decD u = decD (u / 10) ++ [UInt8.ofNat (48 + u % 10)] := by
  unfold decD
  rw [if_neg (by omega)]
  by_cases h1 : u < 10
  · rw [if_pos (by omega), Lib.decDigits_one h1, Nat.mod_eq_of_lt h1]
    rfl
  · rw [if_neg (by omega), Lib.decDigits, dif_neg h1]

theorem itoa_dec {u : Nat} (h : 0 < u) : Lib.itoa (u : Int) = decD u := by
  unfold Lib.itoa decD
  rw [if_neg (by omega), if_neg (by omega)]
  rfl

end Go.Proofs.YtlpopfhaephfaaaGreatDoor

namespace Go.Proofs.YtlpopfhaephfaaaGreatDoor
open Go.RowKit

/-- The words lie as they are laid, and the library's powers of ten. -/
structure Lay (w : World) : Prop where
  words : ∀ i, i < 6 → w.cell? ⟨0, i, none⟩ = some (.string ⟨(wordB (i : Int)).toArray⟩)
  pow : Lib.TabIs Tryz.prog w "internal/strconv.uint64pow10" .u64 Lib.pow10Tab

theorem Tryz.gPow : Tryz.prog.globalNamed "internal/strconv.uint64pow10" = some 1 := by kernel_rfl

theorem Lay.on {w w' : World} (h : Lay w) (hb : Below w.heap.size w w') : Lay w' :=
  ⟨fun i hi => by rw [hb.cell (block_lt_of_cell (h.words i hi))]; exact h.words i hi, Joins.tab_stays Tryz.gPow h.pow hb (Nat.le_refl _)⟩

theorem came3_of_row {w : World} {ge m : Nat} {P : Nat → Nat → Int} (h : Row w ge 47 3 m (evs P)) : Came3 w (some ⟨ge, 0, none⟩) m P :=
  .inr ⟨ge, 0, rfl, h.lt, fun i hi j hj => by rw [Nat.zero_add]; exact h.cell hi hj⟩

/-- The k-th event's three cells. -/
theorem Came3.cells {w : World} {ae : Option Addr} {m k : Nat} {P : Nat → Nat → Int} (h : Came3 w ae m P) (hk : k < m) : ∃ b off, ae = some ⟨b, off, none⟩ ∧ w.cell? ⟨b, off + k * 3, none⟩ = some (.int .i64 (P k 0)) ∧ w.cell? ⟨b, off + k * 3 + 1, none⟩ = some (.int .i64 (P k 1)) ∧ w.cell? ⟨b, off + k * 3 + 2, none⟩ = some (.int .i64 (P k 2)) := by
  rcases h with h | ⟨b, off, h1, h2, h3⟩
  · omega
  · exact ⟨b, off, h1, h3 k hk 0 (by omega), h3 k hk 1 (by omega), h3 k hk 2 (by omega)⟩

theorem Tryz.infoU8 : (Tryz.prog.info? 5).map (fun i => (i.zero, i.size, i.bytes)) = some (some (.int .u8 0), 1, 1) := by kernel_rfl
theorem Tryz.infoSB : (Tryz.prog.info? 45).map (·.size) = some 2 := by kernel_rfl
theorem Tryz.liesSB : liesAt Tryz.prog Tryz.prog.depth 45 (2 / Tryz.prog.cellsOf 45) 0 45 1 = true := by kernel_rfl

set_option maxRecDepth 100000 in
/-- The builder's own look at its address. -/
theorem copyCheck_any (B b : Nat) (bs : List Value) (w : World) (h : Lib.IsBuilderF 45 5 B b bs w) :
    Calls Tryz.prog 32 #[.pointer (some ⟨b, 0, none⟩)] w fun e w' => e = .returned (.tuple #[]) ∧ Lib.BuilderAtF 45 5 B b (.pointer (some ⟨b, 0, none⟩)) bs w' ∧ Below B w w' ∧ w.heap.size ≤ w'.heap.size := by
  rcases h with h | h
  · have h0 := h.cell0
    have hsh := h.shape
    have hfz := h.frozen0
    have hu := h.used (.pointer (some ⟨b, 0, none⟩))
    have hb : Below B w (w.setCell ⟨b, 0, none⟩ (.pointer (some ⟨b, 0, none⟩))) := (Below.refl B w).setCell (p := ⟨b, 0, none⟩) h.1 _
    obtain ⟨j, hj, hjs⟩ := Option.map_eq_some_iff.1 Tryz.infoSB
    clear h
    go_enter Tryz.func32, Tryz.ntmps32
    go_wp2
    rw [Lib.run_to_unsafe w ⟨b, 0, none⟩ Tryz.underlying43 Tryz.underlying113 hj (by rw [hjs]; decide) hsh (Nat.zero_lt_succ 1)]
    simp only [Result.andThen]
    rw [Oper.upon_value]
    go_wp2
    rw [run_callFunc_extern Tryz.func50 (by kernel_rfl) (by kernel_rfl) (by kernel_rfl) (e := Extern.AbiNoEscape.same) (by kernel_rfl)]
    rw [Lib.run_noEscape]
    simp only [Result.andThen]
    rw [Oper.upon_value]
    go_wp2
    rw [Lib.run_from_unsafe w ⟨b, 0, none⟩ Tryz.underlying113 Tryz.underlying43 hj hsh Tryz.liesSB]
    simp only [Result.andThen]
    rw [Oper.upon_value]
    go_wp2
    go_end0
    exact ⟨rfl, hu, hb, by simp⟩
  · have h0 := h.cell0
    obtain ⟨j, hj, _⟩ := Option.map_eq_some_iff.1 Tryz.infoSB
    have H : Hid _ := h
    clear h
    go_enter Tryz.func32, Tryz.ntmps32
    go_wp2
    rw [Lib.run_neq_ptr_same w _ Tryz.underlying43 hj]
    go_wp2
    go_end0
    exact ⟨rfl, H.out, Below.refl B _, Nat.le_refl _⟩

set_option maxRecDepth 100000 in
set_option maxHeartbeats 1000000 in
/-- What is written stands behind what was there. -/
theorem writeString_any (B b : Nat) (bs : List Value) (s : ByteArray) (w : World) (h : Lib.IsBuilderF 45 5 B b bs w) (hlen : bs.length + s.size ≤ 1000000) (hBw : B ≤ w.heap.size) :
    Calls Tryz.prog 15 #[.pointer (some ⟨b, 0, none⟩), .string s] w fun e w' => ∃ v, e = .returned v ∧ Lib.IsBuilderF 45 5 B b (bs ++ Lib.strCells s) w' ∧ Below B w w' := by
  obtain ⟨i0, hi, hz0, hz1, hz2⟩ := info_parts Tryz.infoU8
  go_enter Tryz.func15, Tryz.ntmps15
  go_wp2_with fail
  refine (copyCheck_any B b bs _ h).mono ?_
  rintro e w1 ⟨rfl, h1, hb1, hz⟩
  obtain ⟨hB, v, hbk, hown, hne⟩ := h1
  have c0 : w1.cell? ⟨b, 0, none⟩ = some (.pointer (some ⟨b, 0, none⟩)) := by rw [Lib.cell_of_heap hbk]; rfl
  have c1 : w1.cell? ⟨b, 1, none⟩ = some v := by rw [Lib.cell_of_heap hbk]; rfl
  go_wp2_with (at_builtin; refine Lib.wpList_append_own_stringF _ rfl _ _ 22 9 rfl B 5 i0 Tryz.underlying22 Tryz.underlying9 hi hz0 hz1 hz2 _ _ _ rfl hown s rfl ?c3 ?c4 ?c5 ?_)
  case c3 => unfold maxLen; omega
  case c4 => omega
  case c5 => omega
  intro v' w2 hown' hgrow _
  have hlt : b < w1.heap.size := (Array.getElem?_eq_some_iff.1 hbk).1
  have hb2 : w2.heap[b]? = some (.cells #[.pointer (some ⟨b, 0, none⟩), v] 45 (0, 0)) := by
    rw [hgrow.block b hlt (fun e => hne e.symm)]
    exact hbk
  have d0 : w2.cell? ⟨b, 0, none⟩ = some (.pointer (some ⟨b, 0, none⟩)) := by rw [Lib.cell_of_heap hb2]; rfl
  have d1 : w2.cell? ⟨b, 1, none⟩ = some v := by rw [Lib.cell_of_heap hb2]; rfl
  have f1 : w2.frozen? ⟨b, 1, none⟩ = false := Lib.frozen_of_heap hb2 1
  obtain ⟨ao, n', cap, rfl⟩ : ∃ ao n' cap, v' = .slice ao n' cap := by
    rcases hown'.2 with ⟨hv, _⟩ | ⟨g, cap, cur, fz, hv, _⟩
    · exact ⟨_, _, _, hv⟩
    · exact ⟨_, _, _, hv⟩
  have F1 : Lib.BuilderAtF 45 5 B b (.pointer (some ⟨b, 0, none⟩)) (bs ++ Lib.strCells s) (w2.setCell ⟨b, 1, none⟩ (.slice ao n' cap)) := Lib.BuilderAtF.put (T := 45) (e := 5) hB hb2 (bs' := bs ++ Lib.strCells s) (by simpa [Lib.strCells_length] using hown') (by decide)
  have F2 : Below B w (w2.setCell ⟨b, 1, none⟩ (.slice ao n' cap)) := (hb1.grown hgrow (by omega) (fun k hk => (hown.lt k hk).1)).setCell (p := ⟨b, 1, none⟩) hB _
  clear hown' hgrow hb2 hown hbk
  go_wp2
  go_ret2
  exact ⟨_, rfl, .inr F1, F2⟩

theorem str_size (l : List UInt8) : (ByteArray.mk l.toArray).size = l.length := by
  show l.toArray.size = _
  simp

set_option maxRecDepth 100000 in
set_option maxHeartbeats 1000000 in
theorem lineOf_any (op f d : Int) (o1 : 1 ≤ op) (o2 : op ≤ 5) (f0 : 0 ≤ f) (f1 : f ≤ 1000000) (hd : d = 1 ∨ d = -1 ∨ d = 0) (w : World) (hL : Lay w) :
    Calls Tryz.prog 16 #[.agg #[.int .i64 op, .int .i64 f, .int .i64 d]] w fun e w' => e = .returned (.string ⟨(lineB op f d ++ [10]).toArray⟩) ∧ Below w.heap.size w w' := by
  obtain ⟨o, rfl⟩ : ∃ o : Nat, op = (o : Int) := ⟨op.toNat, by omega⟩
  obtain ⟨wb, hwb⟩ : ∃ wb, wordB (o : Int) = wb := ⟨_, rfl⟩
  obtain ⟨nb, hnb⟩ : ∃ nb, Lib.itoa f = nb := ⟨_, rfl⟩
  have lw : wb.length ≤ 5 := by rw [← hwb]; exact wordB_length _
  have ln : nb.length ≤ 21 := by rw [← hnb]; exact Lib.itoa_length_le f (by omega) (by omega)
  have ld := signB_length d
  obtain ⟨s1, hs1⟩ : ∃ s1, wb ++ [32] = s1 := ⟨_, rfl⟩
  obtain ⟨s2, hs2⟩ : ∃ s2, s1 ++ nb = s2 := ⟨_, rfl⟩
  obtain ⟨s3, hs3⟩ : ∃ s3, s2 ++ signB d = s3 := ⟨_, rfl⟩
  obtain ⟨s4, hs4⟩ : ∃ s4, s3 ++ [10] = s4 := ⟨_, rfl⟩
  have e0 : lineB (o : Int) f d ++ [10] = s4 := by rw [← hs4, ← hs3, ← hs2, ← hs1]; unfold lineB; rw [hwb, hnb]; simp
  have l1 : s1.length ≤ 6 := by rw [← hs1]; simp; omega
  have l2 : s2.length ≤ 27 := by rw [← hs2]; simp; omega
  have l3 : s3.length ≤ 29 := by rw [← hs3]; simp; omega
  obtain ⟨W, hW⟩ : ∃ W, w.alloc (.cells #[.int .i64 (o : Int), .int .i64 f, .int .i64 d] 47) = W := ⟨_, rfl⟩
  have bW : Below w.heap.size w W := by rw [← hW]; exact below_alloc (Below.refl _ _) _
  have c0 : W.cell? ⟨w.heap.size, 0, none⟩ = some (.int .i64 (o : Int)) := by rw [← hW]; simp
  have c1 : W.cell? ⟨w.heap.size, 1, none⟩ = some (.int .i64 f) := by rw [← hW]; simp
  have c2 : W.cell? ⟨w.heap.size, 2, none⟩ = some (.int .i64 d) := by rw [← hW]; simp
  have lW := hL.on bW
  have cw : W.cell? ⟨0, o, none⟩ = some (.string ⟨wb.toArray⟩) := by rw [← hwb]; exact lW.words o (by omega)
  have kc := fun dd os => Calls.regrown_of ((Tryz.strconv_Itoa f (by omega) (by omega) (Sort.grow (redrawn W dd) os) (lW.on (below_regrown W dd os)).pow).mono fun e w' ⟨h1, k, os', h2⟩ => ⟨h1, show Below (Sort.grow (redrawn W dd) os).heap.size (Sort.grow (redrawn W dd) os) w' by rw [h2]; exact Lib.below_grow _ _ (Nat.le_refl _) _ _⟩)
  rw [hnb] at kc
  have k0 := cell_regrown c0
  have k1 := cell_regrown c1
  have kw := cell_regrown cw
  have hw6 : (o : Int) < 6 := by omega
  have hadd1 : ∀ X : World, (Op.stringOp .add ⟨wb.toArray⟩ ⟨#[32]⟩).run Tryz.prog X = .ok (.string ⟨s1.toArray⟩) X := fun X => by rw [← hs1]; exact run_string_add_lists X wb [32] (by omega) (by simp)
  have hadd2 : ∀ X : World, (Op.stringOp .add ⟨s1.toArray⟩ ⟨nb.toArray⟩).run Tryz.prog X = .ok (.string ⟨s2.toArray⟩) X := fun X => by rw [← hs2]; exact run_string_add_lists X s1 nb (by omega) (by omega)
  have hadd4 : ∀ X : World, (Op.stringOp .add ⟨s3.toArray⟩ ⟨#[10]⟩).run Tryz.prog X = .ok (.string ⟨s4.toArray⟩) X := fun X => by rw [← hs4]; exact run_string_add_lists X s3 [10] (by omega) (by simp)
  rw [e0]
  have HW : Hid _ := hW
  have HS : Hid _ := hs3
  clear hW hwb hnb o2 e0 hs1 hs2 hs3 hs4 lW hL
  go_enter Tryz.func16, Tryz.ntmps16
  go_upto_region 1 with fail
  rw [HW.out]
  refine wp_region_quiet_below (by kernel_rfl) (by kernel_rfl) ?_
  repeat (go_big_quiet_step (first | with_reducible exact kc _ _))
  refine wpQuiet_nil ?_
  intro _ hw'
  obtain ⟨⟨dq, osq⟩, hw''⟩ := hw'
  have hBq := below_on bW (below_regrown W dq osq)
  have j2 := cell_regrown c2 dq osq
  subst hw''
  clear kc k0 k1 kw c0 c1 c2 cw HW bW
  generalize Sort.grow (redrawn W dq) osq = wq at *
  rcases hd with rfl | rfl | rfl
  · have hs : s2 ++ [32, 43] = s3 := HS.out
    have hadd3 : ∀ X : World, (Op.stringOp .add ⟨s2.toArray⟩ ⟨#[32, 43]⟩).run Tryz.prog X = .ok (.string ⟨s3.toArray⟩) X := fun X => by rw [← hs]; exact run_string_add_lists X s2 [32, 43] (by omega) (by simp)
    clear hs
    go_wp2
    go_ret
    exact ⟨rfl, hBq⟩
  · have hs : s2 ++ [32, 45] = s3 := HS.out
    have hadd3 : ∀ X : World, (Op.stringOp .add ⟨s2.toArray⟩ ⟨#[32, 45]⟩).run Tryz.prog X = .ok (.string ⟨s3.toArray⟩) X := fun X => by rw [← hs]; exact run_string_add_lists X s2 [32, 45] (by omega) (by simp)
    clear hs
    go_wp2
    go_ret
    exact ⟨rfl, hBq⟩
  · have hs : s2 ++ [] = s3 := HS.out
    rw [List.append_nil] at hs
    subst hs
    go_wp2
    go_ret
    exact ⟨rfl, hBq⟩

end Go.Proofs.YtlpopfhaephfaaaGreatDoor

namespace Go.Proofs.YtlpopfhaephfaaaGreatDoor
open Go.RowKit

set_option maxRecDepth 100000 in
theorem l4decimal_any (n : Int) (h0 : 0 ≤ n) (h1 : n ≤ 1000000) (w : World) :
    Calls Tryz.prog 27 #[.int .i64 n] w fun e w' => e = .returned (.string ⟨(Lib.itoa n).toArray⟩) ∧ Below w.heap.size w w' := by
  rcases (show n = 0 ∨ 0 < n by omega) with rfl | hp
  · rw [show Lib.itoa 0 = [48] from by decide +kernel]
    go_enter Tryz.func27, Tryz.ntmps27
    go_wp2
    go_ret
    exact ⟨rfl, Below.refl _ _⟩
  · obtain ⟨u, rfl⟩ : ∃ u : Nat, n = (u : Int) := ⟨n.toNat, by omega⟩
    have hu : 0 < u := by omega
    have e0 : Lib.itoa (u : Int) = decD u := itoa_dec hu
    have hlen := Lib.itoa_length_le (u : Int) (by omega) (by omega)
    rw [e0] at hlen ⊢
    have n0 : ¬ ((u : Int) = 0) := by omega
    have n1 : ¬ ((u : Int) < 0) := by omega
    have hlen : Hid ((decD u).length ≤ 21) := hlen
    clear e0 hu hp h0
    go_enter Tryz.func27, Tryz.ntmps27
    go_wp2
    go_loopw [0, 4] (fun x o wr => ∃ (k : Nat) (l : List UInt8), x = .int .i64 (k : Int) ∧ o = .string ⟨l.toArray⟩ ∧ k ≤ u ∧ decD k ++ l = decD u ∧ Below w.heap.size w wr) (fun x _ _ => (intOf x).toNat)
    case atStart => exact ⟨u, [], rfl, rfl, Nat.le_refl _, by simp, Below.refl _ _⟩
    case round =>
      obtain ⟨k, l, rfl, rfl, hk, hl, hb⟩ := hrel
      rename World => wr
      have hll : l.length ≤ 21 := by have := congrArg List.length hl; have := hlen.out; simp at *; omega
      rcases Nat.eq_zero_or_pos k with rfl | hkp
      · have hz : ¬ (0 : Int) < 0 := by omega
        have hl : Hid _ := hl
        go_wp2
        go_ret
        have e1 := hl.out
        simp only [decD, if_true, List.nil_append] at e1
        exact ⟨by rw [e1]; rfl, hb⟩
      · have hz : (0 : Int) < (k : Int) := by omega
        obtain ⟨c, hc⟩ : ∃ c, UInt8.ofNat (48 + k % 10) = c := ⟨_, rfl⟩
        have hcn : (c.toNat : Int) = 48 + (k : Int) % 10 := by
          rw [← hc, UInt8.toNat_ofNat']
          omega
        have hcv : (convert 22 9 (.slice (some ⟨wr.heap.size, 0, none⟩) 1 1)).run Tryz.prog (wr.alloc (.cells #[.int .u8 (48 + (k : Int) % 10)] 5)) = .ok (.string ⟨[c].toArray⟩) (wr.alloc (.cells #[.int .u8 (48 + (k : Int) % 10)] 5)) :=
          run_convert_bytes_back _ _ _ 5 ⟨wr.heap.size, 0, none⟩ 1 [c] Tryz.underlying22 Tryz.underlying5 Tryz.underlying9 (fun j hj => by
            obtain rfl : j = 0 := by simpa using hj
            show (wr.alloc _).cell? ⟨wr.heap.size, 0 + 0, none⟩ = _
            simp [hcn])
        have hadd : ∀ W : World, (Op.stringOp .add ⟨[c].toArray⟩ ⟨l.toArray⟩).run Tryz.prog W = .ok (.string ⟨(c :: l).toArray⟩) W := fun W => run_string_add_lists W [c] l (by simp) (by omega)
        have hl2 : Hid (decD (k / 10) ++ c :: l = decD u) := by
          have := decD_step hkp
          rw [this, List.append_assoc, hc] at hl
          exact hl
        have hbb : Below w.heap.size w (wr.alloc (.cells #[.int .u8 (48 + (k : Int) % 10)] 5)) := below_alloc hb _
        clear hl hc hcn
        go_wp2
        exact ⟨⟨k / 10, c :: l, by simp, rfl, by omega, hl2.out, hbb⟩, by simp [intOf]; omega⟩

/-- The words' cells. -/
def wordsA : Array Value := #[.string ⟨#[]⟩, .string ⟨#[112, 97, 115, 115]⟩, .string ⟨#[103, 104, 111, 115, 116]⟩, .string ⟨#[100, 101, 97, 100]⟩, .string ⟨#[97, 108, 105, 118, 101]⟩, .string ⟨#[114, 101, 115, 101, 116]⟩]

theorem wordsA_at {o : Nat} (h : o < 6) : wordsA[o]? = some (.string ⟨(wordB (o : Int)).toArray⟩) := by
  rcases (show o = 0 ∨ o = 1 ∨ o = 2 ∨ o = 3 ∨ o = 4 ∨ o = 5 by omega) with rfl | rfl | rfl | rfl | rfl | rfl <;> rfl

theorem l4words_any (w : World) : Calls Tryz.prog 39 #[] w fun e w' => e = .returned (.slice (some ⟨w.heap.size, 0, none⟩) 6 6) ∧ w' = w.alloc (.cells wordsA 9) := by
  go_enter Tryz.func39, Tryz.ntmps39
  go_wp2
  go_ret
  exact ⟨rfl, rfl⟩

set_option maxRecDepth 100000 in
set_option maxHeartbeats 1000000 in
theorem l4line_any (op f d : Int) (o1 : 1 ≤ op) (o2 : op ≤ 5) (f0 : 0 ≤ f) (f1 : f ≤ 1000000) (hd : d = 1 ∨ d = -1 ∨ d = 0) (w : World) :
    Calls Tryz.prog 22 #[.agg #[.int .i64 op, .int .i64 f, .int .i64 d]] w fun e w' => e = .returned (.string ⟨(lineB op f d).toArray⟩) ∧ Below w.heap.size w w' := by
  obtain ⟨o, rfl⟩ : ∃ o : Nat, op = (o : Int) := ⟨op.toNat, by omega⟩
  obtain ⟨wb, hwb⟩ : ∃ wb, wordB (o : Int) = wb := ⟨_, rfl⟩
  obtain ⟨nb, hnb⟩ : ∃ nb, Lib.itoa f = nb := ⟨_, rfl⟩
  have lw : wb.length ≤ 5 := by rw [← hwb]; exact wordB_length _
  have ln : nb.length ≤ 21 := by rw [← hnb]; exact Lib.itoa_length_le f (by omega) (by omega)
  obtain ⟨s1, hs1⟩ : ∃ s1, wb ++ [32] = s1 := ⟨_, rfl⟩
  obtain ⟨s2, hs2⟩ : ∃ s2, s1 ++ nb = s2 := ⟨_, rfl⟩
  obtain ⟨s3, hs3⟩ : ∃ s3, s2 ++ signB d = s3 := ⟨_, rfl⟩
  have e0 : lineB (o : Int) f d = s3 := by rw [← hs3, ← hs2, ← hs1]; unfold lineB; rw [hwb, hnb]; simp
  have l1 : s1.length ≤ 6 := by rw [← hs1]; simp; omega
  have l2 : s2.length ≤ 27 := by rw [← hs2]; simp; omega
  obtain ⟨W, hW⟩ : ∃ W, (w.alloc (.cells #[.int .i64 (o : Int), .int .i64 f, .int .i64 d] 47)).alloc (.cells wordsA 9) = W := ⟨_, rfl⟩
  have bW : Below w.heap.size w W := by rw [← hW]; exact below_alloc (below_alloc (Below.refl _ _) _) _
  have c0 : W.cell? ⟨w.heap.size, 0, none⟩ = some (.int .i64 (o : Int)) := by rw [← hW]; simp
  have c1 : W.cell? ⟨w.heap.size, 1, none⟩ = some (.int .i64 f) := by rw [← hW]; simp
  have c2 : W.cell? ⟨w.heap.size, 2, none⟩ = some (.int .i64 d) := by rw [← hW]; simp
  have cw : W.cell? ⟨w.heap.size + 1, o, none⟩ = some (.string ⟨wb.toArray⟩) := by
    rw [← hW, ← hwb]
    have := wordsA_at (o := o) (by omega)
    simp [this]
  have kc := fun dd os => Calls.regrown_of (l4decimal_any f f0 f1 (Sort.grow (redrawn W dd) os))
  rw [hnb] at kc
  have k0 := cell_regrown c0
  have k1 := cell_regrown c1
  have kw := cell_regrown cw
  have hw6 : (o : Int) < 6 := by omega
  have hadd1 : ∀ X : World, (Op.stringOp .add ⟨wb.toArray⟩ ⟨#[32]⟩).run Tryz.prog X = .ok (.string ⟨s1.toArray⟩) X := fun X => by rw [← hs1]; exact run_string_add_lists X wb [32] (by omega) (by simp)
  have hadd2 : ∀ X : World, (Op.stringOp .add ⟨s1.toArray⟩ ⟨nb.toArray⟩).run Tryz.prog X = .ok (.string ⟨s2.toArray⟩) X := fun X => by rw [← hs2]; exact run_string_add_lists X s1 nb (by omega) (by omega)
  rw [e0]
  have HW : Hid _ := hW
  have HS : Hid _ := hs3
  clear hW hwb hnb o2 e0 hs1 hs2 hs3
  go_enter Tryz.func22, Tryz.ntmps22
  go_wp2_with fail
  refine (l4words_any _).mono ?_
  rintro e w1 ⟨rfl, rfl⟩
  go_upto_region 2 with fail
  rw [HW.out]
  refine wp_region_quiet_below (by kernel_rfl) (by kernel_rfl) ?_
  repeat (go_big_quiet_step (first | with_reducible exact kc _ _))
  refine wpQuiet_nil ?_
  intro _ hw'
  obtain ⟨⟨dq, osq⟩, hw''⟩ := hw'
  have hBq := below_on bW (below_regrown W dq osq)
  have j2 := cell_regrown c2 dq osq
  subst hw''
  clear kc k0 k1 kw c0 c1 c2 cw HW bW
  generalize Sort.grow (redrawn W dq) osq = wq at *
  rcases hd with rfl | rfl | rfl
  · have hs : s2 ++ [32, 43] = s3 := HS.out
    have hadd3 : ∀ X : World, (Op.stringOp .add ⟨s2.toArray⟩ ⟨#[32, 43]⟩).run Tryz.prog X = .ok (.string ⟨s3.toArray⟩) X := fun X => by rw [← hs]; exact run_string_add_lists X s2 [32, 43] (by omega) (by simp)
    clear hs
    go_wp2
    go_ret
    exact ⟨rfl, hBq⟩
  · have hs : s2 ++ [32, 45] = s3 := HS.out
    have hadd3 : ∀ X : World, (Op.stringOp .add ⟨s2.toArray⟩ ⟨#[32, 45]⟩).run Tryz.prog X = .ok (.string ⟨s3.toArray⟩) X := fun X => by rw [← hs]; exact run_string_add_lists X s2 [32, 45] (by omega) (by simp)
    clear hs
    go_wp2
    go_ret
    exact ⟨rfl, hBq⟩
  · have hs : s2 ++ [] = s3 := HS.out
    rw [List.append_nil] at hs
    subst hs
    go_wp2
    go_ret
    exact ⟨rfl, hBq⟩

end Go.Proofs.YtlpopfhaephfaaaGreatDoor

namespace Go.Proofs.YtlpopfhaephfaaaGreatDoor
open Go.RowKit

/-! ## a text cut at the blanks -/

theorem index_cons1 (c : UInt8) : ∀ (p q : List UInt8), c ∉ p → Lib.index (p ++ c :: q) [c] = (p.length : Int) := by
  intro p q hp
  refine Lib.index_first (by simp) ?_ ?_
  · simp [Lib.occAt]
  · intro j hj
    cases h : Lib.occAt (p ++ c :: q) [c] j with
    | false => rfl
    | true =>
      have h2 := Lib.occAt_head rfl h
      rw [List.getElem?_append_left hj] at h2
      exact absurd (List.mem_of_getElem? h2) hp

theorem index_none1 (c : UInt8) (p : List UInt8) (hp : c ∉ p) : Lib.index p [c] = -1 := by
  refine Lib.index_none fun j hj => ?_
  cases h : Lib.occAt p [c] j with
  | false => rfl
  | true => exact absurd (List.mem_of_getElem? (Lib.occAt_head rfl h)) hp

theorem split_none1 (c : UInt8) (p : List UInt8) (hp : c ∉ p) : Lib.split p [c] = [p] := by
  unfold Lib.split
  rw [Lib.count_miss (index_none1 c p hp)]
  rfl

theorem split_cons1 (c : UInt8) (p q : List UInt8) (hp : c ∉ p) : Lib.split (p ++ c :: q) [c] = p :: Lib.split q [c] := by
  have hi := index_cons1 c p q hp
  have hd : (p ++ c :: q).drop (p.length + 1) = q := by
    rw [List.drop_append]; simp [show p.length + 1 - p.length = 1 by omega]
  unfold Lib.split
  rw [Lib.count_hit (by simp) hi, Nat.add_comm, Lib.splitK, hi]
  rw [if_neg (by simp)]
  simp only [List.length_cons, List.length_nil, Int.toNat_natCast, Nat.zero_add, Nat.add_zero]
  rw [hd]
  simp

theorem mem_parts (c : UInt8) : ∀ (l : List UInt8), c ∈ l → ∃ p q, l = p ++ c :: q ∧ c ∉ p
  | [], h => by simp at h
  | x :: r, h => by
    by_cases hx : c = x
    · exact ⟨[], r, by simp [hx], by simp⟩
    · obtain ⟨p, q, e, hp⟩ := mem_parts c r (by simpa [hx] using h)
      exact ⟨x :: p, q, by simp [e], by simp [hx, hp]⟩

/-- What the pieces are. -/
theorem split_two (c : UInt8) (l a b : List UInt8) (h : Lib.split l [c] = [a, b]) : l = a ++ c :: b := by
  by_cases h1 : c ∈ l
  · obtain ⟨p, q, rfl, hp⟩ := mem_parts c l h1
    rw [split_cons1 c p q hp] at h
    injection h with h2 h3
    by_cases h4 : c ∈ q
    · obtain ⟨p2, q2, rfl, hp2⟩ := mem_parts c q h4
      rw [split_cons1 c p2 q2 hp2] at h3
      injection h3 with _ h5
      by_cases h6 : c ∈ q2
      · obtain ⟨p3, q3, rfl, hp3⟩ := mem_parts c q2 h6
        rw [split_cons1 c p3 q3 hp3] at h5; cases h5
      · rw [split_none1 c q2 h6] at h5; cases h5
    · rw [split_none1 c q h4] at h3
      injection h3 with h3 _
      rw [h2, h3]
  · rw [split_none1 c l h1] at h; simp at h

theorem split_three (c : UInt8) (l a b d : List UInt8) (h : Lib.split l [c] = [a, b, d]) : l = a ++ c :: (b ++ c :: d) := by
  by_cases h1 : c ∈ l
  · obtain ⟨p, q, rfl, hp⟩ := mem_parts c l h1
    rw [split_cons1 c p q hp] at h
    injection h with h2 h3
    rw [h2, split_two c q b d h3]
  · rw [split_none1 c l h1] at h; simp at h

/-! ## words, numbers, signs -/

def opB (w : List UInt8) : Option Int :=
  if w = [112, 97, 115, 115] then some 1 else if w = [103, 104, 111, 115, 116] then some 2 else if w = [100, 101, 97, 100] then some 3
  else if w = [97, 108, 105, 118, 101] then some 4 else if w = [114, 101, 115, 101, 116] then some 5 else none

def dirB (w : List UInt8) : Option Int := if w = [43] then some 1 else if w = [45] then some (-1) else none

def numB (d : List UInt8) : Option Int :=
  match Lib.atoiAll d with
  | .ok v => if Lib.itoa v = d then some v else none
  | _ => none

/-- The event of a line as it is read. -/
def parB (S : Int) (n : Nat) (line : List UInt8) : Option (Int × Int × Int) :=
  match Lib.split line [32] with
  | [a, b] =>
    match opB a, numB b with
    | some op, some f => if evB S n op f 0 = true then some (op, f, 0) else none
    | _, _ => none
  | [a, b, c] =>
    match opB a, numB b, dirB c with
    | some op, some f, some d => if evB S n op f d = true then some (op, f, d) else none
    | _, _, _ => none
  | _ => none

theorem opB_word {op : Int} (h1 : 1 ≤ op) (h2 : op ≤ 5) : opB (wordB op) = some op ∧ 32 ∉ wordB op := by
  rcases (show op = 1 ∨ op = 2 ∨ op = 3 ∨ op = 4 ∨ op = 5 by omega) with rfl | rfl | rfl | rfl | rfl <;> decide

theorem opB_some {w : List UInt8} {op : Int} (h : opB w = some op) : wordB op = w := by
  unfold opB at h
  repeat' split at h
  all_goals first | cases h | skip
  all_goals
    rename_i e
    rw [e]
    decide

theorem dirB_some {w : List UInt8} {d : Int} (h : dirB w = some d) : signB d = 32 :: w ∧ (d = 1 ∨ d = -1) := by
  unfold dirB at h
  repeat' split at h
  all_goals first | cases h | skip
  all_goals
    rename_i e
    rw [e]
    decide

theorem numB_some {d : List UInt8} {f : Int} (h : numB d = some f) : Lib.itoa f = d := by
  unfold numB at h
  split at h
  · split at h
    · rename_i e; injection h with h; rw [← h]; exact e
    · cases h
  · cases h

theorem digs (k : Fin 120) : (Lib.atoiAll (Lib.decDigits k.val) = .ok (k.val : Int)) ∧ 32 ∉ Lib.decDigits k.val := by
  revert k
  decide +kernel

theorem numB_itoa {f : Int} (h0 : 0 ≤ f) (h1 : f < 120) : numB (Lib.itoa f) = some f ∧ 32 ∉ Lib.itoa f := by
  have e : Lib.itoa f = Lib.decDigits f.toNat := by unfold Lib.itoa; rw [if_neg (by omega)]
  have k := digs ⟨f.toNat, by omega⟩
  simp only at k
  rw [Int.toNat_of_nonneg h0] at k
  refine ⟨?_, by rw [e]; exact k.2⟩
  unfold numB
  rw [e, k.1]
  simp [e]

/-- A written line reads as its event. -/
theorem parB_line {S : Int} {n : Nat} {op f d : Int} (h : evB S n op f d = true) (hn : n ≤ 120) (hS : S ≤ 60) : parB S n (lineB op f d) = some (op, f, d) := by
  obtain ⟨⟨o1, o2⟩, ⟨f1, f2⟩, hd⟩ := evB_range h hn hS
  obtain ⟨w1, w2⟩ := opB_word o1 o2
  obtain ⟨n1, n2⟩ := numB_itoa f1 f2
  unfold parB lineB
  rw [split_cons1 _ _ _ w2]
  rcases hd with rfl | rfl | rfl
  · rw [show signB 1 = 32 :: [43] from by decide, split_cons1 _ _ _ n2, show Lib.split [43] [32] = [[43]] from split_none1 _ _ (by decide)]
    simp only [w1, n1, show dirB [43] = some 1 from by decide, h, if_true]
  · rw [show signB (-1) = 32 :: [45] from by decide, split_cons1 _ _ _ n2, show Lib.split [45] [32] = [[45]] from split_none1 _ _ (by decide)]
    simp only [w1, n1, show dirB [45] = some (-1) from by decide, h, if_true]
  · rw [show signB 0 = [] from by decide, List.append_nil, split_none1 _ _ n2]
    simp only [w1, n1, h, if_true]

/-- What is read would be written so. -/
theorem parB_some {S : Int} {n : Nat} {line : List UInt8} {op f d : Int} (h : parB S n line = some (op, f, d)) : evB S n op f d = true ∧ lineB op f d = line := by
  unfold parB at h
  split at h
  · rename_i a b e
    split at h
    · rename_i h1 h2
      split at h
      · rename_i h3
        injection h with h
        injection h with e1 h
        injection h with e2 e3
        subst e1 e2 e3
        refine ⟨h3, ?_⟩
        rw [split_two _ _ _ _ e]
        unfold lineB
        rw [opB_some h1, numB_some h2, show signB 0 = [] from by decide, List.append_nil]
      · cases h
    · cases h
  · rename_i a b c e
    split at h
    · rename_i h1 h2 h4
      split at h
      · rename_i h3
        injection h with h
        injection h with e1 h
        injection h with e2 e3
        subst e1 e2 e3
        refine ⟨h3, ?_⟩
        rw [split_three _ _ _ _ _ e]
        unfold lineB
        rw [opB_some h1, numB_some h2, (dirB_some h4).1]
      · cases h
    · cases h
  · cases h

end Go.Proofs.YtlpopfhaephfaaaGreatDoor

namespace Go.Proofs.YtlpopfhaephfaaaGreatDoor
open Go.RowKit

/-! ## a text line by line -/

theorem cut_hit1 (c : UInt8) (p q : List UInt8) (hp : c ∉ p) : Lib.cut (p ++ c :: q) [c] = (p, q, true) := by
  have hi := index_cons1 c p q hp
  have hd : (p ++ c :: q).drop (p.length + 1) = q := by
    rw [List.drop_append]; simp [show p.length + 1 - p.length = 1 by omega]
  unfold Lib.cut
  rw [hi, if_pos (by omega)]
  simp only [List.length_cons, List.length_nil, Int.toNat_natCast, Nat.zero_add, hd, List.take_left']

theorem cut_miss1 (c : UInt8) (p : List UInt8) (hp : c ∉ p) : Lib.cut p [c] = (p, [], false) := by
  unfold Lib.cut
  rw [index_none1 c p hp, if_neg (by omega)]

/-- The events of a text, or the number of the line at which it goes wrong. -/
def rdL (S : Int) (n : Nat) : Nat → List UInt8 → List (Int × Int × Int) → Nat ⊕ List (Int × Int × Int)
  | 0, _, acc => .inl (acc.length + 1)
  | k + 1, rest, acc =>
    if rest = [] then .inr acc
    else if (Lib.cut rest [10]).2.2 = true ∧ acc.length < 2000 then
      match parB S n (Lib.cut rest [10]).1 with
      | some e => rdL S n k (Lib.cut rest [10]).2.1 (acc ++ [e])
      | none => .inl (acc.length + 1)
    else .inl (acc.length + 1)

/-- What is left to be read ends as the whole does. -/
def RdTo (S : Int) (n : Nat) (rest : List UInt8) (acc : List (Int × Int × Int)) (Z : Nat ⊕ List (Int × Int × Int)) : Prop := ∃ k, rest.length < k ∧ rdL S n k rest acc = Z

theorem RdTo.nil {S : Int} {n : Nat} {acc : List (Int × Int × Int)} {Z : Nat ⊕ List (Int × Int × Int)} (h : RdTo S n [] acc Z) : Z = .inr acc := by
  obtain ⟨k, hk, rfl⟩ := h
  cases k with
  | zero => simp at hk
  | succ k => simp [rdL]

theorem RdTo.open {S : Int} {n : Nat} {rest : List UInt8} {acc : List (Int × Int × Int)} {Z : Nat ⊕ List (Int × Int × Int)} (h : RdTo S n rest acc Z) (h0 : rest ≠ []) (h1 : 10 ∉ rest) : Z = .inl (acc.length + 1) := by
  obtain ⟨k, hk, rfl⟩ := h
  cases k with
  | zero => simp at hk
  | succ k => simp [rdL, h0, cut_miss1 10 rest h1]

theorem RdTo.many {S : Int} {n : Nat} {rest : List UInt8} {acc : List (Int × Int × Int)} {Z : Nat ⊕ List (Int × Int × Int)} (h : RdTo S n rest acc Z) (h0 : rest ≠ []) (h1 : 2000 ≤ acc.length) : Z = .inl (acc.length + 1) := by
  obtain ⟨k, hk, rfl⟩ := h
  cases k with
  | zero => simp at hk
  | succ k => simp [rdL, h0, show ¬ acc.length < 2000 by omega]

theorem RdTo.bad {S : Int} {n : Nat} {p q : List UInt8} {acc : List (Int × Int × Int)} {Z : Nat ⊕ List (Int × Int × Int)} (h : RdTo S n (p ++ 10 :: q) acc Z) (h1 : 10 ∉ p) (h2 : parB S n p = none) : Z = .inl (acc.length + 1) := by
  obtain ⟨k, hk, rfl⟩ := h
  cases k with
  | zero => simp at hk
  | succ k =>
    simp only [rdL, cut_hit1 10 p q h1, h2]
    simp

theorem RdTo.step {S : Int} {n : Nat} {p q : List UInt8} {acc : List (Int × Int × Int)} {Z : Nat ⊕ List (Int × Int × Int)} {e : Int × Int × Int} (h : RdTo S n (p ++ 10 :: q) acc Z) (h1 : 10 ∉ p) (h2 : parB S n p = some e) (h3 : acc.length < 2000) : RdTo S n q (acc ++ [e]) Z := by
  obtain ⟨k, hk, rfl⟩ := h
  cases k with
  | zero => simp at hk
  | succ k =>
    refine ⟨k, by simp at hk; omega, ?_⟩
    simp only [rdL, cut_hit1 10 p q h1, h2, h3]
    simp

/-- The events of a list as rows of three. -/
def evT (l : List (Int × Int × Int)) (i j : Nat) : Int :=
  match l[i]? with
  | some (a, b, c) => if j = 0 then a else if j = 1 then b else c
  | none => 0

theorem evT_old {l : List (Int × Int × Int)} {e : Int × Int × Int} {i : Nat} (j : Nat) (h : i < l.length) : evT (l ++ [e]) i j = evT l i j := by
  unfold evT; rw [List.getElem?_append_left h]

theorem evT_new (l : List (Int × Int × Int)) (a b c : Int) : evT (l ++ [(a, b, c)]) l.length 0 = a ∧ evT (l ++ [(a, b, c)]) l.length 1 = b ∧ evT (l ++ [(a, b, c)]) l.length 2 = c := by
  unfold evT; simp

/-- What is read of a text over a layout. -/
def rdZ (S : Int) (n : Nat) (F T : Nat → Int) (t : List UInt8) : Int × Nat × List (Int × Int × Int) :=
  if lokZ S n F T = 0 then
    if t.length ≤ 20000 then
      match rdL S n (t.length + 1) t [] with
      | .inl k => (3, k, [])
      | .inr l => (0, 0, l)
    else (2, 0, [])
  else (1, 0, [])

end Go.Proofs.YtlpopfhaephfaaaGreatDoor

namespace Go.Proofs.YtlpopfhaephfaaaGreatDoor
open Go.RowKit

/-! ## what is written is read back -/

def linesF (P : Nat → Nat → Int) : Nat → Nat → List UInt8
  | _, 0 => []
  | k, j + 1 => lineB (P k 0) (P k 1) (P k 2) ++ 10 :: linesF P (k + 1) j

theorem linesB_split (P : Nat → Nat → Int) : ∀ (j k : Nat), linesB P (k + j) = linesB P k ++ linesF P k j
  | 0, k => by simp [linesF]
  | j + 1, k => by
    rw [show k + (j + 1) = (k + 1) + j by omega, linesB_split P j (k + 1)]
    simp [linesB, linesF]

/-- The first k events as a list. -/
def evTo (P : Nat → Nat → Int) (k : Nat) : List (Int × Int × Int) := (List.range k).map fun i => (P i 0, P i 1, P i 2)

theorem evTo_length (P : Nat → Nat → Int) (k : Nat) : (evTo P k).length = k := by simp [evTo]

theorem evTo_succ (P : Nat → Nat → Int) (k : Nat) : evTo P (k + 1) = evTo P k ++ [(P k 0, P k 1, P k 2)] := by simp [evTo, List.range_succ]

theorem digs10 (k : Fin 120) : 10 ∉ Lib.decDigits k.val := by
  revert k
  decide +kernel

theorem line_no10 {S : Int} {n : Nat} {op f d : Int} (h : evB S n op f d = true) (hn : n ≤ 120) (hS : S ≤ 60) : 10 ∉ lineB op f d := by
  obtain ⟨⟨o1, o2⟩, ⟨f1, f2⟩, hd⟩ := evB_range h hn hS
  have e : Lib.itoa f = Lib.decDigits f.toNat := by unfold Lib.itoa; rw [if_neg (by omega)]
  have k := digs10 ⟨f.toNat, by omega⟩
  simp only at k
  have hw : 10 ∉ wordB op := by
    rcases (show op = 1 ∨ op = 2 ∨ op = 3 ∨ op = 4 ∨ op = 5 by omega) with rfl | rfl | rfl | rfl | rfl <;> decide
  have hs : 10 ∉ signB d := by
    rcases hd with rfl | rfl | rfl <;> decide
  unfold lineB
  rw [e]
  simp only [List.mem_append, List.mem_cons, not_or]
  exact ⟨hw, by decide, k, hs⟩

theorem rd_lines {S : Int} {n : Nat} {P : Nat → Nat → Int} {m : Nat} (hn : n ≤ 120) (hS : S ≤ 60) (he : evsB S n P m = true) (hm : m ≤ 2000) {Z : Nat ⊕ List (Int × Int × Int)} :
    ∀ (j k : Nat), k + j = m → RdTo S n (linesF P k j) (evTo P k) Z → Z = .inr (evTo P m)
  | 0, k, hk, h => by
    simp only [linesF] at h
    have := h.nil
    rw [← hk]
    simpa using this
  | j + 1, k, hk, h => by
    have hev := evsB_le he k (by omega)
    simp only [linesF] at h
    have h2 := h.step (line_no10 hev hn hS) (parB_line hev hn hS) (by rw [evTo_length]; omega)
    rw [← evTo_succ] at h2
    exact rd_lines hn hS he hm j (k + 1) (by omega) h2

/-- What was written reads as what was written. -/
theorem rd_wr {S : Int} {n : Nat} {P : Nat → Nat → Int} {m : Nat} (hn : n ≤ 120) (hS : S ≤ 60) (he : evsB S n P m = true) (hm : m ≤ 2000) :
    rdL S n ((linesB P m).length + 1) (linesB P m) [] = .inr (evTo P m) := by
  refine rd_lines hn hS he hm m 0 (by omega) ⟨(linesB P m).length + 1, ?_, ?_⟩
  · have := linesB_split P m 0
    simp only [Nat.zero_add, linesB, List.nil_append] at this
    rw [this]; omega
  · have := linesB_split P m 0
    simp only [Nat.zero_add, linesB, List.nil_append] at this
    rw [← this]
    rfl

end Go.Proofs.YtlpopfhaephfaaaGreatDoor

namespace Go.Proofs.YtlpopfhaephfaaaGreatDoor
open Go.RowKit Go.Maps

/-! ## maps of words -/

/-- Block b is a map that knows just the words of f. -/
def Knows (w : World) (b : Nat) (f : List UInt8 → Option Int) : Prop :=
  ∃ n D, n ≤ 5 ∧ w.ownsMap Tryz.prog 9 (plainElem (H := Unit) Tryz.prog 3) b n D ∧ ∀ s, Maps.has D (.string s) = (f s).isSome ∧ ∀ c, f s = some c → D.atKey (.string s) (.lit (.int .i64 0)) = .lit (.int .i64 c)

theorem Knows.on {w w' : World} {b : Nat} {f : List UInt8 → Option Int} (h : Knows w b f) (hb : Below w.heap.size w w') : Knows w' b f := by
  obtain ⟨n, D, hn, ho, h2⟩ := h
  have hl := ho.lt
  obtain ⟨es, clock, h3, h4⟩ := ho
  exact ⟨n, D, hn, ⟨es, clock, (hb.block b hl).trans h3, h4⟩, h2⟩

theorem Knows.lt {w : World} {b : Nat} {f : List UInt8 → Option Int} (h : Knows w b f) : b < w.heap.size := by
  obtain ⟨n, D, hn, ho, h2⟩ := h
  exact ho.lt

/-- The words up to the k-th. -/
def opsTo (k : Nat) (w : List UInt8) : Option Int :=
  if w = [114, 101, 115, 101, 116] ∧ 5 ≤ k then some 5 else if w = [97, 108, 105, 118, 101] ∧ 4 ≤ k then some 4 else if w = [100, 101, 97, 100] ∧ 3 ≤ k then some 3
  else if w = [103, 104, 111, 115, 116] ∧ 2 ≤ k then some 2 else if w = [112, 97, 115, 115] ∧ 1 ≤ k then some 1 else none

theorem opsTo_all (w : List UInt8) : opsTo 5 w = opB w := by
  unfold opsTo opB
  by_cases h1 : w = [112, 97, 115, 115]
  · subst h1; decide
  · by_cases h2 : w = [103, 104, 111, 115, 116]
    · subst h2; decide
    · by_cases h3 : w = [100, 101, 97, 100]
      · subst h3; decide
      · by_cases h4 : w = [97, 108, 105, 118, 101]
        · subst h4; decide
        · simp [h1, h2, h3, h4]

theorem opsTo_step {k : Nat} (hk : k < 5) (w : List UInt8) : opsTo (k + 1) w = if w = wordB ((k : Int) + 1) then some ((k : Int) + 1) else opsTo k w := by
  unfold opsTo
  rcases (show k = 0 ∨ k = 1 ∨ k = 2 ∨ k = 3 ∨ k = 4 by omega) with rfl | rfl | rfl | rfl | rfl
  all_goals
    by_cases h1 : w = [112, 97, 115, 115]
    · subst h1; decide
    · by_cases h2 : w = [103, 104, 111, 115, 116]
      · subst h2; decide
      · by_cases h3 : w = [100, 101, 97, 100]
        · subst h3; decide
        · by_cases h4 : w = [97, 108, 105, 118, 101]
          · subst h4; decide
          · by_cases h5 : w = [114, 101, 115, 101, 116]
            · subst h5; decide
            · simp [h1, h2, h3, h4, h5, wordB]

/-- A map that knows one word more. -/
theorem knows_put {w' : World} {b n : Nat} {D : DataW Unit} {f : List UInt8 → Option Int} {s0 : List UInt8} {c0 : Int} (hn : n < 5) (hD : IsMap D)
    (h2 : ∀ s, Maps.has D (.string s) = (f s).isSome ∧ ∀ c, f s = some c → D.atKey (.string s) (.lit (.int .i64 0)) = .lit (.int .i64 c))
    (ho : w'.ownsMap Tryz.prog 9 (plainElem (H := Unit) Tryz.prog 3) b (n + 1) (D.put (.string s0) (.lit (.int .i64 c0)))) {f' : List UInt8 → Option Int} (hf : ∀ s, f' s = if s = s0 then some c0 else f s) : Knows w' b f' := by
  have hkl : ∀ {s : List UInt8}, WideAt.IsKeyLit (.string s) := by intro s; first | exact trivial | simp [WideAt.IsKeyLit]
  refine ⟨n + 1, _, hn, ho, fun s => ?_⟩
  rw [hf s]
  by_cases h : s = s0
  · subst h
    rw [if_pos rfl]
    exact ⟨has_put_same hD hkl _, fun c hc => by injection hc with hc; rw [← hc]; exact atKey_put_same hD hkl _ _⟩
  · rw [if_neg h]
    have hne : (Lit.string s) ≠ .string s0 := fun e => h (by injection e)
    rw [has_put_other hne]
    exact ⟨(h2 s).1, fun c hc => by rw [atKey_put_other hne]; exact (h2 s).2 c hc⟩

end Go.Proofs.YtlpopfhaephfaaaGreatDoor

namespace Go.Proofs.YtlpopfhaephfaaaGreatDoor
open Go.RowKit Go.Maps

/-- What a scanner leaves with. -/
def badV (k : Int) : Value := .iface 83 (.agg #[.int .i64 k])
def badE (k : Int) : Ending := .panicked [{ v := badV k, recovered := false }]

theorem must_true (b : Nat) (w : World) : Calls Tryz.prog 53 #[.pointer (some ⟨b, 0, none⟩), .bool true] w fun e w' => e = .returned (.tuple #[]) ∧ w' = w := by
  go_enter Tryz.func53, Tryz.ntmps53
  go_wp2
  go_end0
  exact ⟨rfl, rfl⟩

theorem must_false (b : Nat) (k : Int) (w : World) (h : w.cell? ⟨b, 5, none⟩ = some (.int .i64 k)) : Calls Tryz.prog 53 #[.pointer (some ⟨b, 0, none⟩), .bool false] w fun e w' => e = badE k ∧ w' = w := by
  go_enter Tryz.func53, Tryz.ntmps53
  go_wp2
  exact ⟨rfl, rfl, rfl⟩

theorem law9 : Keyed Tryz.prog 9 := string_keyed Tryz.underlying9
theorem zeroI (w : World) : (zeroValue 3).run Tryz.prog w = .ok (.int .i64 0) w := by kernel_rfl

theorem word_some (b mo : Nat) (f : List UInt8 → Option Int) (s : List UInt8) (c : Int) (w : World) (hk : Knows w mo f) (hs : s.length ≤ 20000) (hf : f s = some c) :
    Calls Tryz.prog 55 #[.pointer (some ⟨b, 0, none⟩), .map (some mo), .string ⟨s.toArray⟩] w fun e w' => e = .returned (.int .i64 c) ∧ w' = w := by
  obtain ⟨n, D, hn, ho, h2⟩ := hk
  have hkey : keyOf Tryz.prog 9 (.string ⟨s.toArray⟩) = some (.string s) := by
    rw [WideMaps.keyOf_string_mk Tryz.underlying9 (by rw [str_size]; unfold maxLen; omega)]
  have h3 := (h2 s).1
  have h4 := (h2 s).2 c hf
  rw [hf] at h3
  clear h2 hf
  go_enter Tryz.func55, Tryz.ntmps55
  go_wp2_with (at_lookup; refine wpList_lookup_own_ok_int _ rfl _ _ 85 rfl 9 3 .i64 law9 Tryz.underlying85 Tryz.underlying3 (zeroI _) mo n D rfl ho _ _ rfl hkey ?_; intro c' hat hwc)
  have hcc : c' = c := by
    rw [h4] at hat
    simpa using hat.symm
  subst hcc
  refine (must_true _ _).mono ?_
  rintro e w' ⟨rfl, rfl⟩
  clear hat h4 h3 ho
  go_wp2
  go_ret
  exact ⟨rfl, rfl⟩

theorem word_none (b mo : Nat) (k : Int) (f : List UInt8 → Option Int) (s : List UInt8) (w : World) (hk : Knows w mo f) (hs : s.length ≤ 20000) (hf : f s = none) (h : w.cell? ⟨b, 5, none⟩ = some (.int .i64 k)) :
    Calls Tryz.prog 55 #[.pointer (some ⟨b, 0, none⟩), .map (some mo), .string ⟨s.toArray⟩] w fun e w' => e = badE k ∧ w' = w := by
  obtain ⟨n, D, hn, ho, h2⟩ := hk
  have hkey : keyOf Tryz.prog 9 (.string ⟨s.toArray⟩) = some (.string s) := by
    rw [WideMaps.keyOf_string_mk Tryz.underlying9 (by rw [str_size]; unfold maxLen; omega)]
  have h3 := (h2 s).1
  rw [hf] at h3
  clear h2 hf
  go_enter Tryz.func55, Tryz.ntmps55
  go_wp2_with (at_lookup; refine wpList_lookup_own_ok_int _ rfl _ _ 85 rfl 9 3 .i64 law9 Tryz.underlying85 Tryz.underlying3 (zeroI _) mo n D rfl ho _ _ rfl hkey ?_; intro c' hat hwc)
  refine (must_false _ k _ h).mono ?_
  rintro e w' ⟨rfl, rfl⟩
  exact ⟨rfl, rfl, rfl⟩

/-- What is laid, where a text is read. -/
structure LayR (w : World) : Prop extends Lay w where
  syn : ∃ tp p, w.var? Tryz.prog "strconv.ErrSyntax" = some #[.iface tp p]
  rng : ∃ tp p, w.var? Tryz.prog "strconv.ErrRange" = some #[.iface tp p]
  mxl : ∃ m, w.cell? ⟨2, 0, none⟩ = some (.int .i64 m)

theorem Tryz.gSyn : Tryz.prog.globalNamed "strconv.ErrSyntax" = some 3 := by kernel_rfl
theorem Tryz.gRng : Tryz.prog.globalNamed "strconv.ErrRange" = some 4 := by kernel_rfl

theorem var_on {P : Program} {g : Nat} {W W' : World} {n : String} {cs : Array Value} (h : Below W.heap.size W W') (hg : P.globalNamed n = some g) (hv : W.var? P n = some cs) : W'.var? P n = some cs := by
  unfold World.var? at hv ⊢
  simp only [hg, Option.bind_some] at hv ⊢
  by_cases hl : g < W.heap.size
  · rw [h.block g hl]
    exact hv
  · rw [Array.getElem?_eq_none (by omega)] at hv
    cases hv

theorem LayR.on {w w' : World} (h : LayR w) (hb : Below w.heap.size w w') : LayR w' := by
  obtain ⟨h0, ⟨t1, p1, h1⟩, ⟨t2, p2, h2⟩, m, h3⟩ := h
  exact ⟨h0.on hb, ⟨t1, p1, var_on hb Tryz.gSyn h1⟩, ⟨t2, p2, var_on hb Tryz.gRng h2⟩, m, by rw [hb.cell (block_lt_of_cell h3)]; exact h3⟩

theorem atoi_below {w w' : World} (h : w' = w ∨ ∃ t, w' = Lib.bytesWorld w 5 t) : Below w.heap.size w w' := by
  rcases h with rfl | ⟨t, rfl⟩
  · exact Below.refl _ _
  · exact Lib.bytesWorld_below _ _ _

theorem number_some (b : Nat) (s : List UInt8) (v : Int) (w : World) (hs : s.length ≤ 20000) (hf : numB s = some v) (hL : LayR w) :
    Calls Tryz.prog 56 #[.pointer (some ⟨b, 0, none⟩), .string ⟨s.toArray⟩] w fun e w' => e = .returned (.int .i64 v) ∧ Below w.heap.size w w' := by
  obtain ⟨ha, hi⟩ : Lib.atoiAll s = .ok v ∧ Lib.itoa v = s := by
    unfold numB at hf
    split at hf
    · rename_i h
      split at hf
      · rename_i h2
        injection hf with hf
        subst hf
        exact ⟨h, h2⟩
      · cases hf
    · cases hf
  obtain ⟨v1, v2⟩ := Lib.atoiAll_bounds ha
  have ka := Tryz.strconv_Atoi_ok ⟨s.toArray⟩ (by rw [str_size]; omega) v ha w
  go_enter Tryz.func56, Tryz.ntmps56
  go_wp2_with fail
  refine ka.mono ?_
  rintro e w1 ⟨rfl, h1⟩
  have b1 := atoi_below h1
  clear h1 ka
  have ki := Tryz.strconv_Itoa v (by omega) (by omega) w1 (hL.on b1).pow
  rw [hi] at ki
  clear hi ha hf
  go_wp2_with fail
  refine ki.mono ?_
  rintro e w2 ⟨rfl, k, os, h2⟩
  have b2 : Below w1.heap.size w1 w2 := by rw [h2]; exact Lib.below_grow _ _ (Nat.le_refl _) _ _
  have B2 := below_on b1 b2
  clear h2 b2 ki b1
  go_wp2_with fail
  refine (must_true _ _).mono ?_
  rintro e w3 ⟨rfl, rfl⟩
  go_wp2
  go_ret
  exact ⟨rfl, B2⟩

theorem number_none (b : Nat) (k : Int) (s : List UInt8) (w : World) (hs : s.length ≤ 20000) (hf : numB s = none) (hL : LayR w) (hc : w.cell? ⟨b, 5, none⟩ = some (.int .i64 k)) :
    Calls Tryz.prog 56 #[.pointer (some ⟨b, 0, none⟩), .string ⟨s.toArray⟩] w fun e w' => e = badE k ∧ Below w.heap.size w w' := by
  cases ha : Lib.atoiAll s with
  | ok v =>
    have hi : ¬ Lib.itoa v = s := by
      intro h
      unfold numB at hf
      rw [ha] at hf
      simp [h] at hf
    obtain ⟨v1, v2⟩ := Lib.atoiAll_bounds ha
    have ka := Tryz.strconv_Atoi_ok ⟨s.toArray⟩ (by rw [str_size]; omega) v ha w
    go_enter Tryz.func56, Tryz.ntmps56
    go_wp2_with fail
    refine ka.mono ?_
    rintro e w1 ⟨rfl, h1⟩
    have b1 := atoi_below h1
    clear h1 ka
    have ki := Tryz.strconv_Itoa v (by omega) (by omega) w1 (hL.on b1).pow
    obtain ⟨z, hz⟩ : ∃ z, Lib.itoa v = z := ⟨_, rfl⟩
    rw [hz] at ki hi
    clear hz ha hf
    go_wp2_with fail
    refine ki.mono ?_
    rintro e w2 ⟨rfl, k', os, h2⟩
    have b2 : Below w1.heap.size w1 w2 := by rw [h2]; exact Lib.below_grow _ _ (Nat.le_refl _) _ _
    have B2 := below_on b1 b2
    have hc2 : w2.cell? ⟨b, 5, none⟩ = some (.int .i64 k) := by rw [B2.cell (block_lt_of_cell hc)]; exact hc
    clear h2 b2 ki b1
    have hq : (z == s) = false := by simpa using hi
    go_wp2_with fail
    refine (must_false _ k _ hc2).mono ?_
    rintro e w3 ⟨rfl, rfl⟩
    exact ⟨rfl, rfl, B2⟩
  | «syntax» =>
    obtain ⟨tp, p, hv⟩ := hL.syn
    have ka := Tryz.strconv_Atoi_syntax_var ⟨s.toArray⟩ (by rw [str_size]; omega) ha tp p w hv
    clear hf ha
    go_enter Tryz.func56, Tryz.ntmps56
    go_wp2_with fail
    refine ka.mono ?_
    rintro e w1 ⟨N, rfl, _, _, b1⟩
    have hc2 : w1.cell? ⟨b, 5, none⟩ = some (.int .i64 k) := by rw [b1.cell (block_lt_of_cell hc)]; exact hc
    clear ka
    go_wp2_with fail
    refine (must_false _ k _ hc2).mono ?_
    rintro e w3 ⟨rfl, rfl⟩
    exact ⟨rfl, rfl, b1⟩
  | range =>
    obtain ⟨tp, p, hv⟩ := hL.rng
    have ka := Tryz.strconv_Atoi_range_var ⟨s.toArray⟩ (by rw [str_size]; omega) ha tp p w hv
    generalize Lib.atoiSat _ = z at ka
    clear hf ha
    go_enter Tryz.func56, Tryz.ntmps56
    go_wp2_with fail
    refine ka.mono ?_
    rintro e w1 ⟨N, rfl, _, _, b1⟩
    have hc2 : w1.cell? ⟨b, 5, none⟩ = some (.int .i64 k) := by rw [b1.cell (block_lt_of_cell hc)]; exact hc
    clear ka
    go_wp2_with fail
    refine (must_false _ k _ hc2).mono ?_
    rintro e w3 ⟨rfl, rfl⟩
    exact ⟨rfl, rfl, b1⟩

end Go.Proofs.YtlpopfhaephfaaaGreatDoor

namespace Go.Proofs.YtlpopfhaephfaaaGreatDoor
open Go.RowKit Go.Maps

/-- Block b is a map of at most n entries that knows just the words of f. -/
def KnowsN (w : World) (b n : Nat) (f : List UInt8 → Option Int) : Prop :=
  ∃ D, w.ownsMap Tryz.prog 9 (plainElem (H := Unit) Tryz.prog 3) b n D ∧ ∀ s, Maps.has D (.string s) = (f s).isSome ∧ ∀ c, f s = some c → D.atKey (.string s) (.lit (.int .i64 0)) = .lit (.int .i64 c)

theorem KnowsN.knows {w : World} {b n : Nat} {f f' : List UInt8 → Option Int} (h : KnowsN w b n f) (hn : n ≤ 5) (hf : ∀ s, f s = f' s) : Knows w b f' := by
  obtain ⟨D, h1, h2⟩ := h
  exact ⟨n, D, hn, h1, fun s => by rw [← hf s]; exact h2 s⟩

theorem knowsN_made (w : World) : KnowsN (w.alloc (.map #[] 0)) w.heap.size 0 (fun _ => none) :=
  ⟨_, World.ownsMap_made _ _ _ _, fun s => ⟨rfl, fun c hc => by cases hc⟩⟩

theorem knowsN_put {w' : World} {b n : Nat} {D : DataW Unit} {f : List UInt8 → Option Int} {s0 : List UInt8} {c0 : Int} (hD : IsMap D)
    (h2 : ∀ s, Maps.has D (.string s) = (f s).isSome ∧ ∀ c, f s = some c → D.atKey (.string s) (.lit (.int .i64 0)) = .lit (.int .i64 c))
    (ho : w'.ownsMap Tryz.prog 9 (plainElem (H := Unit) Tryz.prog 3) b (n + 1) (D.put (.string s0) (.lit (.int .i64 c0)))) {f' : List UInt8 → Option Int} (hf : ∀ s, f' s = if s = s0 then some c0 else f s) : KnowsN w' b (n + 1) f' := by
  have hkl : ∀ {s : List UInt8}, WideAt.IsKeyLit (.string s) := by intro s; exact trivial
  refine ⟨_, ho, fun s => ?_⟩
  rw [hf s]
  by_cases h : s = s0
  · subst h
    rw [if_pos rfl]
    exact ⟨has_put_same hD hkl _, fun c hc => by injection hc with hc; rw [← hc]; exact atKey_put_same hD hkl _ _⟩
  · rw [if_neg h]
    have hne : (Lit.string s) ≠ .string s0 := fun e => h (by injection e)
    rw [has_put_other hne]
    exact ⟨(h2 s).1, fun c hc => by rw [atKey_put_other hne]; exact (h2 s).2 c hc⟩

theorem keyS (s : List UInt8) (hs : s.length ≤ 20000) : keyOf Tryz.prog 9 (.string ⟨s.toArray⟩) = some (.string s) := by
  rw [WideMaps.keyOf_string_mk Tryz.underlying9 (by rw [str_size]; unfold maxLen; omega)]

set_option maxRecDepth 100000 in
theorem opsByWord_any (w : World) (hL : Lay w) : Calls Tryz.prog 35 #[] w fun e w' => e = .returned (.map (some w.heap.size)) ∧ Knows w' w.heap.size opB ∧ Below w.heap.size w w' := by
  have hmm := @run_makeMap Tryz.prog
  have I0 := knowsN_made w
  have B0 : Below w.heap.size w (w.alloc (.map #[] 0)) := below_alloc (Below.refl _ _) _
  go_enter Tryz.func35, Tryz.ntmps35
  go_wp2
  go_loopw [2] (fun i wr => ∃ k : Nat, k ≤ 5 ∧ i = .int .i64 ((k : Int) + 1) ∧ KnowsN wr w.heap.size k (opsTo k) ∧ Below w.heap.size w wr) (fun i _ => 6 - (intOf i).toNat)
  case atStart => exact ⟨0, by omega, rfl, by rw [show opsTo 0 = fun _ => none from by funext s; simp [opsTo]]; exact I0, B0⟩
  case round =>
    clear I0 B0
    obtain ⟨k, hk, rfl, ⟨D, ho, h2⟩, Bw⟩ := hrel
    by_cases hlt : k < 5
    · have hi1 : (k : Int) + 1 ≤ 5 := by omega
      have hw := (hL.on Bw).words (k + 1) (by omega)
      obtain ⟨wb, hwb⟩ : ∃ wb, wordB ((k + 1 : Nat) : Int) = wb := ⟨_, rfl⟩
      have lw : wb.length ≤ 5 := by rw [← hwb]; exact wordB_length _
      rw [hwb] at hw
      have hkey := keyS wb (by omega)
      have hs : ∀ s, opsTo (k + 1) s = if s = wb then some ((k : Int) + 1) else opsTo k s := by
        intro s
        rw [← hwb]
        exact opsTo_step hlt s
      have HS : Hid _ := hs
      have H2 : Hid _ := h2
      have hD := ho.isMap
      clear hwb hs h2
      go_wp2_with (at_mapUpdate; refine wpList_mapUpdate_own _ rfl _ _ _ 85 rfl 9 3 law9 Tryz.underlying85 _ w.heap.size k D rfl ho (by unfold maxLen; omega) _ _ _ rfl rfl hkey _ [] (plainElem_int Tryz.underlying3 (WalkArith.wf_i64 (by omega))) ?_; intro w1 hown1 hgrow1)
      have K1 : KnowsN w1 w.heap.size (k + 1) (opsTo (k + 1)) := knowsN_put hD H2.out hown1 HS.out
      have B1 : Below w.heap.size w w1 := Bw.grown hgrow1 Bw.size (fun j hj => by cases hj; exact Nat.le_refl _)
      clear hown1 hgrow1 ho
      go_wp2
      exact ⟨⟨k + 1, hlt, by simp, K1, B1⟩, by simp [intOf]; omega⟩
    · have hi1 : ¬ (k : Int) + 1 ≤ 5 := by omega
      obtain rfl : k = 5 := by omega
      have K1 : Knows wr w.heap.size opB := KnowsN.knows ⟨D, ho, h2⟩ (Nat.le_refl _) opsTo_all
      clear ho h2
      go_wp2
      go_ret
      exact ⟨rfl, K1, Bw⟩

theorem dirs_two (s : List UInt8) : dirB s = if s = [45] then some (-1) else if s = [43] then some 1 else none := by
  unfold dirB
  by_cases h1 : s = [43]
  · subst h1; decide
  · simp [h1]

set_option maxRecDepth 100000 in
theorem dirsBySign_any (w : World) : Calls Tryz.prog 36 #[] w fun e w' => e = .returned (.map (some w.heap.size)) ∧ Knows w' w.heap.size dirB ∧ Below w.heap.size w w' := by
  have hmm := @run_makeMap Tryz.prog
  have B0 : Below w.heap.size w (w.alloc (.map #[] 0)) := below_alloc (Below.refl _ _) _
  obtain ⟨D0, o0, h0⟩ := knowsN_made w
  obtain ⟨w1, r1, o1, g1⟩ := o0.update law9 Tryz.underlying85 (by unfold maxLen; omega) (key := .string ⟨[43].toArray⟩) (val := .int .i64 1) (keyS [43] (by simp)) (plainElem_int Tryz.underlying3 (WalkArith.wf_i64 (by omega)))
  obtain ⟨w2, r2, o2, g2⟩ := o1.update law9 Tryz.underlying85 (by unfold maxLen; omega) (key := .string ⟨[45].toArray⟩) (val := .int .i64 (-1)) (keyS [45] (by simp)) (plainElem_int Tryz.underlying3 (WalkArith.wf_i64 (by omega)))
  have K1 : KnowsN w1 w.heap.size 1 (fun s => if s = [43] then some 1 else none) := knowsN_put o0.isMap h0 o1 (fun s => rfl)
  have B1 : Below w.heap.size w w1 := B0.grown g1 B0.size (fun j hj => by cases hj; exact Nat.le_refl _)
  have B2 : Below w.heap.size w w2 := B1.grown g2 B1.size (fun j hj => by cases hj; exact Nat.le_refl _)
  have K2 : Knows w2 w.heap.size dirB := by
    have hp : ∀ s, Maps.has (D0.put (.string [43]) (.lit (.int .i64 1))) (.string s) = ((fun s => if s = [43] then some (1 : Int) else none) s).isSome ∧ ∀ c, (fun s => if s = [43] then some (1 : Int) else none) s = some c → (D0.put (.string [43]) (.lit (.int .i64 1))).atKey (.string s) (.lit (.int .i64 0)) = .lit (.int .i64 c) := by
      have hkl : ∀ {s : List UInt8}, WideAt.IsKeyLit (.string s) := by intro s; exact trivial
      intro s
      by_cases h : s = [43]
      · subst h
        exact ⟨has_put_same o0.isMap hkl _, fun c hc => by simp at hc; rw [← hc]; exact atKey_put_same o0.isMap hkl _ _⟩
      · have hne : (Lit.string s) ≠ .string [43] := fun e => h (by injection e)
        rw [has_put_other hne]
        simp only [if_neg h]
        exact ⟨(h0 s).1, fun c hc => by cases hc⟩
    exact KnowsN.knows (knowsN_put o1.isMap hp o2 (fun s => rfl)) (by omega) (fun s => (dirs_two s).symm)
  clear K1 B1 o1 o2 g1 g2 o0 h0 B0
  go_enter Tryz.func36, Tryz.ntmps36
  go_wp2
  go_ret
  exact ⟨rfl, K2, B2⟩

end Go.Proofs.YtlpopfhaephfaaaGreatDoor

namespace Go.Proofs.YtlpopfhaephfaaaGreatDoor
open Go.RowKit Go.Maps

/-- A scanner's cells. -/
def scn (S : Int) (g n mo md : Nat) (rest : List UInt8) (k : Int) : Nat → Value
  | 0 => .int .i64 S
  | 1 => .slice (gA g) n (gC g)
  | 2 => .map (some mo)
  | 3 => .map (some md)
  | 4 => .string ⟨rest.toArray⟩
  | _ => .int .i64 k

def Sc (w : World) (b : Nat) (S : Int) (g n mo md : Nat) (rest : List UInt8) (k : Int) : Prop := Blk w b 88 6 (scn S g n mo md rest k)

/-- What taking a line off the text brings. -/
def EvP (w w' : World) (b : Nat) (S : Int) (g n mo md : Nat) (rest : List UInt8) (k : Nat) (e : Ending) : Prop :=
  ((∃ p q op f d, rest = p ++ 10 :: q ∧ 10 ∉ p ∧ k < 2000 ∧ parB S n p = some (op, f, d) ∧ e = .returned (.agg #[.int .i64 op, .int .i64 f, .int .i64 d]) ∧ Sc w' b S g n mo md q ((k : Int) + 1)) ∨
    (e = badE ((k : Int) + 1) ∧ (10 ∉ rest ∨ ∃ p q, rest = p ++ 10 :: q ∧ 10 ∉ p ∧ (2000 ≤ k ∨ parB S n p = none)))) ∧ w.grownBy w' (some b)

theorem but_on {w w1 w2 : World} {b : Nat} (h : w.grownBy w1 (some b)) (k : Below w1.heap.size w1 w2) : w.grownBy w2 (some b) :=
  ⟨k.os.trans h.os, k.tape.trans h.tape, k.output.trans h.output, Nat.le_trans h.size k.size, fun i hi hne => (k.block i (Nat.lt_of_lt_of_le hi h.size)).trans (h.block i hi hne)⟩

theorem but_set (w : World) (b i : Nat) (v : Value) : w.grownBy (w.setCell ⟨b, i, none⟩ v) (some b) :=
  ⟨rfl, rfl, rfl, by simp, fun j _ hne => Below.heap_setCell _ _ _ _ (fun e => hne (by rw [e]))⟩

theorem but_trans {w w1 w2 : World} {b : Nat} (h : w.grownBy w1 (some b)) (k : w1.grownBy w2 (some b)) : w.grownBy w2 (some b) :=
  ⟨k.os.trans h.os, k.tape.trans h.tape, k.output.trans h.output, Nat.le_trans h.size k.size, fun i hi hne => (k.block i (Nat.lt_of_lt_of_le hi h.size) hne).trans (h.block i hi hne)⟩

theorem mk_data (x : ByteArray) : (⟨x.data.toList.toArray⟩ : ByteArray) = x := by
  cases x
  simp

theorem split_parts (l : List UInt8) : Lib.splitB ⟨#[32]⟩ 0 (Lib.countB ⟨l.toArray⟩ ⟨#[32]⟩) ⟨l.toArray⟩ = (Lib.split l [32]).map (fun x => (⟨x.toArray⟩ : ByteArray)) ∧ Lib.countB ⟨l.toArray⟩ ⟨#[32]⟩ + 1 = (Lib.split l [32]).length := by
  have h := Lib.splitB_data ⟨#[32]⟩ 0 (Lib.countB ⟨l.toArray⟩ ⟨#[32]⟩) ⟨l.toArray⟩
  have e1 : Lib.countB ⟨l.toArray⟩ ⟨#[32]⟩ = Lib.count l [32] := by unfold Lib.countB; simp
  have h2 : (Lib.splitB ⟨#[32]⟩ 0 (Lib.countB ⟨l.toArray⟩ ⟨#[32]⟩) ⟨l.toArray⟩).map (·.data.toList) = Lib.split l [32] := by
    rw [h, e1]
    unfold Lib.split
    simp
  refine ⟨?_, ?_⟩
  · rw [← h2, List.map_map]
    have : ((fun x => (⟨x.toArray⟩ : ByteArray)) ∘ fun x : ByteArray => x.data.toList) = id := by
      funext x
      exact mk_data x
    rw [this, List.map_id]
  · rw [← h2, List.length_map]
    exact (Lib.splitB_all ⟨#[32]⟩ (by decide) 0 _ ⟨l.toArray⟩ rfl).symm

theorem split_mem_le (c : UInt8) (l : List UInt8) : ∀ x ∈ Lib.split l [c], x.length ≤ l.length := by
  suffices ∀ (m : Nat) (l : List UInt8), l.length ≤ m → ∀ x ∈ Lib.split l [c], x.length ≤ l.length from this _ l (Nat.le_refl _)
  intro m
  induction m with
  | zero =>
    intro l hl x hx
    have : l = [] := List.length_eq_zero_iff.1 (by omega)
    subst this
    rw [split_none1 c [] (by simp)] at hx
    simp at hx
    simp [hx]
  | succ m ih =>
    intro l hl x hx
    by_cases h : c ∈ l
    · obtain ⟨p, q, rfl, hp⟩ := mem_parts c l h
      rw [split_cons1 c p q hp] at hx
      simp only [List.length_append, List.length_cons] at hl ⊢
      rcases List.mem_cons.1 hx with rfl | hx
      · omega
      · have := ih q (by omega) x hx
        omega
    · rw [split_none1 c l h] at hx
      simp at hx
      simp [hx]

end Go.Proofs.YtlpopfhaephfaaaGreatDoor
