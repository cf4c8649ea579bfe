import Derived.Lib.FrozenHead
import Derived.Lib.ConvBytes
import Derived.Maps.AppendAt
import Derived.OwnWalk
import Derived.Laws.IdiomStrings
import Derived.Test.YtlpopfhaephfaaaGreatDoorBase
import Derived.Lib.AtoiErrMem
import Derived.Test.YtlpopfhaephfaaaGreatDoorQS
import Derived.Test.YtlpopfhaephfaaaGreatDoorST2
import Derived.Lib.AppendStr
import Derived.Lib.BufferRead
import Derived.Test.YtlpopfhaephfaaaGreatDoorQT
import Derived.Test.YtlpopfhaephfaaaGreatDoorQR
import Derived.Test.YtlpopfhaephfaaaGreatDoorCR
import Derived.Lib.QuietBelow
import Derived.BigQuiet
import Derived.Deep.Cut
namespace Go.Proofs.YtlpopfhaephfaaaGreatDoor
open Go.RowKit

/-- A row of bytes that the call made, be it out of a string: what is marked lies behind its end. -/
def OwnM (w : World) (B : Nat) (e : TypeId) (v : Value) (l : List UInt8) : Prop :=
  ∃ g cap cur fz, v = .slice (some ⟨g, 0, none⟩) l.length cap ∧ B ≤ g ∧ w.heap[g]? = some (.cells cur e fz) ∧ (cap ≤ fz.1 ∨ fz.2 = 0) ∧ l.length ≤ cap ∧ cap ≤ maxLen ∧ cur.size = cap ∧ cur.toList.take l.length = Lib.byteCells l

theorem OwnM.on {w w' : World} {B : Nat} {e : TypeId} {v : Value} {l : List UInt8} (h : OwnM w B e v l) (hb : Below w.heap.size w w') : OwnM w' B e v l := by
  obtain ⟨g, cap, cur, fz, h1, h2, h3, h4⟩ := h
  exact ⟨g, cap, cur, fz, h1, h2, (hb.block g (Array.getElem?_eq_some_iff.1 h3).1).trans h3, h4⟩

theorem OwnM.slice {w : World} {B : Nat} {e : TypeId} {v : Value} {l : List UInt8} (h : OwnM w B e v l) : ∃ g cap, v = .slice (some ⟨g, 0, none⟩) l.length cap ∧ B ≤ g := by
  obtain ⟨g, cap, cur, fz, h1, h2, _⟩ := h
  exact ⟨g, cap, h1, h2⟩

/-- A string's bytes, as they are made. -/
theorem ownM_conv (w : World) (e : TypeId) (l : List UInt8) (hl : l.length ≤ 1000000) : OwnM (Lib.bytesWorld w e ⟨l.toArray⟩) w.heap.size e (.slice (some ⟨w.heap.size, 0, none⟩) l.length (grownCap w l.length 0 e)) l := by
  have hs : (⟨l.toArray⟩ : ByteArray).size = l.length := by show l.toArray.size = _; simp
  have hge := grownCap_ge w l.length 0 e
  have hz : (Lib.bytesCells w e ⟨l.toArray⟩).size = grownCap w l.length 0 e := by
    unfold Lib.bytesCells
    rw [hs]
    simp
    omega
  refine ⟨w.heap.size, _, _, _, rfl, Nat.le_refl _, Lib.bytesWorld_at_new w e ⟨l.toArray⟩, .inl (Nat.le_of_eq hz.symm), hge, grownCap_le_maxLen w l.length 0 e (by unfold maxLen; omega), hz, ?_⟩
  unfold Lib.bytesCells Lib.byteCells
  simp

section
variable {P : Program}
theorem run_append_M {w : World} {B : Nat} {e : TypeId} {v : Value} {l : List UInt8} (h : OwnM w B e v l) (t ty : TypeId) (i : TypeInfo) (ht : P.underlying t = some (.slice e)) (hi : P.info? e = some i) (hz : i.zero = some (.int .u8 0)) (hsize : i.size = 1) (hby : i.bytes = 1)
    (a : Addr) (c : UInt8) (hc : w.cell? a = some (.int .u8 (c.toNat : Int))) (hlen : l.length ≤ 1000000) (hB : B ≤ w.heap.size) :
    ∃ v' w', (Builtin.append_ #[t, t] ty #[v, .slice (some a) 1 1]).run P w = .ok v' w' ∧ OwnM w' B e v' (l ++ [c]) ∧ w.grownBy w' v.ownBlock := by
  obtain ⟨g, cap, cur, fz, rfl, h2, h3, h4, h5, h6, h7, h8⟩ := h
  have hadd0 : a.add 0 = a := by unfold Addr.add; split <;> simp_all
  have hnews : ∀ (j : Nat) (u : Value), [Value.int .u8 (c.toNat : Int)][j]? = some u → w.cell? (a.add j) = some u := by
    intro j u hj
    match j, hj with
    | 0, hj => simp at hj; subst hj; rw [hadd0]; exact hc
  have hx : Lib.byteCells (l ++ [c]) = Lib.byteCells l ++ [Value.int .u8 (c.toNat : Int)] := by simp [Lib.byteCells]
  have hxl : (Lib.byteCells l).length = l.length := Lib.byteCells_length l
  by_cases hroom : l.length + 1 ≤ cap
  · have hlt : l.length < cur.size := by omega
    have hcell : w.cell? ⟨g, l.length, none⟩ = some cur[l.length] := by simp [World.cell?, h3, hlt]
    have hfro : w.frozen? ⟨g, l.length, none⟩ = false := by
      obtain ⟨lo, hi'⟩ := fz
      simp only [World.frozen?, h3, Bool.and_eq_false_iff, decide_eq_false_iff_not]
      simp only at h4
      omega
    have hadd : (⟨g, l.length, none⟩ : Addr).add 0 = ⟨g, l.length, none⟩ := by unfold Addr.add; split <;> simp_all
    have hst : (storeCells ⟨g, l.length, none⟩ [Value.int .u8 (c.toNat : Int)] 0).run P w = .ok () (w.setRow g (cur.setIfInBounds l.length (.int .u8 (c.toNat : Int)))) := by
      have h9 : (store ((⟨g, l.length, none⟩ : Addr).add 0) (.int .u8 (c.toNat : Int))).run P w = .ok () (w.setRow g (cur.setIfInBounds l.length (.int .u8 (c.toNat : Int)))) := by
        rw [hadd, run_store P w _ _ _ rfl, hcell]
        simp [hfro, setCell_eq_setRow w g l.length cur e fz _ h3]
      simp only [storeCells, Sem.run_bind, h9, Result.andThen_ok]
      rfl
    have hf := run_firstCells_some (P := P) w i.size 1 a 1 1 [Value.int .u8 (c.toNat : Int)] (by rw [hsize]; rfl) hnews
    rw [hsize] at hf
    refine ⟨.slice (some ⟨g, 0, none⟩) (l.length + 1) cap, w.setRow g (cur.setIfInBounds l.length (.int .u8 (c.toNat : Int))), ?_, ?_, ?_⟩
    · simp [Builtin.append_, run_underlying ht, sizeOf, typeInfo, hi, hsize, Builtin.lenOf, hroom, hf, Addr.add_lit, hst]
    · refine ⟨g, cap, _, fz, by simp, h2, setRow_heap w g cur _ e _ h3, h4, by simp; omega, h6, by simp [h7], ?_⟩
      rw [hx]
      simp only [List.length_append, List.length_cons, List.length_nil, Array.toList_setIfInBounds]
      rw [List.take_add_one, List.take_set_of_le (Nat.le_refl _), h8, List.getElem?_set_self (by simpa using hlt)]
      rfl
    · exact ⟨rfl, rfl, rfl, by simp, fun k _ hk => setRow_other w g k _ (fun e => hk (by simp [Value.ownBlock, e]))⟩
  · have hcap : cap = l.length := by omega
    have holds : ∀ (j : Nat) (u : Value), (Lib.byteCells l)[j]? = some u → w.cell? ((⟨g, 0, none⟩ : Addr).add j) = some u := by
      intro j u hu
      have hadd : (⟨g, 0, none⟩ : Addr).add j = ⟨g, j, none⟩ := by unfold Addr.add; split <;> simp_all
      rw [hadd, cell_of_row w g j cur e fz h3]
      rw [← h8, List.getElem?_take] at hu
      split at hu
      · simpa using hu
      · cases hu
    have hr := run_append_grow (P := P) w t ty e i (.int .u8 0) ht hi hz ⟨g, 0, none⟩ l.length cap (Lib.byteCells l) (by rw [hsize, hxl]; simp) holds a 1 1 [Value.int .u8 (c.toNat : Int)] (by rw [hsize]; rfl) hnews (by omega) (by omega) (by rw [hby]; exact growslice_fits (by omega) (by omega))
    have hge := grownCap_ge w (l.length + 1) cap e
    refine ⟨_, _, hr, ⟨w.heap.size, _, _, (0, 0), by simp, hB, heap_alloc_new w.drew _, .inr rfl, by simpa using hge, grownCap_le_maxLen w (l.length + 1) cap e (by unfold maxLen; omega), ?_, ?_⟩, ⟨rfl, rfl, rfl, by simp, fun k hk _ => Below.heap_alloc w.drew _ _ hk⟩⟩
    · have hz1 : (Value.int IntKind.u8 0).cells.size = 1 := rfl
      simp only [Array.size_append, List.size_toArray, size_zeroCells, hz1, hxl, List.length_cons, List.length_nil]
      omega
    · rw [hx]
      simp only [Array.toList_append, List.append_assoc]
      rw [← List.append_assoc]
      have : (l ++ [c]).length = (Lib.byteCells l ++ [Value.int .u8 (c.toNat : Int)]).length := by simp [hxl]
      rw [this]
      exact List.take_left

theorem wpList_append_M {ops : Array Oper} {rest : List Oper} {o : Oper} {a : Act} {Q : Exit → Act → World → Prop} {w : World} (hgd : o.guard = none) (sl x : Operand) (t : TypeId)
    (ho : o.op = .call { callee := .builtin .append, args := #[sl, x], argTypes := #[t, t] }) (B : Nat) (e : TypeId) (v : Value) (l : List UInt8) (hs : a.eval sl = v) (h : OwnM w B e v l) (i : TypeInfo) (ht : P.underlying t = some (.slice e)) (hi : P.info? e = some i) (hz : i.zero = some (.int .u8 0)) (hsize : i.size = 1) (hby : i.bytes = 1)
    (ad : Addr) (hx : a.eval x = .slice (some ad) 1 1) (c : UInt8) (hc : w.cell? ad = some (.int .u8 (c.toNat : Int))) (hlen : l.length ≤ 1000000) (hB : B ≤ w.heap.size)
    (k : ∀ v' w', OwnM w' B e v' (l ++ [c]) → w.grownBy w' v.ownBlock → wpList P ops Q rest (a.put o.dst v') w') : wpList P ops Q (o :: rest) a w := by
  refine wpList_plain hgd fun K hK => ?_
  obtain ⟨v', w', hr, h2, h3⟩ := run_append_M (P := P) h t o.type i ht hi hz hsize hby ad c hc hlen hB
  unfold Oper.wp execOp
  simp only [ho, resolve, invoke, builtin, Sem.run_bind, Sem.run_pure, Result.andThen_ok, List.map_toArray, List.map_cons, List.map_nil, hs, hx, hr]
  exact hK _ _ (k v' w' h2 h3)

/-- The bytes as a string. -/
theorem convM {w : World} {B : Nat} {e src dst : TypeId} {v : Value} {l : List UInt8} (h : OwnM w B e v l) (hs : P.underlying src = some (.slice e)) (he : P.underlying e = some (.int .u8)) (hd : P.underlying dst = some .string) :
    (convert src dst v).run P w = .ok (.string ⟨l.toArray⟩) w := by
  obtain ⟨g, cap, cur, fz, rfl, h2, h3, h4, h5, h6, h7, h8⟩ := h
  refine run_convert_bytes_back w src dst e ⟨g, 0, none⟩ cap l hs he hd (fun j hj => ?_)
  have hadd : (⟨g, 0, none⟩ : Addr).add j = ⟨g, j, none⟩ := by unfold Addr.add; split <;> simp_all
  rw [hadd, cell_of_row w g j cur e fz h3]
  have := congrArg (·[j]?) h8
  simp [Lib.byteCells, hj] at this
  simpa using this
end

end Go.Proofs.YtlpopfhaephfaaaGreatDoor

namespace Go.Proofs.YtlpopfhaephfaaaGreatDoor
open Go.RowKit

/-- The sign of what is told of a section. -/
def signC (x : Int) : UInt8 := if x = 0 then 46 else if x = 1 then 35 else if x = 2 then 126 else 33

def secsT (X : Nat → Sec) : Nat → List UInt8
  | 0 => []
  | k + 1 => secsT X k ++ [signC (X k).told]

theorem secsT_length (X : Nat → Sec) : ∀ k, (secsT X k).length = k
  | 0 => rfl
  | k + 1 => by simp [secsT, secsT_length X k]

/-- A line of an answer, without its end. -/
def doneB (C : Int) (X : Nat → Sec) (ns : Nat) : List UInt8 := Lib.itoa C ++ 32 :: secsT X ns

def ansL (C : Nat → Int) (X : Nat → Nat → Sec) (ns : Nat) : Nat → List UInt8
  | 0 => []
  | k + 1 => ansL C X ns k ++ (doneB (C k) (X k) ns ++ [10])

def wrongB (a : Int) (b : Nat) : List UInt8 := [119, 114, 111, 110, 103, 32] ++ Lib.itoa a ++ [32] ++ Lib.itoa (b : Int) ++ [10]

theorem secAt {w : World} {lo hi : Nat} {u : Value} {n k : Nat} {X : Nat → Sec} (h : SlF w 72 5 lo hi u n (secs X)) (hk : k < n) : ∃ g c, u = .slice (some ⟨g, 0, none⟩) n c ∧ w.cell? ⟨g, k * 5, none⟩ = some (.int .i64 (X k).told) ∧ w.cell? ⟨g, k * 5 + 1, none⟩ = some (.int .i64 (X k).count) ∧ w.cell? ⟨g, k * 5 + 2, none⟩ = some (.bool (X k).lost) ∧ w.cell? ⟨g, k * 5 + 3, none⟩ = some (.bool (X k).sweep) ∧ w.cell? ⟨g, k * 5 + 4, none⟩ = some (.int .i64 (X k).last) := by
  obtain ⟨ao, c, rfl, h0 | ⟨g, m, f, rfl, _, _, h2, h3, h4⟩⟩ := h
  · omega
  · exact ⟨g, c, rfl, five h3 h2 hk h4⟩

set_option maxRecDepth 100000 in
set_option maxHeartbeats 2000000 in
theorem doneLine_any (C : Int) (ok : Bool) (lo hi ns nd c1 c2 : Nat) (a1 a2 : Option Addr) (X : Nat → Sec) (w : World) (hC : 0 ≤ C ∧ C ≤ 1000000) (hns : ns ≤ 60) (ht : ∀ i, i < ns → 0 ≤ (X i).told ∧ (X i).told ≤ 3)
    (hs : SlF w 72 5 lo hi (.slice a1 ns c1) ns (secs X)) (hhi : hi ≤ w.heap.size) (hL : Lay w) :
    Calls Tryz.prog 25 #[.agg #[.int .i64 C, .bool ok, .slice a1 ns c1, .slice a2 nd c2]] w fun e w' => e = .returned (.string ⟨(doneB C X ns ++ [10]).toArray⟩) ∧ Below w.heap.size w w' := by
  obtain ⟨i0, hi0, hz0, hz1, hz2⟩ := info_parts Tryz.infoU8
  obtain ⟨nb, hnb⟩ : ∃ nb, Lib.itoa C = nb := ⟨_, rfl⟩
  have ln : nb.length ≤ 21 := by rw [← hnb]; exact Lib.itoa_length_le C (by omega) (by omega)
  obtain ⟨s1, hs1⟩ : ∃ s1, nb ++ [32] = s1 := ⟨_, rfl⟩
  have l1 : s1.length ≤ 22 := by rw [← hs1]; simp; omega
  have hadd1 : ∀ Y : World, (Op.stringOp .add ⟨nb.toArray⟩ ⟨#[32]⟩).run Tryz.prog Y = .ok (.string ⟨s1.toArray⟩) Y := fun Y => by rw [← hs1]; exact run_string_add_lists Y nb [32] (by omega) (by simp)
  obtain ⟨D, hD⟩ : ∃ D, doneB C X ns ++ [10] = D := ⟨_, rfl⟩
  have hfin : s1 ++ secsT X ns ++ [10] = D := by rw [← hD, ← hs1, ← hnb]; simp [doneB]
  rw [hD]
  obtain ⟨W, hW⟩ : ∃ W, w.alloc (.cells #[.int .i64 C, .bool ok, .slice a1 ns c1, .slice a2 nd c2] 68) = W := ⟨_, rfl⟩
  have bW : Below w.heap.size w W := by rw [← hW]; exact below_alloc (Below.refl _ _) _
  have k0 : W.cell? ⟨w.heap.size, 0, none⟩ = some (.int .i64 C) := by rw [← hW]; simp
  have k2 : W.cell? ⟨w.heap.size, 2, none⟩ = some (.slice a1 ns c1) := by rw [← hW]; simp
  have ki := Tryz.strconv_Itoa C (by omega) (by omega) W (hL.on bW).pow
  rw [hnb] at ki
  have EW : Hid _ := hW
  have HF : Hid _ := hfin
  clear hW hD hs1 hnb hfin hL
  go_enter Tryz.func25, Tryz.ntmps25
  go_wp2_with fail
  rw [EW.out]
  refine ki.mono ?_
  clear ki EW
  rintro e w1 ⟨rfl, kk, os, h1⟩
  have b1 : Below W.heap.size W w1 := by rw [h1]; exact Lib.below_grow _ _ (Nat.le_refl _) _ _
  clear h1
  have hcv : (convert 9 22 (.string ⟨s1.toArray⟩)).run Tryz.prog w1 = .ok (.slice (some ⟨w1.heap.size, 0, none⟩) (⟨s1.toArray⟩ : ByteArray).size (grownCap w1 (⟨s1.toArray⟩ : ByteArray).size 0 5)) (Lib.bytesWorld w1 5 ⟨s1.toArray⟩) := Lib.run_convert_string_bytes w1 9 22 5 ⟨s1.toArray⟩ Tryz.underlying9 Tryz.underlying22 Tryz.underlying5
  rw [str_size] at hcv
  have o2 := ownM_conv w1 5 s1 (by omega)
  have b2 := Lib.bytesWorld_below w1 5 ⟨s1.toArray⟩
  generalize Lib.bytesWorld w1 5 ⟨s1.toArray⟩ = w2 at *
  generalize grownCap w1 s1.length 0 5 = cp at *
  have B2 := below_on b1 b2
  have k2' : w2.cell? ⟨w.heap.size, 2, none⟩ = some (.slice a1 ns c1) := by rw [B2.cell (block_lt_of_cell k2)]; exact k2
  have hs2 := hs.on (below_on bW B2)
  have F2 := below_on bW B2
  have z12 : w1.heap.size ≤ w2.heap.size := b2.size
  have hh1 : hi ≤ w1.heap.size := by have := bW.size; have := b1.size; omega
  have lw : w.heap.size < w1.heap.size := by have := block_lt_of_cell k2; have := b1.size; simp only at *; omega
  clear b1 b2 B2 k0 k2 bW hs
  go_wp2
  go_loopw [3, 15] (fun q i wr => ∃ k : Nat, k ≤ ns ∧ i = .int .i64 k ∧ OwnM wr w1.heap.size 5 q (s1 ++ secsT X k) ∧ Below w1.heap.size w2 wr) (fun _ i _ => ns - (intOf i).toNat)
  case atStart => exact ⟨0, Nat.zero_le _, rfl, by simpa [secsT] using o2, Below.refl _ _⟩
  case round =>
    clear o2
    obtain ⟨k, hk, rfl, ow, Bw⟩ := hrel
    have zr : w1.heap.size ≤ wr.heap.size := Nat.le_trans z12 Bw.size
    by_cases hlt : k < ns
    · have hi1 : (k : Int) < (ns : Int) := by omega
      obtain ⟨gs, cs, es, c0, c1', c2', c3', c4'⟩ := secAt (hs2.below Bw hh1) hlt
      cases es
      have htk := ht k hlt
      obtain ⟨tv, etv⟩ : ∃ tv, (X k).told = tv := ⟨_, rfl⟩
      obtain ⟨x1, e1⟩ : ∃ x, (X k).count = x := ⟨_, rfl⟩
      obtain ⟨x2, e2⟩ : ∃ x, (X k).lost = x := ⟨_, rfl⟩
      obtain ⟨x3, e3⟩ : ∃ x, (X k).sweep = x := ⟨_, rfl⟩
      obtain ⟨x4, e4⟩ : ∃ x, (X k).last = x := ⟨_, rfl⟩
      rw [etv] at c0 htk
      rw [e1] at c1'
      rw [e2] at c2'
      rw [e3] at c3'
      rw [e4] at c4'
      clear e1 e2 e3 e4
      obtain ⟨gq, cq, eq, hgq⟩ := ow.slice
      have owb : ∀ x, (Value.slice (some ⟨gq, 0, none⟩) (s1 ++ secsT X k).length cq).ownBlock = some x → w1.heap.size ≤ x := fun x hx => by
        simp [Value.ownBlock] at hx
        omega
      subst eq
      have owA := fun o o' => ow.on (below_alloc (below_alloc (Below.refl wr.heap.size wr) o) o')
      have owA := owA (.cells #[.int .i64 tv, .int .i64 x1, .bool x2, .bool x3, .int .i64 x4] 72) (.cells #[.int .u8 (signC tv).toNat] 5)
      rcases (show tv = 0 ∨ tv = 1 ∨ tv = 2 ∨ tv = 3 by omega) with rfl | rfl | rfl | rfl
      · have hc2 : signC (X k).told = 46 := by rw [etv]; rfl
        have en : s1 ++ secsT X (k + 1) = s1 ++ (secsT X k ++ [46]) := by simp [secsT, hc2]
        have EN : Hid _ := en
        clear en hc2 etv
        go_wp2_with (at_builtin; refine wpList_append_M rfl _ _ 22 rfl w1.heap.size 5 _ _ rfl owA i0 Tryz.underlying22 hi0 hz0 hz1 hz2 ⟨wr.heap.size + 1, 0, none⟩ rfl 46 (by first | (simp; done) | (simp; rfl)) (by simp [secsT_length]; omega) (by simp; omega) ?_)
        intro v' w7 hown' hgrow
        have B7 : Below w1.heap.size w2 w7 := (Bw.trans ((below_alloc (below_alloc (Below.refl wr.heap.size wr) _) _).mono zr)).grown hgrow (by simp; omega) (fun x hx => owb x hx)
        rw [← EN.out] at hown'
        clear hgrow
        go_wp2
        exact ⟨⟨k + 1, hlt, by simp, hown', B7⟩, by simp [intOf]; omega⟩
      · have hc2 : signC (X k).told = 35 := by rw [etv]; rfl
        have en : s1 ++ secsT X (k + 1) = s1 ++ (secsT X k ++ [35]) := by simp [secsT, hc2]
        have EN : Hid _ := en
        clear en hc2 etv
        go_wp2_with (at_builtin; refine wpList_append_M rfl _ _ 22 rfl w1.heap.size 5 _ _ rfl owA i0 Tryz.underlying22 hi0 hz0 hz1 hz2 ⟨wr.heap.size + 1, 0, none⟩ rfl 35 (by first | (simp; done) | (simp; rfl)) (by simp [secsT_length]; omega) (by simp; omega) ?_)
        intro v' w7 hown' hgrow
        have B7 : Below w1.heap.size w2 w7 := (Bw.trans ((below_alloc (below_alloc (Below.refl wr.heap.size wr) _) _).mono zr)).grown hgrow (by simp; omega) (fun x hx => owb x hx)
        rw [← EN.out] at hown'
        clear hgrow
        go_wp2
        exact ⟨⟨k + 1, hlt, by simp, hown', B7⟩, by simp [intOf]; omega⟩
      · have hc2 : signC (X k).told = 126 := by rw [etv]; rfl
        have en : s1 ++ secsT X (k + 1) = s1 ++ (secsT X k ++ [126]) := by simp [secsT, hc2]
        have EN : Hid _ := en
        clear en hc2 etv
        go_wp2_with (at_builtin; refine wpList_append_M rfl _ _ 22 rfl w1.heap.size 5 _ _ rfl owA i0 Tryz.underlying22 hi0 hz0 hz1 hz2 ⟨wr.heap.size + 1, 0, none⟩ rfl 126 (by first | (simp; done) | (simp; rfl)) (by simp [secsT_length]; omega) (by simp; omega) ?_)
        intro v' w7 hown' hgrow
        have B7 : Below w1.heap.size w2 w7 := (Bw.trans ((below_alloc (below_alloc (Below.refl wr.heap.size wr) _) _).mono zr)).grown hgrow (by simp; omega) (fun x hx => owb x hx)
        rw [← EN.out] at hown'
        clear hgrow
        go_wp2
        exact ⟨⟨k + 1, hlt, by simp, hown', B7⟩, by simp [intOf]; omega⟩
      · have hc2 : signC (X k).told = 33 := by rw [etv]; rfl
        have en : s1 ++ secsT X (k + 1) = s1 ++ (secsT X k ++ [33]) := by simp [secsT, hc2]
        have EN : Hid _ := en
        clear en hc2 etv
        go_wp2_with (at_builtin; refine wpList_append_M rfl _ _ 22 rfl w1.heap.size 5 _ _ rfl owA i0 Tryz.underlying22 hi0 hz0 hz1 hz2 ⟨wr.heap.size + 1, 0, none⟩ rfl 33 (by first | (simp; done) | (simp; rfl)) (by simp [secsT_length]; omega) (by simp; omega) ?_)
        intro v' w7 hown' hgrow
        have B7 : Below w1.heap.size w2 w7 := (Bw.trans ((below_alloc (below_alloc (Below.refl wr.heap.size wr) _) _).mono zr)).grown hgrow (by simp; omega) (fun x hx => owb x hx)
        rw [← EN.out] at hown'
        clear hgrow
        go_wp2
        exact ⟨⟨k + 1, hlt, by simp, hown', B7⟩, by simp [intOf]; omega⟩
    · have hi1 : ¬ (k : Int) < (ns : Int) := by omega
      obtain rfl : k = ns := by omega
      have hcv := convM (P := Tryz.prog) (src := 22) (dst := 9) ow Tryz.underlying22 Tryz.underlying5 Tryz.underlying9
      have ll : (s1 ++ secsT X k).length ≤ 100 := by simp [secsT_length]; omega
      have HFo : s1 ++ secsT X k ++ [10] = D := HF.out
      generalize s1 ++ secsT X k = Y at *
      have hadd2 : ∀ V : World, (Op.stringOp .add ⟨Y.toArray⟩ ⟨#[10]⟩).run Tryz.prog V = .ok (.string ⟨D.toArray⟩) V := fun V => by rw [← HFo]; exact run_string_add_lists V Y [10] (by omega) (by simp)
      have FIN : Below w.heap.size w wr := F2.trans (Bw.mono (Nat.le_of_lt lw))
      obtain ⟨gq, cq, eq, _⟩ := ow.slice
      subst eq
      clear HFo HF ow
      go_wp2
      go_ret
      exact ⟨rfl, FIN⟩

end Go.Proofs.YtlpopfhaephfaaaGreatDoor

namespace Go.Proofs.YtlpopfhaephfaaaGreatDoor
open Go.RowKit

set_option maxRecDepth 100000 in
/-- The builder's own look at its address. -/
theorem copyCheck_k (B b : Nat) (bs : List Value) (w : World) (h : Lib.IsBuilderF 45 5 B b bs w) :
    Calls Tryz.prog 32 #[.pointer (some ⟨b, 0, none⟩)] w fun e w' => e = .returned (.tuple #[]) ∧ Lib.BuilderAtF 45 5 B b (.pointer (some ⟨b, 0, none⟩)) bs w' ∧ Below B w w' ∧ w.heap.size ≤ w'.heap.size ∧ Lib.OthersKept 5 (some b) w w' := by
  rcases h with h | h
  · have h0 := h.cell0
    have hsh := h.shape
    have hfz := h.frozen0
    have hu := h.used (.pointer (some ⟨b, 0, none⟩))
    have hb : Below B w (w.setCell ⟨b, 0, none⟩ (.pointer (some ⟨b, 0, none⟩))) := (Below.refl B w).setCell (p := ⟨b, 0, none⟩) h.1 _
    obtain ⟨j, hj, hjs⟩ := Option.map_eq_some_iff.1 Tryz.infoSB
    clear h
    go_enter Tryz.func32, Tryz.ntmps32
    go_wp2
    rw [Lib.run_to_unsafe w ⟨b, 0, none⟩ Tryz.underlying43 Tryz.underlying113 hj (by rw [hjs]; decide) hsh (Nat.zero_lt_succ 1)]
    simp only [Result.andThen]
    rw [Oper.upon_value]
    go_wp2
    rw [run_callFunc_extern Tryz.func50 (by kernel_rfl) (by kernel_rfl) (by kernel_rfl) (e := Extern.AbiNoEscape.same) (by kernel_rfl)]
    rw [Lib.run_noEscape]
    simp only [Result.andThen]
    rw [Oper.upon_value]
    go_wp2
    rw [Lib.run_from_unsafe w ⟨b, 0, none⟩ Tryz.underlying113 Tryz.underlying43 hj hsh Tryz.liesSB]
    simp only [Result.andThen]
    rw [Oper.upon_value]
    go_wp2
    go_end0
    exact ⟨rfl, hu, hb, by simp, (Lib.OthersKept.refl _ _ w).setCell ⟨b, 0, none⟩ rfl _⟩
  · have h0 := h.cell0
    obtain ⟨j, hj, _⟩ := Option.map_eq_some_iff.1 Tryz.infoSB
    have H : Hid _ := h
    clear h
    go_enter Tryz.func32, Tryz.ntmps32
    go_wp2
    rw [Lib.run_neq_ptr_same w _ Tryz.underlying43 hj]
    go_wp2
    go_end0
    exact ⟨rfl, H.out, Below.refl B _, Nat.le_refl _, Lib.OthersKept.refl _ _ _⟩

set_option maxRecDepth 100000 in
set_option maxHeartbeats 1000000 in
/-- What is written stands behind what was there. -/
theorem writeString_k (B b : Nat) (bs : List Value) (s : ByteArray) (w : World) (h : Lib.IsBuilderF 45 5 B b bs w) (hlen : bs.length + s.size ≤ 1000000) (hBw : B ≤ w.heap.size) :
    Calls Tryz.prog 15 #[.pointer (some ⟨b, 0, none⟩), .string s] w fun e w' => ∃ v, e = .returned v ∧ Lib.IsBuilderF 45 5 B b (bs ++ Lib.strCells s) w' ∧ Below B w w' ∧ Lib.OthersKept 5 (some b) w w' := by
  obtain ⟨i0, hi, hz0, hz1, hz2⟩ := info_parts Tryz.infoU8
  go_enter Tryz.func15, Tryz.ntmps15
  go_wp2_with fail
  refine (copyCheck_k B b bs _ h).mono ?_
  rintro e w1 ⟨rfl, h1, hb1, hz, hk1⟩
  obtain ⟨hB, v, hbk, hown, hne⟩ := h1
  have c0 : w1.cell? ⟨b, 0, none⟩ = some (.pointer (some ⟨b, 0, none⟩)) := by rw [Lib.cell_of_heap hbk]; rfl
  have c1 : w1.cell? ⟨b, 1, none⟩ = some v := by rw [Lib.cell_of_heap hbk]; rfl
  go_wp2_with (at_builtin; refine Lib.wpList_append_own_stringF _ rfl _ _ 22 9 rfl B 5 i0 Tryz.underlying22 Tryz.underlying9 hi hz0 hz1 hz2 _ _ _ rfl hown s rfl ?c3 ?c4 ?c5 ?_)
  case c3 => unfold maxLen; omega
  case c4 => omega
  case c5 => omega
  intro v' w2 hown' hgrow _
  have hlt : b < w1.heap.size := (Array.getElem?_eq_some_iff.1 hbk).1
  have hb2 : w2.heap[b]? = some (.cells #[.pointer (some ⟨b, 0, none⟩), v] 45 (0, 0)) := by
    rw [hgrow.block b hlt (fun e => hne e.symm)]
    exact hbk
  have d0 : w2.cell? ⟨b, 0, none⟩ = some (.pointer (some ⟨b, 0, none⟩)) := by rw [Lib.cell_of_heap hb2]; rfl
  have d1 : w2.cell? ⟨b, 1, none⟩ = some v := by rw [Lib.cell_of_heap hb2]; rfl
  have f1 : w2.frozen? ⟨b, 1, none⟩ = false := Lib.frozen_of_heap hb2 1
  obtain ⟨ao, n', cap, rfl⟩ : ∃ ao n' cap, v' = .slice ao n' cap := by
    rcases hown'.2 with ⟨hv, _⟩ | ⟨g, cap, cur, fz, hv, _⟩
    · exact ⟨_, _, _, hv⟩
    · exact ⟨_, _, _, hv⟩
  have F1 : Lib.BuilderAtF 45 5 B b (.pointer (some ⟨b, 0, none⟩)) (bs ++ Lib.strCells s) (w2.setCell ⟨b, 1, none⟩ (.slice ao n' cap)) := Lib.BuilderAtF.put (T := 45) (e := 5) hB hb2 (bs' := bs ++ Lib.strCells s) (by simpa [Lib.strCells_length] using hown') (by decide)
  have F2 : Below B w (w2.setCell ⟨b, 1, none⟩ (.slice ao n' cap)) := (hb1.grown hgrow (by omega) (fun k hk => (hown.lt k hk).1)).setCell (p := ⟨b, 1, none⟩) hB _
  have F3 : Lib.OthersKept 5 (some b) w (w2.setCell ⟨b, 1, none⟩ (.slice ao n' cap)) := (hk1.grown hgrow (Lib.ownsRowF_kind hown)).setCell ⟨b, 1, none⟩ rfl _
  clear hown' hgrow hb2 hown hbk
  go_wp2
  go_ret2
  exact ⟨_, rfl, .inr F1, F2, F3⟩


theorem slf_here {w : World} {e sz lo hi n : Nat} {v : Value} {G : Nat → Nat → Value} (h : SlF w e sz lo hi v n G) : SlF w e sz 0 w.heap.size v n G := by
  obtain ⟨ao, cap, rfl, h0 | ⟨g, m, f, rfl, h1, h1', h2, h3, h4⟩⟩ := h
  · exact ⟨ao, cap, rfl, .inl h0⟩
  · exact ⟨_, cap, rfl, .inr ⟨g, m, f, rfl, Nat.zero_le _, h3.lt, h2, h3, h4⟩⟩

theorem slf_kept {w w' : World} {e sz lo hi n b : Nat} {v : Value} {G : Nat → Nat → Value} {bs : List Value} {B : Nat} (h : SlF w e sz lo hi v n G) (hk : Lib.OthersKept 5 (some b) w w') (hb : Lib.IsBuilderF 45 5 B b bs w) (h1 : e ≠ 5) (h2 : e ≠ 45) : SlF w' e sz lo hi v n G := by
  refine h.of_block fun g m f hB _ _ => ?_
  obtain ⟨cs, h3, _⟩ := hB
  rw [h3]
  refine hk g _ h3 (fun e1 => ?_) (fun C fz e1 => ?_)
  · injection e1 with e1
    subst e1
    rcases hb with ⟨_, v, h4, _⟩ | ⟨_, v, h4, _⟩ <;> (rw [h3] at h4; injection h4 with h4; injection h4 with _ h5; exact h2 h5)
  · injection e1 with _ h5
    exact h1 h5

theorem dnf_kept {w w' : World} {lo hi m ns nd b : Nat} {v : Value} {C : Nat → Int} {K : Nat → Bool} {X : Nat → Nat → Sec} {D : Nat → Nat → Bool} {bs : List Value} {B : Nat} (h : DnF w lo hi v m ns nd C K X D) (hk : Lib.OthersKept 5 (some b) w w') (hb : Lib.IsBuilderF 45 5 B b bs w) : DnF w' lo hi v m ns nd C K X D := by
  obtain ⟨A1, A2, L, h1, h2, h3, h4⟩ := h
  exact ⟨A1, A2, L, slf_kept h1 hk hb (by decide) (by decide), h2, h3, fun i hi => ⟨(h4 i hi).1, slf_kept (h4 i hi).2.1 hk hb (by decide) (by decide), slf_kept (h4 i hi).2.2 hk hb (by decide) (by decide)⟩⟩

theorem dnAt2 {w : World} {lo hi : Nat} {v : Value} {m ns nd k : Nat} {C : Nat → Int} {K : Nat → Bool} {X : Nat → Nat → Sec} {D : Nat → Nat → Bool} (h : DnF w lo hi v m ns nd C K X D) (hk : k < m) : ∃ g c a1 c1 a2 c2, v = .slice (some ⟨g, 0, none⟩) m c ∧ (w.cell? ⟨g, k * 4, none⟩ = some (.int .i64 (C k)) ∧ w.cell? ⟨g, k * 4 + 1, none⟩ = some (.bool (K k)) ∧ w.cell? ⟨g, k * 4 + 2, none⟩ = some (.slice a1 ns c1) ∧ w.cell? ⟨g, k * 4 + 3, none⟩ = some (.slice a2 nd c2)) ∧ SlF w 72 5 0 w.heap.size (.slice a1 ns c1) ns (secs (X k)) := by
  obtain ⟨A1, A2, L, ⟨ao, c, rfl, h0 | ⟨g, m', f, rfl, _, _, h2, h3, h4⟩⟩, _, _, hh⟩ := h
  · omega
  · obtain ⟨c0, c1, c2, c3⟩ := four h3 h2 hk h4
    obtain ⟨a1, k1, e1, _⟩ := id (hh k hk).2.1
    obtain ⟨a2, k2, e2, _⟩ := id (hh k hk).2.2
    have s1 := slf_here (hh k hk).2.1
    rw [e1] at c2 s1
    rw [e2] at c3
    exact ⟨g, c, a1, k1, a2, k2, rfl, ⟨c0, c1, c2, c3⟩, s1⟩

theorem dnSl {w : World} {lo hi : Nat} {v : Value} {m ns nd : Nat} {C : Nat → Int} {K : Nat → Bool} {X : Nat → Nat → Sec} {D : Nat → Nat → Bool} (h : DnF w lo hi v m ns nd C K X D) : ∃ ao c, v = .slice ao m c := by
  obtain ⟨A1, A2, L, ⟨ao, c, h, _⟩, _⟩ := h
  exact ⟨ao, c, h⟩

/-- What is told is one of four. -/
theorem told_rng (S : Int) (n : Nat) (F T : Nat → Int) (P : Nat → Nat → Int) (k i : Nat) : 0 ≤ (runX S n F T P (k + 1) i).told ∧ (runX S n F T P (k + 1) i).told ≤ 3 := by
  rw [runX_succ]
  show 0 ≤ toldZ _ _ ∧ toldZ _ _ ≤ 3
  unfold toldZ
  repeat' split
  all_goals omega

theorem code_rng (S : Int) (n : Nat) (F T : Nat → Int) (P : Nat → Nat → Int) (k : Nat) : 0 ≤ runC S n F T P k ∧ runC S n F T P k ≤ 1000000 := by
  unfold runC bhC effC passC rstC
  repeat' split
  all_goals omega

theorem doneB_length (C : Int) (X : Nat → Sec) (ns : Nat) (h0 : 0 ≤ C) (h1 : C ≤ 1000000) (hn : ns ≤ 60) : (doneB C X ns).length ≤ 82 := by
  have := Lib.itoa_length_le C (by omega) (by omega)
  unfold doneB
  simp [secsT_length]
  omega

theorem ansL_length (C : Nat → Int) (X : Nat → Nat → Sec) (ns : Nat) (h : ∀ k, 0 ≤ C k ∧ C k ≤ 1000000) (hn : ns ≤ 60) : ∀ k, (ansL C X ns k).length ≤ 83 * k
  | 0 => by simp [ansL]
  | k + 1 => by
    have := ansL_length C X ns h hn k
    have := doneB_length (C k) (X k) ns (h k).1 (h k).2 hn
    simp only [ansL, List.length_append, List.length_cons, List.length_nil]
    omega

/-- What an answer is. -/
def ansZ (S : Int) (n : Nat) (F T : Nat → Int) (t : List UInt8) : List UInt8 :=
  if (rdZ S n F T t).1 = 0 then ansL (runC S n F T (evT (rdZ S n F T t).2.2)) (fun k => runX S n F T (evT (rdZ S n F T t).2.2) (k + 1)) S.toNat (rdZ S n F T t).2.2.length
  else wrongB (rdZ S n F T t).1 (rdZ S n F T t).2.1

theorem rdL_rng {S : Int} {n : Nat} : ∀ (k : Nat) (rest : List UInt8) (acc : List (Int × Int × Int)), acc.length ≤ 2000 → (∀ l, rdL S n k rest acc = .inr l → l.length ≤ 2000) ∧ ∀ b, rdL S n k rest acc = .inl b → b ≤ 2001
  | 0, _, acc, ha => by
    constructor
    · intro l h; simp [rdL] at h
    · intro b h; simp [rdL] at h; omega
  | k + 1, rest, acc, ha => by
    unfold rdL
    split
    · exact ⟨fun l h => (by injection h with h; rw [← h]; exact ha), fun b h => (by cases h)⟩
    · split
      · rename_i h2
        split
        · exact rdL_rng k _ _ (by simp; omega)
        · exact ⟨fun l h => (by cases h), fun b h => (by injection h with h; omega)⟩
      · exact ⟨fun l h => (by cases h), fun b h => (by injection h with h; omega)⟩

theorem rdZ_rng (S : Int) (n : Nat) (F T : Nat → Int) (t : List UInt8) : (0 ≤ (rdZ S n F T t).1 ∧ (rdZ S n F T t).1 ≤ 3) ∧ (rdZ S n F T t).2.1 ≤ 2001 ∧ (rdZ S n F T t).2.2.length ≤ 2000 ∧ ((rdZ S n F T t).1 = 0 → lokZ S n F T = 0) := by
  have h := rdL_rng (S := S) (n := n) (t.length + 1) t [] (by simp)
  unfold rdZ
  split
  · rename_i hl
    split
    · split
      · rename_i b hb
        have := h.2 b hb
        exact ⟨by simp, by simpa using this, by simp, fun _ => hl⟩
      · rename_i l hb
        have := h.1 l hb
        exact ⟨by simp, by simp, by simpa using this, fun _ => hl⟩
    · exact ⟨by simp, by simp, by simp, fun _ => hl⟩
  · exact ⟨by simp, by simp, by simp, fun h => by simp at h⟩

theorem scp_out {w w' : World} {A : Int} {B : Nat} {l : List (Int × Int × Int)} {e : Ending} (h : ScP w w' (A, B, l) e) : ∃ a1 c1, e = .returned (.agg #[.int .i64 A, .int .i64 (B : Int), .slice a1 l.length c1]) ∧ SlF w' 47 3 w.heap.size w'.heap.size (.slice a1 l.length c1) l.length (evs (evT l)) ∧ Below w.heap.size w w' := by
  obtain ⟨v, rfl, ⟨sl, rfl, hs⟩, hb⟩ := h
  obtain ⟨a1, c1, h1, _⟩ := id hs
  simp only at h1
  subst h1
  exact ⟨a1, c1, rfl, hs, hb⟩

end Go.Proofs.YtlpopfhaephfaaaGreatDoor

namespace Go.Proofs.YtlpopfhaephfaaaGreatDoor
open Go.RowKit

set_option maxRecDepth 100000 in
set_option maxHeartbeats 4000000 in
theorem implAnswer_any (S : Int) (g n : Nat) (F T : Nat → Int) (t : List UInt8) (w : World) (hrow : CRow w g n F T) (hL : LayR w) (hlen : t.length ≤ 1048576) :
    Calls Tryz.prog 9 #[.agg #[.int .i64 S, .slice (gA g) n (gC g)], .string ⟨t.toArray⟩] w fun e w' => e = .returned (.string ⟨(ansZ S n F T t).toArray⟩) ∧ Below w.heap.size w w' := by
  obtain ⟨R, hR⟩ : ∃ R, rdZ S n F T t = R := ⟨_, rfl⟩
  have hrng := rdZ_rng S n F T t
  have hans : ansZ S n F T t = if R.1 = 0 then ansL (runC S n F T (evT R.2.2)) (fun k => runX S n F T (evT R.2.2) (k + 1)) S.toNat R.2.2.length else wrongB R.1 R.2.1 := by unfold ansZ; rw [hR]
  rw [hR] at hrng
  rw [hans]
  clear hans
  obtain ⟨W0, eW⟩ : ∃ W0, w.alloc (.cells #[.int .i64 S, .slice (gA g) n (gC g)] 25) = W0 := ⟨_, rfl⟩
  have bW : Below w.heap.size w W0 := by rw [← eW]; exact (by repeat (first | exact Below.refl _ _ | assumption | refine below_alloc ?_ _ | refine Below.setCell ?_ (by first | omega | (simp; done) | (simp; omega)) _ | refine Below.alloc ?_ (by first | omega | (simp; done) | (simp; omega)) _ | refine Below.drew ?_))
  have hP : ∀ W, Below W0.heap.size W0 W → (W.cell? ⟨w.heap.size, 0, none⟩ = some (.int .i64 S) ∧ W.cell? ⟨w.heap.size, 1, none⟩ = some (.slice (gA g) n (gC g))) ∧ CRow W g n F T := by
    have c0 : W0.cell? ⟨w.heap.size, 0, none⟩ = some (.int .i64 S) := by rw [← eW]; simp
    have c1 : W0.cell? ⟨w.heap.size, 1, none⟩ = some (.slice (gA g) n (gC g)) := by rw [← eW]; simp
    exact fun W hb => ⟨⟨by rw [hb.cell (block_lt_of_cell c0)]; exact c0, by rw [hb.cell (block_lt_of_cell c1)]; exact c1⟩, hrow.on (below_on bW hb)⟩
  have lw0 : w.heap.size < W0.heap.size := by rw [← eW]; simp
  have kr := implRead_any S g n F T t W0 (hrow.on bW) (hL.on bW) hlen
  have lL := hL.on bW
  rw [hR] at kr
  obtain ⟨A, B, l⟩ := R
  simp only at hrng ⊢
  obtain ⟨⟨hA0, hA3⟩, hB, hl2, hlk⟩ := hrng
  obtain ⟨RES, hRES⟩ : ∃ RES, (if A = 0 then ansL (runC S n F T (evT l)) (fun k => runX S n F T (evT l) (k + 1)) S.toNat l.length else wrongB A B) = RES := ⟨_, rfl⟩
  rw [hRES]
  have HRES : Hid _ := hRES
  clear hRES
  have EW : Hid _ := eW
  have HP : Hid _ := hP
  clear eW hP hrow hR
  go_enter Tryz.func9, Tryz.ntmps9
  go_wp2_with fail
  rw [EW.out]
  refine kr.mono ?_
  clear kr EW
  rintro e w1 hsc
  obtain ⟨a1, c1, rfl, hs, b1⟩ := scp_out hsc
  clear hsc
  have hx := Box3.lay w1 (.int .i64 A) (.int .i64 (B : Int)) (.slice a1 l.length c1) 31
  have b1' := below_alloc b1 (.cells #[.int .i64 A, .int .i64 (B : Int), .slice a1 l.length c1] 31)
  have hs1 := hs.alloc (.cells #[.int .i64 A, .int .i64 (B : Int), .slice a1 l.length c1] 31)
  obtain ⟨W1, eW1⟩ : ∃ W1, w1.alloc (.cells #[.int .i64 A, .int .i64 (B : Int), .slice a1 l.length c1] 31) = W1 := ⟨_, rfl⟩
  obtain ⟨hb, ehb⟩ : ∃ hb, w1.heap.size = hb := ⟨_, rfl⟩
  rw [eW1] at hx b1' hs1
  rw [ehb] at hx
  have EW1 : Hid _ := eW1
  have EHB : Hid _ := ehb
  have bF := below_on bW b1'
  have lhb : w.heap.size < hb := by have := b1.size; omega
  have sW1 : W1.heap.size = hb + 1 := by rw [← eW1, ← ehb]; simp
  clear eW1 ehb b1 hs bW
  by_cases hA : A = 0
  · subst hA
    have hl := hlk rfl
    have HR2 : Hid (ansL (runC S n F T (evT l)) (fun k => runX S n F T (evT l) (k + 1)) S.toNat l.length = RES) := by have := HRES.out; rwa [if_pos rfl] at this
    clear hlk HRES hA0 hA3
    obtain ⟨r1, r2, r3⟩ := lok_range hl
    have hns : S.toNat ≤ 60 := by omega
    have hSn : ((S.toNat : Nat) : Int) = S := by omega
    have I0 := Lib.IsBuilderF.of (Lib.fresh_isBuilder 45 5 W1)
    have bB : Below W1.heap.size W1 (W1.alloc (.cells #[.pointer none, .slice none 0 0] 45)) := below_alloc (Below.refl _ _) _
    obtain ⟨V, eV⟩ : ∃ V, W1.alloc (.cells #[.pointer none, .slice none 0 0] 45) = V := ⟨_, rfl⟩
    rw [eV] at I0 bB
    obtain ⟨⟨x0, x1⟩, hrw⟩ := HP.out V (below_on b1' bB)
    obtain ⟨y0, y1, y2⟩ := (hx.on bB).cells
    have kr := implRun_ok S g n _ _ l.length S.toNat F T (evT l) _ V hrw (hs1.on bB) hl hSn hl2
    have EV : Hid _ := eV
    clear eV
    go_upto_region 5 with fail
    rw [EW1.out, EHB.out, EV.out]
    go_wp2_with fail
    refine kr.mono ?_
    clear kr EW1 EHB
    rintro e w2 ⟨u, rfl, dn, b2⟩
    have lbb : w.heap.size ≤ hb + 1 := by omega
    obtain ⟨bb, ebb⟩ : ∃ bb, hb + 1 = bb := ⟨_, rfl⟩
    rw [sW1] at I0
    rw [ebb] at I0 lbb ⊢
    have I2 := builder_on I0 b2
    have hbb : w.heap.size ≤ bb := lbb
    have F2 := below_on bF (below_on bB b2)
    obtain ⟨C, eC⟩ : ∃ C, runC S n F T (evT l) = C := ⟨_, rfl⟩
    obtain ⟨X, eX⟩ : ∃ X, (fun k => runX S n F T (evT l) (k + 1)) = X := ⟨_, rfl⟩
    have hCr : ∀ k, 0 ≤ C k ∧ C k ≤ 1000000 := fun k => by rw [← eC]; exact code_rng S n F T (evT l) k
    have hXr : ∀ k i, 0 ≤ (X k i).told ∧ (X k i).told ≤ 3 := fun k i => by rw [← eX]; exact told_rng S n F T (evT l) k i
    rw [eC, eX] at dn
    obtain ⟨ns, ens⟩ : ∃ ns, S.toNat = ns := ⟨_, rfl⟩
    rw [ens] at dn hns
    have HH : Hid (runC S n F T (evT l) = C ∧ (fun k => runX S n F T (evT l) (k + 1)) = X ∧ S.toNat = ns) := ⟨eC, eX, ens⟩
    obtain ⟨ua, uc, eu⟩ := dnSl dn
    subst eu
    have HLR : Hid (∀ W, Below w.heap.size w W → Lay W) := fun W hb => (hL.on hb).toLay
    have zbb : bb ≤ w2.heap.size := Nat.le_of_lt (builder_lt I2)
    clear eC eX ens I0 b2 bB ebb EV x0 x1 hrw y0 y1 y2 hx b1' hs1 lL HP bF hL sW1 lbb lhb
    go_wp2
    go_loopw [30] (fun i wr => ∃ k : Nat, k ≤ l.length ∧ i = .int .i64 k ∧ Lib.IsBuilderF 45 5 bb bb (Lib.byteCells (ansL C X ns k)) wr ∧ DnF wr V.heap.size w2.heap.size (.slice ua l.length uc) l.length ns n C (fun _ => true) X (fun k => runD S n F T (evT l) (k + 1)) ∧ Below w.heap.size w wr ∧ bb ≤ wr.heap.size) (fun i _ => l.length - (intOf i).toNat)
    case atStart => exact ⟨0, Nat.zero_le _, rfl, I2, dn, F2, zbb⟩
    case round =>
      clear I2 dn F2 zbb
      obtain ⟨k, hk, rfl, hI, dn, Bw, zw⟩ := hrel
      by_cases hlt : k < l.length
      · have hi1 : (k : Int) < (l.length : Int) := by omega
        obtain ⟨gd, cd, sa, sc, da, dc, ed, ⟨c0, c1', c2', c3'⟩, hse⟩ := dnAt2 dn hlt
        cases ed
        obtain ⟨Ck, eCk⟩ : ∃ x, C k = x := ⟨_, rfl⟩
        obtain ⟨Xk, eXk⟩ : ∃ x, X k = x := ⟨_, rfl⟩
        have hCk := hCr k
        have hXk := hXr k
        have hdl := doneB_length (C k) (X k) ns hCk.1 hCk.2 hns
        have hal := ansL_length C X ns hCr hns k
        have en : ansL C X ns (k + 1) = ansL C X ns k ++ (doneB (C k) (X k) ns ++ [10]) := rfl
        rw [eCk, eXk] at en hdl
        rw [eCk] at c0 hCk
        rw [eXk] at hse hXk
        have bA := below_alloc (Below.refl wr.heap.size wr) (.cells #[.int .i64 Ck, .bool true, .slice sa ns sc, .slice da n dc] 68)
        have kd := doneLine_any Ck true 0 _ ns n sc dc sa da Xk (wr.alloc (.cells #[.int .i64 Ck, .bool true, .slice sa ns sc, .slice da n dc] 68)) hCk hns (fun i _ => hXk i) (hse.on bA) bA.size (HLR.out _ (below_on Bw bA))
        obtain ⟨D, eD⟩ : ∃ D, doneB Ck Xk ns ++ [10] = D := ⟨_, rfl⟩
        have lD : D.length ≤ 83 := by rw [← eD]; simp; omega
        rw [eD] at kd en
        obtain ⟨Z, eZ⟩ : ∃ Z, ansL C X ns k = Z := ⟨_, rfl⟩
        rw [eZ] at hI en hal
        have EN : Hid _ := en
        have hI1 := builder_on hI bA
        have dn1 := dn.on bA
        have B1 := below_on Bw bA
        clear eD eZ en eCk eXk hse hI dn Bw hdl
        go_wp2_with fail
        refine kd.mono ?_
        clear kd
        rintro e w4 ⟨rfl, b4⟩
        have hI4 := builder_on hI1 b4
        have dn4 := dn1.on b4
        have B4 := below_on B1 b4
        have z4 : bb ≤ w4.heap.size := Nat.le_of_lt (builder_lt hI4)
        clear hI1 dn1 B1 b4 bA c0 c1' c2' c3'
        go_wp2_with fail
        refine (writeString_k _ _ _ _ _ hI4 (by rw [str_size, Lib.byteCells_length]; omega) z4).mono ?_
        rintro e w6 ⟨vv, rfl, hI6, hb6, hk6⟩
        have dn6 := dnf_kept dn4 hk6 hI4
        have B6 : Below w.heap.size w w6 := B4.trans (hb6.mono hbb)
        have hI7 : Lib.IsBuilderF 45 5 bb bb (Lib.byteCells (ansL C X ns (k + 1))) w6 := by
          rw [EN.out]
          have : Lib.byteCells (Z ++ D) = Lib.byteCells Z ++ Lib.strCells ⟨D.toArray⟩ := by simp [Lib.byteCells, Lib.strCells]
          rw [this]
          exact hI6
        have z6 : bb ≤ w6.heap.size := Nat.le_trans z4 hb6.size
        clear hb6 hI6 hI4 hk6 dn4 B4
        go_wp2
        exact ⟨⟨k + 1, hlt, by simp, hI7, dn6, B6, z6⟩, by simp [intOf]; omega⟩
      · have hi1 : ¬ (k : Int) < (l.length : Int) := by omega
        obtain rfl : k = l.length := by omega
        have kS := Tryz.Builder_String_any_k _ _ _ _ hI zw
        clear dn
        go_wp2_with fail
        refine kS.mono ?_
        clear kS
        rintro e w7 ⟨rfl, _, hb7, _⟩
        have FIN : Below w.heap.size w w7 := Bw.trans (hb7.mono hbb)
        go_wp2
        go_ret
        exact ⟨by rw [← HR2.out, HH.out.1, HH.out.2.1, HH.out.2.2]; try rfl, FIN⟩
  · obtain ⟨na, hna⟩ : ∃ x, Lib.itoa A = x := ⟨_, rfl⟩
    obtain ⟨nb, hnb⟩ : ∃ x, Lib.itoa (B : Int) = x := ⟨_, rfl⟩
    have la : na.length ≤ 21 := by rw [← hna]; exact Lib.itoa_length_le A (by omega) (by omega)
    have lb : nb.length ≤ 21 := by rw [← hnb]; exact Lib.itoa_length_le _ (by omega) (by omega)
    obtain ⟨s1, hs1'⟩ : ∃ x, [119, 114, 111, 110, 103, 32] ++ na = x := ⟨_, rfl⟩
    obtain ⟨s2, hs2⟩ : ∃ x, s1 ++ [32] = x := ⟨_, rfl⟩
    obtain ⟨s3, hs3⟩ : ∃ x, s2 ++ nb = x := ⟨_, rfl⟩
    obtain ⟨s4, hs4⟩ : ∃ x, s3 ++ [10] = x := ⟨_, rfl⟩
    have e4 : wrongB A B = s4 := by rw [← hs4, ← hs3, ← hs2, ← hs1', ← hna, ← hnb]; rfl
    have l1 : s1.length ≤ 30 := by rw [← hs1']; simp; omega
    have l2 : s2.length ≤ 31 := by rw [← hs2]; simp; omega
    have l3 : s3.length ≤ 60 := by rw [← hs3]; simp; omega
    have ad1 : ∀ Y : World, (Op.stringOp .add ⟨#[119, 114, 111, 110, 103, 32]⟩ ⟨na.toArray⟩).run Tryz.prog Y = .ok (.string ⟨s1.toArray⟩) Y := fun Y => by rw [← hs1']; exact run_string_add_lists Y [119, 114, 111, 110, 103, 32] na (by simp) (by omega)
    have ad2 : ∀ Y : World, (Op.stringOp .add ⟨s1.toArray⟩ ⟨#[32]⟩).run Tryz.prog Y = .ok (.string ⟨s2.toArray⟩) Y := fun Y => by rw [← hs2]; exact run_string_add_lists Y s1 [32] (by omega) (by simp)
    have ad3 : ∀ Y : World, (Op.stringOp .add ⟨s2.toArray⟩ ⟨nb.toArray⟩).run Tryz.prog Y = .ok (.string ⟨s3.toArray⟩) Y := fun Y => by rw [← hs3]; exact run_string_add_lists Y s2 nb (by omega) (by omega)
    have ad4 : ∀ Y : World, (Op.stringOp .add ⟨s3.toArray⟩ ⟨#[10]⟩).run Tryz.prog Y = .ok (.string ⟨s4.toArray⟩) Y := fun Y => by rw [← hs4]; exact run_string_add_lists Y s3 [10] (by omega) (by simp)
    have kca := fun dd os => Calls.regrown_of ((Tryz.strconv_Itoa A (by omega) (by omega) (Sort.grow (redrawn W1 dd) os) ((lL.on b1').on (below_regrown W1 dd os)).pow).mono fun e w' ⟨h1, k, os', h2⟩ => ⟨h1, show Below (Sort.grow (redrawn W1 dd) os).heap.size (Sort.grow (redrawn W1 dd) os) w' by rw [h2]; exact Lib.below_grow _ _ (Nat.le_refl _) _ _⟩)
    have kcb := fun dd os => Calls.regrown_of ((Tryz.strconv_Itoa (B : Int) (by omega) (by omega) (Sort.grow (redrawn W1 dd) os) ((lL.on b1').on (below_regrown W1 dd os)).pow).mono fun e w' ⟨h1, k, os', h2⟩ => ⟨h1, show Below (Sort.grow (redrawn W1 dd) os).heap.size (Sort.grow (redrawn W1 dd) os) w' by rw [h2]; exact Lib.below_grow _ _ (Nat.le_refl _) _ _⟩)
    rw [hna] at kca
    rw [hnb] at kcb
    obtain ⟨x0, x1, x2⟩ := hx.cells
    have k0 := cell_regrown x0
    have k1 := cell_regrown x1
    have E4 : Hid _ := e4
    clear hna hnb hs1' hs2 hs3 hs4 e4
    go_upto_region 3 with fail
    rw [EW1.out, EHB.out]
    refine wp_region_quiet_below (by kernel_rfl) (by kernel_rfl) ?_
    repeat (go_big_quiet_step (first | with_reducible exact kca _ _ | with_reducible exact kcb _ _))
    refine wpQuiet_nil ?_
    intro _ hw'
    obtain ⟨⟨dq, osq⟩, hw''⟩ := hw'
    have hBq := below_on bF (below_regrown W1 dq osq)
    subst hw''
    clear kca kcb k0 k1 x0 x1 x2
    generalize Sort.grow (redrawn W1 dq) osq = wq at *
    go_wp2
    go_ret
    exact ⟨by rw [← HRES.out, if_neg hA, E4.out]; try rfl, hBq⟩

end Go.Proofs.YtlpopfhaephfaaaGreatDoor

namespace Go.Proofs.YtlpopfhaephfaaaGreatDoor
open Go.RowKit

/-- A slice of bytes that the call owns, as a string. -/
theorem convO {w : World} {B : Nat} {q : Value} {l : List UInt8} (h : w.ownsRow B 5 1 q l.length (Lib.byteCells l)) :
    (convert 22 9 q).run Tryz.prog w = .ok (.string ⟨l.toArray⟩) w := by
  have hc := fun g hg => h.cells (g := g) hg
  rcases h.2 with ⟨rfl, h0⟩ | ⟨g, cap, cur, rfl, _⟩
  · have : l = [] := List.length_eq_zero_iff.1 h0
    subst this
    exact Lib.run_convert_nil_bytes w _ _ 5 0 Tryz.underlying22 Tryz.underlying5 Tryz.underlying9
  · exact run_convert_bytes_back w _ _ 5 ⟨g, 0, none⟩ cap l Tryz.underlying22 Tryz.underlying5 Tryz.underlying9 (fun j hj => hc g rfl j _ (by simp [Lib.byteCells, hj]))

set_option maxRecDepth 100000 in
set_option maxHeartbeats 4000000 in
theorem specAnswer_any (S : Int) (g n : Nat) (F T : Nat → Int) (t : List UInt8) (w : World) (hrow : CRow w g n F T) (hlen : t.length ≤ 1048576) :
    Calls Tryz.prog 10 #[.agg #[.int .i64 S, .slice (gA g) n (gC g)], .string ⟨t.toArray⟩] w fun e w' => e = .returned (.string ⟨(ansZ S n F T t).toArray⟩) ∧ Below w.heap.size w w' := by
  obtain ⟨R, hR⟩ : ∃ R, rdZ S n F T t = R := ⟨_, rfl⟩
  have hrng := rdZ_rng S n F T t
  have hans : ansZ S n F T t = if R.1 = 0 then ansL (runC S n F T (evT R.2.2)) (fun k => runX S n F T (evT R.2.2) (k + 1)) S.toNat R.2.2.length else wrongB R.1 R.2.1 := by unfold ansZ; rw [hR]
  rw [hR] at hrng
  rw [hans]
  clear hans
  obtain ⟨W0, eW⟩ : ∃ W0, w.alloc (.cells #[.int .i64 S, .slice (gA g) n (gC g)] 25) = W0 := ⟨_, rfl⟩
  have bW : Below w.heap.size w W0 := by rw [← eW]; exact (by repeat (first | exact Below.refl _ _ | assumption | refine below_alloc ?_ _ | refine Below.setCell ?_ (by first | omega | (simp; done) | (simp; omega)) _ | refine Below.alloc ?_ (by first | omega | (simp; done) | (simp; omega)) _ | refine Below.drew ?_))
  have hP : ∀ W, Below W0.heap.size W0 W → (W.cell? ⟨w.heap.size, 0, none⟩ = some (.int .i64 S) ∧ W.cell? ⟨w.heap.size, 1, none⟩ = some (.slice (gA g) n (gC g))) ∧ CRow W g n F T := by
    have c0 : W0.cell? ⟨w.heap.size, 0, none⟩ = some (.int .i64 S) := by rw [← eW]; simp
    have c1 : W0.cell? ⟨w.heap.size, 1, none⟩ = some (.slice (gA g) n (gC g)) := by rw [← eW]; simp
    exact fun W hb => ⟨⟨by rw [hb.cell (block_lt_of_cell c0)]; exact c0, by rw [hb.cell (block_lt_of_cell c1)]; exact c1⟩, hrow.on (below_on bW hb)⟩
  have lw0 : w.heap.size < W0.heap.size := by rw [← eW]; simp
  have kr := specRead_any S g n F T t W0 (hrow.on bW) hlen
  rw [hR] at kr
  obtain ⟨A, B, l⟩ := R
  simp only at hrng ⊢
  obtain ⟨⟨hA0, hA3⟩, hB, hl2, hlk⟩ := hrng
  obtain ⟨RES, hRES⟩ : ∃ RES, (if A = 0 then ansL (runC S n F T (evT l)) (fun k => runX S n F T (evT l) (k + 1)) S.toNat l.length else wrongB A B) = RES := ⟨_, rfl⟩
  rw [hRES]
  have HRES : Hid _ := hRES
  clear hRES
  have EW : Hid _ := eW
  have HP : Hid _ := hP
  clear eW hP hrow hR
  go_enter Tryz.func10, Tryz.ntmps10
  go_wp2_with fail
  rw [EW.out]
  refine kr.mono ?_
  clear kr EW
  rintro e w1 hsc
  obtain ⟨a1, c1, rfl, hs, b1⟩ := scp_out hsc
  clear hsc
  have hx := Box3.lay w1 (.int .i64 A) (.int .i64 (B : Int)) (.slice a1 l.length c1) 31
  have b1' := below_alloc b1 (.cells #[.int .i64 A, .int .i64 (B : Int), .slice a1 l.length c1] 31)
  have hs1 := hs.alloc (.cells #[.int .i64 A, .int .i64 (B : Int), .slice a1 l.length c1] 31)
  obtain ⟨W1, eW1⟩ : ∃ W1, w1.alloc (.cells #[.int .i64 A, .int .i64 (B : Int), .slice a1 l.length c1] 31) = W1 := ⟨_, rfl⟩
  obtain ⟨hb, ehb⟩ : ∃ hb, w1.heap.size = hb := ⟨_, rfl⟩
  rw [eW1] at hx b1' hs1
  rw [ehb] at hx
  have EW1 : Hid _ := eW1
  have EHB : Hid _ := ehb
  have bF := below_on bW b1'
  have lhb : w.heap.size < hb := by have := b1.size; omega
  have sW1 : W1.heap.size = hb + 1 := by rw [← eW1, ← ehb]; simp
  clear eW1 ehb b1 hs bW
  by_cases hA : A = 0
  · subst hA
    have hl := hlk rfl
    have HR2 : Hid (ansL (runC S n F T (evT l)) (fun k => runX S n F T (evT l) (k + 1)) S.toNat l.length = RES) := by have := HRES.out; rwa [if_pos rfl] at this
    clear hlk HRES hA0 hA3
    obtain ⟨r1, r2, r3⟩ := lok_range hl
    obtain ⟨i0, hi0, hz0, hz1, hz2⟩ := info_parts Tryz.infoU8
    have hns : S.toNat ≤ 60 := by omega
    have hSn : ((S.toNat : Nat) : Int) = S := by omega
    have bB : Below W1.heap.size W1 (W1.alloc (.cells #[.string ⟨#[46]⟩, .string ⟨#[35]⟩, .string ⟨#[126]⟩, .string ⟨#[33]⟩] 9)) := below_alloc (Below.refl _ _) _
    obtain ⟨V, eV⟩ : ∃ V, W1.alloc (.cells #[.string ⟨#[46]⟩, .string ⟨#[35]⟩, .string ⟨#[126]⟩, .string ⟨#[33]⟩] 9) = V := ⟨_, rfl⟩
    obtain ⟨sg, esg⟩ : ∃ sg, hb + 1 = sg := ⟨_, rfl⟩
    have hsg : ∀ i, i < 4 → V.cell? ⟨sg, i, none⟩ = some (.string ⟨[signC (i : Int)].toArray⟩) := by
      intro i hi
      rw [← eV, ← esg, ← sW1]
      rcases (show i = 0 ∨ i = 1 ∨ i = 2 ∨ i = 3 by omega) with rfl | rfl | rfl | rfl
      all_goals
        simp
        rfl
    rw [eV] at bB
    obtain ⟨⟨x0, x1⟩, hrw⟩ := HP.out V (below_on b1' bB)
    obtain ⟨y0, y1, y2⟩ := (hx.on bB).cells
    have kr := specRun_ok S g n _ _ l.length S.toNat F T (evT l) _ V hrw (hs1.on bB) hl hSn hl2
    have EV : Hid _ := eV
    have ESG : Hid _ := esg
    have HSG : Hid _ := hsg
    clear eV esg hsg
    go_upto_region 6 with fail
    rw [EW1.out, EHB.out, EV.out, ESG.out]
    go_wp2_with fail
    refine kr.mono ?_
    clear kr EW1 EHB
    rintro e w2 ⟨u, rfl, dn, b2⟩
    have F2 := below_on bF (below_on bB b2)
    obtain ⟨C, eC⟩ : ∃ C, runC S n F T (evT l) = C := ⟨_, rfl⟩
    obtain ⟨X, eX⟩ : ∃ X, (fun k => runX S n F T (evT l) (k + 1)) = X := ⟨_, rfl⟩
    have hCr : ∀ k, 0 ≤ C k ∧ C k ≤ 1000000 := fun k => by rw [← eC]; exact code_rng S n F T (evT l) k
    have hXr : ∀ k i, 0 ≤ (X k i).told ∧ (X k i).told ≤ 3 := fun k i => by rw [← eX]; exact told_rng S n F T (evT l) k i
    rw [eC, eX] at dn
    obtain ⟨ns, ens⟩ : ∃ ns, S.toNat = ns := ⟨_, rfl⟩
    rw [ens] at dn hns
    have HH : Hid (runC S n F T (evT l) = C ∧ (fun k => runX S n F T (evT l) (k + 1)) = X ∧ S.toNat = ns) := ⟨eC, eX, ens⟩
    obtain ⟨ua, uc, eu⟩ := dnSl dn
    subst eu
    have HS2 : Hid (∀ W, Below w2.heap.size w2 W → ∀ i, i < 4 → W.cell? ⟨sg, i, none⟩ = some (.string ⟨[signC (i : Int)].toArray⟩)) := fun W hb i hi => by
      have h1 := HSG.out i hi
      rw [(below_on b2 hb).cell (block_lt_of_cell h1)]
      exact h1
    have DN : Hid (∀ W, Below w2.heap.size w2 W → DnF W V.heap.size w2.heap.size (.slice ua l.length uc) l.length ns n C (fun _ => true) X (fun k => runD S n F T (evT l) (k + 1))) := fun W hb => dn.on hb
    have lsg : sg < w2.heap.size := by have := block_lt_of_cell (HS2.out w2 (Below.refl _ _) 0 (by omega)); exact this
    clear eC eX ens bB b2 EV ESG x0 x1 hrw y0 y1 y2 hx b1' hs1 HP bF HSG dn
    go_wp2
    go_loopw [7, 35] (fun q i wr => ∃ k : Nat, k ≤ l.length ∧ i = .int .i64 k ∧ wr.ownsRow w2.heap.size 5 1 q (ansL C X ns k).length (Lib.byteCells (ansL C X ns k)) ∧ Below w2.heap.size w2 wr) (fun _ i _ => l.length - (intOf i).toNat)
    case atStart => exact ⟨0, Nat.zero_le _, rfl, World.ownsRow_nil _ _ _ _, Below.refl _ _⟩
    case round =>
      obtain ⟨k, hk, rfl, ow, Bw⟩ := hrel
      by_cases hlt : k < l.length
      · have hi1 : (k : Int) < (l.length : Int) := by omega
        obtain ⟨gd, cd, sa, sc, da, dc, ed, ⟨c0, c1', c2', c3'⟩, hse⟩ := dnAt2 (DN.out wr Bw) hlt
        cases ed
        obtain ⟨Ck, eCk⟩ : ∃ x, C k = x := ⟨_, rfl⟩
        obtain ⟨Xk, eXk⟩ : ∃ x, X k = x := ⟨_, rfl⟩
        have hCk := hCr k
        have hXk := hXr k
        have hal := ansL_length C X ns hCr hns k
        have en : ansL C X ns (k + 1) = ansL C X ns k ++ (doneB (C k) (X k) ns ++ [10]) := rfl
        rw [eCk, eXk] at en
        rw [eCk] at c0 hCk
        rw [eXk] at hse hXk
        have bA := below_alloc (Below.refl wr.heap.size wr) (.cells #[.int .i64 Ck, .bool true, .slice sa ns sc, .slice da n dc] 68)
        have kA : (wr.alloc (.cells #[.int .i64 Ck, .bool true, .slice sa ns sc, .slice da n dc] 68)).cell? ⟨wr.heap.size, 2, none⟩ = some (.slice sa ns sc) := by simp
        obtain ⟨nb, hnb⟩ : ∃ nb, Lib.itoa Ck = nb := ⟨_, rfl⟩
        have ln : nb.length ≤ 21 := by rw [← hnb]; exact Lib.itoa_length_le Ck (by omega) (by omega)
        have kd := l4decimal_any Ck hCk.1 hCk.2 (wr.alloc (.cells #[.int .i64 Ck, .bool true, .slice sa ns sc, .slice da n dc] 68))
        rw [hnb] at kd
        obtain ⟨s1, hs1⟩ : ∃ s1, nb ++ [32] = s1 := ⟨_, rfl⟩
        have l1 : s1.length ≤ 22 := by rw [← hs1]; simp; omega
        have hadd1 : ∀ Y : World, (Op.stringOp .add ⟨nb.toArray⟩ ⟨#[32]⟩).run Tryz.prog Y = .ok (.string ⟨s1.toArray⟩) Y := fun Y => by rw [← hs1]; exact run_string_add_lists Y nb [32] (by omega) (by simp)
        obtain ⟨D, eD⟩ : ∃ D, s1 ++ secsT Xk ns ++ [10] = D := ⟨_, rfl⟩
        have eD2 : doneB Ck Xk ns ++ [10] = D := by rw [← eD, ← hs1, ← hnb]; simp [doneB]
        have lD : D.length ≤ 83 := by rw [← eD]; simp [secsT_length]; omega
        rw [eD2] at en
        obtain ⟨Z, eZ⟩ : ∃ Z, ansL C X ns k = Z := ⟨_, rfl⟩
        rw [eZ] at ow en hal
        have EN : Hid _ := en
        have ED : Hid _ := eD
        have hse1 := hse.on bA
        have ow1 := own_on ow bA
        have B1 := below_on Bw bA
        have hh := bA.size
        have BA : Hid (Below wr.heap.size wr (wr.alloc (.cells #[.int .i64 Ck, .bool true, .slice sa ns sc, .slice da n dc] 68))) := bA
        clear eD eD2 eZ en eCk eXk hse ow Bw hs1 hnb bA
        go_wp2_with fail
        refine kd.mono ?_
        clear kd
        rintro e w4 ⟨rfl, b4⟩
        have kA4 : w4.cell? ⟨wr.heap.size, 2, none⟩ = some (.slice sa ns sc) := by rw [b4.cell (block_lt_of_cell kA)]; exact kA
        have hse4 := slf_here (hse1.on b4)
        have ow4 := own_on ow1 b4
        have B4 := below_on B1 b4
        clear hse1 ow1 B1 b4 kA c0 c1' c2' c3' BA hh
        go_wp2
        clear kA4 hadd1
        go_loopw [10, 47] (fun q i wq => ∃ j : Nat, j ≤ ns ∧ i = .int .i64 j ∧ q = .string ⟨(s1 ++ secsT Xk j).toArray⟩ ∧ Below w4.heap.size w4 wq) (fun _ i _ => ns - (intOf i).toNat)
        case atStart => exact ⟨0, Nat.zero_le _, rfl, by simp [secsT], Below.refl _ _⟩
        case round =>
          obtain ⟨j, hj, rfl, rfl, Bq⟩ := hrel
          by_cases hjl : j < ns
          · have hj1 : (j : Int) < (ns : Int) := by omega
            obtain ⟨gs, cs, es, d0, d1, d2, d3, d4⟩ := secAt (hse4.below Bq (Nat.le_refl _)) hjl
            cases es
            have htk := hXk j
            obtain ⟨tn, etn⟩ : ∃ tn : Nat, (Xk j).told = (tn : Int) := ⟨(Xk j).told.toNat, by omega⟩
            obtain ⟨x1, e1⟩ : ∃ x, (Xk j).count = x := ⟨_, rfl⟩
            obtain ⟨x2, e2⟩ : ∃ x, (Xk j).lost = x := ⟨_, rfl⟩
            obtain ⟨x3, e3⟩ : ∃ x, (Xk j).sweep = x := ⟨_, rfl⟩
            obtain ⟨x4, e4⟩ : ∃ x, (Xk j).last = x := ⟨_, rfl⟩
            rw [etn] at d0 htk
            rw [e1] at d1
            rw [e2] at d2
            rw [e3] at d3
            rw [e4] at d4
            have ht4 : (tn : Int) < 4 := by omega
            have bA := below_alloc (Below.refl _ _) (.cells #[.int .i64 (tn : Int), .int .i64 x1, .bool x2, .bool x3, .int .i64 x4] 72) (w := wr) (W := wr)
            have hsgc := HS2.out _ (below_on B4 (below_on Bq bA)) tn (by omega)
            obtain ⟨cc, ecc⟩ : ∃ cc, signC (tn : Int) = cc := ⟨_, rfl⟩
            rw [ecc] at hsgc
            have en2 : s1 ++ secsT Xk (j + 1) = s1 ++ secsT Xk j ++ [cc] := by simp [secsT, etn, ecc]
            obtain ⟨Y, eY⟩ : ∃ Y, s1 ++ secsT Xk j = Y := ⟨_, rfl⟩
            obtain ⟨Y2, eY2⟩ : ∃ Y2, Y ++ [cc] = Y2 := ⟨_, rfl⟩
            have lY : Y.length ≤ 100 := by rw [← eY]; simp [secsT_length]; omega
            have hadd3 : ∀ U : World, (Op.stringOp .add ⟨Y.toArray⟩ ⟨#[cc]⟩).run Tryz.prog U = .ok (.string ⟨Y2.toArray⟩) U := fun U => by rw [← eY2]; exact run_string_add_lists U Y [cc] (by omega) (by simp)
            have EN2 : Hid (s1 ++ secsT Xk (j + 1) = Y2) := en2.trans (by rw [eY, eY2])
            rw [eY]
            have B5 := below_on Bq bA
            clear e1 e2 e3 e4 etn ecc en2 eY eY2 bA
            go_wp2
            exact ⟨⟨j + 1, hjl, by simp, by rw [EN2.out], B5⟩, by simp [intOf]; omega⟩
          · have hj1 : ¬ (j : Int) < (ns : Int) := by omega
            obtain rfl : j = ns := by omega
            have ow5 := own_on ow4 Bq
            have B5 := below_on B4 Bq
            have EDo : s1 ++ secsT Xk j ++ [10] = D := ED.out
            have lY : (s1 ++ secsT Xk j).length ≤ 100 := by simp [secsT_length]; omega
            generalize s1 ++ secsT Xk j = Y at *
            have hadd2 : ∀ U : World, (Op.stringOp .add ⟨Y.toArray⟩ ⟨#[10]⟩).run Tryz.prog U = .ok (.string ⟨D.toArray⟩) U := fun U => by rw [← EDo]; exact run_string_add_lists U Y [10] (by omega) (by simp)
            have z5 := B5.size
            clear EDo ED Bq ow4 B4
            go_wp2_with (at_builtin; refine Lib.wpList_append_own_string _ rfl _ _ 22 9 rfl w2.heap.size 5 i0 Tryz.underlying22 Tryz.underlying9 hi0 hz0 hz1 hz2 _ _ _ rfl ow5 ⟨D.toArray⟩ rfl ?c3 ?c4 ?c5 ?_)
            case c3 => first | omega | (unfold maxLen; omega)
            case c4 => first | exact z5 | omega
            intro v' w6 hown' hgrow _
            have B6 : Below w2.heap.size w2 w6 := B5.grown hgrow z5 (fun x hx => (ow5.lt x hx).1)
            have hI6 : w6.ownsRow w2.heap.size 5 1 v' (ansL C X j (k + 1)).length (Lib.byteCells (ansL C X j (k + 1))) := by
              rw [EN.out, List.length_append]
              have : Lib.byteCells (Z ++ D) = Lib.byteCells Z ++ Lib.strCells ⟨D.toArray⟩ := by simp [Lib.byteCells, Lib.strCells]
              rw [this]
              exact hown'
            clear hown' hgrow ow5 B5
            go_wp2
            exact ⟨⟨k + 1, hlt, by simp, hI6, B6⟩, by simp [intOf]; omega⟩
      · have hi1 : ¬ (k : Int) < (l.length : Int) := by omega
        obtain rfl : k = l.length := by omega
        have hcv := convO ow
        have FIN := below_on F2 Bw
        obtain ⟨ao, cap, esl⟩ : ∃ ao cap, u7 = .slice ao (ansL C X ns l.length).length cap := by
          rcases ow.2 with ⟨hv, h0⟩ | ⟨g, cap, cur, hv, _⟩
          · exact ⟨_, _, by rw [h0]; exact hv⟩
          · exact ⟨_, _, hv⟩
        subst esl
        clear ow
        go_wp2
        go_ret
        exact ⟨by rw [← HR2.out, HH.out.1, HH.out.2.1, HH.out.2.2]; try rfl, FIN⟩
  · obtain ⟨na, hna⟩ : ∃ x, Lib.itoa A = x := ⟨_, rfl⟩
    obtain ⟨nb, hnb⟩ : ∃ x, Lib.itoa (B : Int) = x := ⟨_, rfl⟩
    have la : na.length ≤ 21 := by rw [← hna]; exact Lib.itoa_length_le A (by omega) (by omega)
    have lb : nb.length ≤ 21 := by rw [← hnb]; exact Lib.itoa_length_le _ (by omega) (by omega)
    obtain ⟨s1, hs1'⟩ : ∃ x, [119, 114, 111, 110, 103, 32] ++ na = x := ⟨_, rfl⟩
    obtain ⟨s2, hs2⟩ : ∃ x, s1 ++ [32] = x := ⟨_, rfl⟩
    obtain ⟨s3, hs3⟩ : ∃ x, s2 ++ nb = x := ⟨_, rfl⟩
    obtain ⟨s4, hs4⟩ : ∃ x, s3 ++ [10] = x := ⟨_, rfl⟩
    have e4 : wrongB A B = s4 := by rw [← hs4, ← hs3, ← hs2, ← hs1', ← hna, ← hnb]; rfl
    have l1 : s1.length ≤ 30 := by rw [← hs1']; simp; omega
    have l2 : s2.length ≤ 31 := by rw [← hs2]; simp; omega
    have l3 : s3.length ≤ 60 := by rw [← hs3]; simp; omega
    have ad1 : ∀ Y : World, (Op.stringOp .add ⟨#[119, 114, 111, 110, 103, 32]⟩ ⟨na.toArray⟩).run Tryz.prog Y = .ok (.string ⟨s1.toArray⟩) Y := fun Y => by rw [← hs1']; exact run_string_add_lists Y [119, 114, 111, 110, 103, 32] na (by simp) (by omega)
    have ad2 : ∀ Y : World, (Op.stringOp .add ⟨s1.toArray⟩ ⟨#[32]⟩).run Tryz.prog Y = .ok (.string ⟨s2.toArray⟩) Y := fun Y => by rw [← hs2]; exact run_string_add_lists Y s1 [32] (by omega) (by simp)
    have ad3 : ∀ Y : World, (Op.stringOp .add ⟨s2.toArray⟩ ⟨nb.toArray⟩).run Tryz.prog Y = .ok (.string ⟨s3.toArray⟩) Y := fun Y => by rw [← hs3]; exact run_string_add_lists Y s2 nb (by omega) (by omega)
    have ad4 : ∀ Y : World, (Op.stringOp .add ⟨s3.toArray⟩ ⟨#[10]⟩).run Tryz.prog Y = .ok (.string ⟨s4.toArray⟩) Y := fun Y => by rw [← hs4]; exact run_string_add_lists Y s3 [10] (by omega) (by simp)
    have kca := fun dd os => Calls.regrown_of (l4decimal_any A (by omega) (by omega) (Sort.grow (redrawn W1 dd) os))
    have kcb := fun dd os => Calls.regrown_of (l4decimal_any (B : Int) (by omega) (by omega) (Sort.grow (redrawn W1 dd) os))
    rw [hna] at kca
    rw [hnb] at kcb
    obtain ⟨x0, x1, x2⟩ := hx.cells
    have k0 := cell_regrown x0
    have k1 := cell_regrown x1
    have E4 : Hid _ := e4
    clear hna hnb hs1' hs2 hs3 hs4 e4
    go_upto_region 3 with fail
    rw [EW1.out, EHB.out]
    refine wp_region_quiet_below (by kernel_rfl) (by kernel_rfl) ?_
    repeat (go_big_quiet_step (first | with_reducible exact kca _ _ | with_reducible exact kcb _ _))
    refine wpQuiet_nil ?_
    intro _ hw'
    obtain ⟨⟨dq, osq⟩, hw''⟩ := hw'
    have hBq := below_on bF (below_regrown W1 dq osq)
    subst hw''
    clear kca kcb k0 k1 x0 x1 x2
    generalize Sort.grow (redrawn W1 dq) osq = wq at *
    go_wp2
    go_ret
    exact ⟨by rw [← HRES.out, if_neg hA, E4.out]; try rfl, hBq⟩

end Go.Proofs.YtlpopfhaephfaaaGreatDoor
