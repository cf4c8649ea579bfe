import Derived.Test.YtlpopfhaephfaaaQL
import Derived.Test.YtlpopfhaephfaaaRN5
import Derived.Test.YtlpopfhaephfaaaQT
import Derived.Test.YtlpopfhaephfaaaQF
import Derived.Deep.RegionWith
import Derived.Lib.QuietBelow
import Derived.Test.YtlpopfhaephfaaaQC
import Derived.Test.YtlpopfhaephfaaaRows
import Derived.ChangeSlices
import Derived.ProofKit
import Derived.Lib.SmallJoins
import Derived.Deep.SlicePairs
namespace Go.Proofs.Ytlpopfhaephfaaa.Ps
open Go.RowKit

theorem Try.infoSi : (Try.prog.info? 3).map (fun i => (i.zero, i.size, i.bytes)) = some (some (.int .i64 0), 1, 8) := by kernel_rfl
theorem Try.infoSe : (Try.prog.info? 45).map (fun i => (i.zero, i.size, i.bytes)) = some (some (.agg #[.int .i64 0, .int .i64 0, .int .i64 0]), 3, 24) := by kernel_rfl

def aX (k : Nat) : List Int := (List.range k).map fun (i : Nat) => 3 * (i : Int)
theorem aX_succ (k : Nat) : inC (aX (k + 1)) = inC (aX k) ++ [.int .i64 (3 * (k : Int))] := by simp [aX, inC, List.range_succ]
theorem aX_len (k : Nat) : (aX k).length = k := by simp [aX]
theorem aX_at {k i : Nat} (h : i < k) : (aX k).getD i 0 = z3 i := by
  unfold aX z3
  rw [List.getD_eq_getElem?_getD, List.getElem?_map, List.getElem?_range h]
  rfl
theorem z3_ax {k : Nat} (h : k ≤ 30) : AxlesV k z3 := by
  refine ⟨by omega, fun i hi => ⟨?_, ?_⟩⟩
  · unfold prevZ z3
    split <;> omega
  · unfold z3; omega
theorem z9_ax : AxlesV 3 z9 := by
  refine ⟨by omega, fun i hi => ?_⟩
  match i, hi with
  | 0, _ => exact ⟨by decide, by decide⟩
  | 1, _ => exact ⟨by decide, by decide⟩
  | 2, _ => exact ⟨by decide, by decide⟩

/-- the events of the three passings: none is empty -/
theorem pas_some {nA n : Nat} {Z : Nat → Int} {fr tt : Int} {E : List M3} (h2 : ∀ z, z ∈ E ↔ InR nA (n + 1) (lnP 50) Z fr tt z) {a i : Nat} (ha : a < nA) (hi : i < n + 1) (h3 : fr < 50 * ((i : Int) + 1) + Z a) (h4 : 50 * ((i : Int) + 1) + Z a ≤ tt) : 0 < (E.map evT).length := by
  have hm : item (lnP 50) Z a i ∈ E := (h2 _).2 ⟨a, ha, i, hi, rfl, by simpa [item, lnP] using h3, by simpa [item, lnP] using h4⟩
  rw [List.length_map]
  exact List.length_pos_of_mem hm

theorem pas_ln {nA n : Nat} {Z : Nat → Int} {fr tt : Int} {E : List M3} (h2 : ∀ z, z ∈ E ↔ InR nA (n + 1) (lnP 50) Z fr tt z) : ∀ e ∈ E.map evT, lnE n e := by
  intro e he
  obtain ⟨z, hz, rfl⟩ := List.mem_map.1 he
  have := inR_p ((h2 z).1 hz)
  exact .inl ⟨rfl, this.1, by show z.p ≤ (n : Int); omega, rfl⟩

set_option maxRecDepth 100000 in
set_option maxHeartbeats 64000000 in
theorem sweep_small (m1 c1 : Nat) (a1 : Option Addr) (C1 : Nat → Int) (w : World) (hc : Cod w w.heap.size a1 m1 C1) (hm1 : m1 ≤ 1048576) :
    Calls Try.prog 6 #[.slice a1 m1 c1] w fun e w' => e = .returned (.bool true) ∧ Below w.heap.size w w' := by
  have i1 : ¬ (1048576 : Int) < m1 := by omega
  obtain ⟨i0, hi, hz0, hz1, hz2⟩ := info_parts Try.infoSi
  obtain ⟨j0, gi, gz0, gz1, gz2⟩ := info_parts Try.infoSe
  obtain ⟨x0, x0'⟩ := wbV_range hc 0
  obtain ⟨x1, x1'⟩ := wbV_range hc 1
  obtain ⟨x2, x2'⟩ := wbV_range hc 2
  have kw0 := fun W hW => wByte_any w.heap.size m1 c1 0 a1 C1 W hW hm1 (by omega)
  have kw1 := fun W hW => wByte_any w.heap.size m1 c1 1 a1 C1 W hW hm1 (by omega)
  have kw2 := fun W hW => wByte_any w.heap.size m1 c1 2 a1 C1 W hW hm1 (by omega)
  obtain ⟨b0, eb0⟩ : ∃ b, wbV C1 m1 0 = b := ⟨_, rfl⟩
  obtain ⟨b1, eb1⟩ : ∃ b, wbV C1 m1 1 = b := ⟨_, rfl⟩
  obtain ⟨b2, eb2⟩ : ∃ b, wbV C1 m1 2 = b := ⟨_, rfl⟩
  rw [eb0] at x0 x0' kw0
  rw [eb1] at x1 x1' kw1
  rw [eb2] at x2 x2' kw2
  obtain ⟨n, en⟩ : ∃ n : Nat, 2 + b0 % 5 = (n : Int) := ⟨(2 + b0 % 5).toNat, by omega⟩
  have n1 : 2 ≤ n ∧ n ≤ 6 := by omega
  obtain ⟨n1, n2⟩ := n1
  have hnn : ¬ (n : Int) - 1 = 0 := by omega
  have hr := Int.emod_lt_of_pos b1 (show (0 : Int) < (n : Int) - 1 by omega)
  have hr' := Int.emod_nonneg b1 (show (n : Int) - 1 ≠ 0 by omega)
  obtain ⟨k, ek⟩ : ∃ k : Nat, 1 + b1 % ((n : Int) - 1) = (k : Int) := ⟨(1 + b1 % ((n : Int) - 1)).toNat, by omega⟩
  have k1 : 1 ≤ k ∧ k < n := by omega
  obtain ⟨k1, k2⟩ := k1
  obtain ⟨A, eA⟩ : ∃ A : Nat, b2 % 30 + 1 = (A : Int) := ⟨(b2 % 30 + 1).toNat, by omega⟩
  have A1 : 1 ≤ A ∧ A ≤ 30 := by omega
  obtain ⟨A1, A2⟩ := A1
  have t0 : b0.tmod 5 = b0 % 5 := Int.tmod_eq_emod_of_nonneg x0
  have t1 : b1.tmod ((n : Int) - 1) = b1 % ((n : Int) - 1) := Int.tmod_eq_emod_of_nonneg x1
  have t2 : b2.tmod 30 = (A : Int) - 1 := by rw [Int.tmod_eq_emod_of_nonneg x2]; omega
  obtain ⟨r0, er0⟩ : ∃ r, b0 % 5 = r := ⟨_, rfl⟩
  obtain ⟨r1, er1⟩ : ∃ r, b1 % ((n : Int) - 1) = r := ⟨_, rfl⟩
  rw [er0] at t0 en
  rw [er1] at t1 ek hr hr'
  have hr0 : 0 ≤ r0 ∧ r0 < 5 := by omega
  obtain ⟨hr0, hr0'⟩ := hr0
  clear eb0 eb1 eb2 eA er0 er1
  go_enter Try.func6, Try.ntmps6
  go_wp2_with fail
  refine (kw0 w hc).mono ?_
  rintro _ wz ⟨rfl, hz⟩
  rw [hz]
  clear hz wz
  go_wp2_with fail
  refine (kw1 w hc).mono ?_
  rintro _ wz ⟨rfl, hz⟩
  rw [hz]
  clear hz wz kw0 kw1
  go_wp2_with fail
  refine (madeLine_any n 50 w (by omega) (by omega) (by omega) (by omega)).mono ?_
  rintro _ w1 ⟨g, gp, rfl, R1, P1, B1⟩
  obtain ⟨V, eV⟩ : ∃ V, w1.alloc (.cells #[.int .i64 (n : Int), .slice (gA g) (n + 1) (gC g)] 25) = V := ⟨_, rfl⟩
  have lay : Box2 V w1.heap.size 25 (.int .i64 (n : Int)) (.slice (gA g) (n + 1) (gC g)) := by rw [← eV]; exact Box2.lay _ _ _ _
  have row : CRow V g (n + 1) lnF (lnT n) := by rw [← eV]; exact R1.alloc _
  have pst : PRow V gp (n + 1) (lnP 50) := by rw [← eV]; exact P1.on (by repeat (first | exact Below.refl _ _ | assumption | refine below_alloc ?_ _ | refine Below.setCell ?_ (by first | omega | (simp; done) | (simp; omega)) _ | refine Below.alloc ?_ (by first | omega | (simp; done) | (simp; omega)) _ | refine Below.drew ?_))
  have bel : Below w.heap.size w V := by rw [← eV]; exact below_alloc B1 _
  have cod : Cod V w.heap.size a1 m1 C1 := hc.below bel
  obtain ⟨lb, elb⟩ : ∃ lb, w1.heap.size = lb := ⟨_, rfl⟩
  rw [elb] at lay
  have EV : Hid _ := eV
  have ELB : Hid _ := elb
  have own0 : V.ownsRow V.heap.size 3 1 (.slice none 0 0) 0 (inC (aX 0)) := World.ownsRow_nil _ _ _ _
  clear R1 P1 B1 hc elb eV
  go_wp2
  rw [EV.out, ELB.out]
  go_loopw [7, 8] (fun q i wr => ∃ a : Nat, a ≤ A ∧ i = .int .i64 a ∧ wr.ownsRow V.heap.size 3 1 q a (inC (aX a)) ∧ Below V.heap.size V wr) (fun _ i _ => A - (intOf i).toNat)
  case atStart => exact ⟨0, Nat.zero_le _, rfl, own0, Below.refl _ _⟩
  case round =>
    clear own0 EV ELB
    obtain ⟨a, ha, rfl, own, hb⟩ := hrel
    have cw := kw2 wr (cod.below (hb.mono bel.size))
    by_cases hlt : a < A
    · have hle : (a : Int) ≤ (A : Int) - 1 := by omega
      have ownU := ow_on own (show Below wr.heap.size wr (wr.alloc (.cells #[.int .i64 (3 * (a : Int))] 3)) from (by repeat (first | exact Below.refl _ _ | assumption | refine below_alloc ?_ _ | refine Below.setCell ?_ (by first | omega | (simp; done) | (simp; omega)) _ | refine Below.alloc ?_ (by first | omega | (simp; done) | (simp; omega)) _ | refine Below.drew ?_)))
      have hnw : ∀ j u, [Value.int .i64 (3 * (a : Int))][j]? = some u → (wr.alloc (.cells #[.int .i64 (3 * (a : Int))] 3)).cell? ((⟨wr.heap.size, 0, none⟩ : Addr).add j) = some u := by
        intro j u hu
        have hj : j < 1 := (List.getElem?_eq_some_iff.1 hu).1
        obtain rfl : j = 0 := by omega
        simpa [Addr.add] using hu
      have h1c : ∀ x ∈ [Value.int .i64 (3 * (a : Int))], x.oneCell' = true := fun x hx => by
        simp only [List.mem_cons, List.not_mem_nil, or_false] at hx
        subst hx; rfl
      have EX : Hid _ := aX_succ a
      have hbX := below_alloc hb (.cells #[.int .i64 (3 * (a : Int))] 3)
      have hbq := hbX.size
      have HBX : Hid _ := hbX
      clear own hbX hb
      go_wp2_with fail
      refine cw.mono ?_
      rintro _ wz ⟨rfl, hz⟩
      rw [hz]
      clear hz wz cw
      go_wp2_with (first
        | (at_builtin; refine wpList_append_own _ rfl _ _ 48 rfl V.heap.size 3 i0 _ 1 8 Try.underlying48 hi hz0 hz1 hz2 rfl (by decide) _ _ _ rfl ownU ⟨wr.heap.size, 0, none⟩ 1 1 [.int .i64 (3 * (a : Int))] rfl rfl hnw h1c (by unfold maxLen; omega) (by omega) hbq ?_; intro v' w6 hown' hgrow hnil; obtain ⟨g6, cap6, rfl⟩ := ow_some hown' (by omega); have tg := ow_grown ownU hgrow))
      go_roundw
      case rel => exact ⟨a + 1, by omega, by go_num, by rw [EX.out]; exact hown', Below.trans HBX.out (tg.below (Nat.le_refl _) hbq)⟩
      case measure => simp [intOf] <;> omega
    · have haA : a = A := by omega
      subst haA
      have hle : ¬ (a : Int) ≤ (a : Int) - 1 := by omega
      obtain ⟨ga, rfl, ax⟩ := ARow.of_own own (aX_len a)
      have ax : ARow wr ga a z3 := by
        rcases ax with h | ⟨b, m, f, c1, c2, c3, c4⟩
        · exact .inl h
        · exact .inr ⟨b, m, f, c1, c2, c3, fun i hi => (c4 i hi).trans (by show Value.int .i64 ((aX a).getD i 0) = _; rw [aX_at hi])⟩
      have lay := lay.on hb
      have row := row.on hb
      have pst := pst.on hb
      have bel := below_on bel hb
      have kp := fun fr tt W (hW : Below wr.heap.size wr W) f1 f2 f3 => passing_ln n 50 g gp ga a z3 fr tt W (by omega) (by omega) (by omega) (by omega) (row.on hW) (pst.on hW) (ax.on hW) (z3_ax A2) f1 f2 f3
      have KP : Hid _ := kp
      have kp9 := fun ga' W (hW : Below wr.heap.size wr W) hA' => passing_ln n 50 g gp ga' 3 z9 0 1000 W (by omega) (by omega) (by omega) (by omega) (row.on hW) (pst.on hW) hA' z9_ax (by omega) (by omega) (by omega)
      have KP9 : Hid _ := kp9
      have LAY : Hid _ := lay
      have ROW : Hid _ := row
      have BEL : Hid _ := bel
      obtain ⟨y0, y1⟩ := lay.cells
      have ly := lay.lt
      clear own hb kp kp9 cod kw2 lay row pst bel ax
      go_wp2_with fail
      refine cw.mono ?_
      rintro _ wz ⟨rfl, hz⟩
      rw [hz]
      clear hz wz cw
      go_wp2_with fail
      refine (KP.out 0 120 wr (Below.refl _ _) (by omega) (by omega) (by omega)).mono ?_
      rintro _ w2 ⟨v1, E1, rfl, ⟨s1, e1⟩, l1, o1, hb2⟩
      have mul7 : a * (n + 1) ≤ 30 * 7 := Nat.mul_le_mul A2 (by omega)
      obtain ⟨L1, eL1⟩ : ∃ L, E1.map evT = L := ⟨_, rfl⟩
      have len1 : L1.length ≤ 210 := by rw [← eL1, List.length_map]; omega
      have LE1 : Hid (∀ e ∈ L1, lnE n e) := by rw [← eL1]; exact pas_ln e1
      have T1 : Hid (∀ i, i < n → L1.filter (tch i) = q1 a i) := fun i hi => by rw [← eL1]; exact pas_tch s1 e1 i (by omega)
      rw [eL1] at o1
      have ownU := ow_on o1 (show Below w2.heap.size w2 (w2.alloc (.cells #[.int .i64 3, .int .i64 (k : Int), .int .i64 0] 45)) from (by repeat (first | exact Below.refl _ _ | assumption | refine below_alloc ?_ _ | refine Below.setCell ?_ (by first | omega | (simp; done) | (simp; omega)) _ | refine Below.alloc ?_ (by first | omega | (simp; done) | (simp; omega)) _ | refine Below.drew ?_)))
      have hnw := nw_cells3 w2 (.int .i64 3) (.int .i64 (k : Int)) (.int .i64 0) 45
      have h1c := tr_one 3 (k : Int) 0
      have hbX := below_alloc hb2 (.cells #[.int .i64 3, .int .i64 (k : Int), .int .i64 0] 45)
      have hbq := hbX.size
      have HBX : Hid _ := hbX
      clear o1 hb2 s1 e1 l1 eL1 y0 y1 ly hbX E1
      go_upto_region 13 with (first
        | (at_builtin; refine wpList_append_own _ rfl _ _ 26 rfl wr.heap.size 45 j0 _ 3 24 Try.underlying26 gi gz0 gz1 gz2 rfl (by decide) _ _ _ rfl ownU ⟨w2.heap.size, 0, none⟩ 1 1 [.int .i64 3, .int .i64 (k : Int), .int .i64 0] rfl rfl hnw h1c (by unfold maxLen; omega) (by omega) hbq ?_; intro v2 w3 o2 gr2 hn2))
      have B3 : Below wr.heap.size wr w3 := Below.trans HBX.out ((ow_grown ownU gr2).below (Nat.le_refl _) hbq)
      have B3H : Hid _ := B3
      have O2 : Hid _ := o2
      clear ownU hnw h1c hbq HBX gr2 hn2 o2
      obtain ⟨y0, y1⟩ := (Box2.on LAY.out B3).cells
      have ly := (Box2.on LAY.out B3).lt
      clear B3
      go_wp2_with fail
      refine (KP.out 120 1000 w3 B3H.out (by omega) (by omega) (by omega)).mono ?_
      rintro _ w4 ⟨v3, E2, rfl, ⟨s2, e2⟩, l2, o3, hb4⟩
      obtain ⟨L2, eL2⟩ : ∃ L, E2.map evT = L := ⟨_, rfl⟩
      have len2 : L2.length ≤ 210 := by rw [← eL2, List.length_map]; omega
      have pos2 : 0 < L2.length := by
        rw [← eL2]
        refine pas_some e2 (a := 0) (i := n) A1 (by omega) ?_ ?_
        · unfold z3; omega
        · unfold z3; omega
      have LE2 : Hid (∀ e ∈ L2, lnE n e) := by rw [← eL2]; exact pas_ln e2
      have T2 : Hid (∀ i, i < n → L2.filter (tch i) = q2 a i) := fun i hi => by rw [← eL2]; exact pas_tch s2 e2 i (by omega)
      rw [eL2] at o3
      obtain ⟨g3, c3, rfl⟩ := ow_some o3 pos2
      have src : SlF w4 45 3 w3.heap.size w4.heap.size (.slice (some ⟨g3, 0, none⟩) L2.length c3) L2.length (evs (trP L2)) := ow_slf o3 (fun i hi j hj => trC_get L2 i j hi hj)
      have hnw : ∀ j u, (trC L2)[j]? = some u → w4.cell? ((⟨g3, 0, none⟩ : Addr).add j) = some u := by
        rcases src_on src (Below.refl _ _) with h | ⟨ad, e, h⟩
        · omega
        · cases e; exact h
      have ownU := ow_on (show w3.ownsRow _ _ _ _ _ _ from O2.out) hb4
      have B4 := Below.trans B3H.out (hb4.mono (Below.size B3H.out))
      have hbq := B4.size
      have hl2 := trC_len L2
      have h1c := trC_one L2
      have HB4 : Hid _ := B4
      clear o3 src hb4 s2 e2 l2 eL2 y0 y1 ly E2 O2 B4 B3H
      go_upto_region 14 with (first
        | (at_builtin; refine wpList_append_own _ rfl _ _ 26 rfl wr.heap.size 45 j0 _ 3 24 Try.underlying26 gi gz0 gz1 gz2 rfl (by decide) _ _ _ rfl ownU ⟨g3, 0, none⟩ L2.length c3 (trC L2) rfl hl2 hnw h1c (by unfold maxLen; omega) (by omega) hbq ?_; intro v4 w5 o4 gr4 hn4))
      have B5 : Below wr.heap.size wr w5 := Below.trans HB4.out ((ow_grown ownU gr4).below (Nat.le_refl _) hbq)
      clear ownU hnw h1c hbq HB4 gr4 hn4 hl2
      have ownU := ow_on o4 (show Below w5.heap.size w5 (w5.alloc (.cells #[.int .i64 4, .int .i64 (k : Int), .int .i64 0] 45)) from (by repeat (first | exact Below.refl _ _ | assumption | refine below_alloc ?_ _ | refine Below.setCell ?_ (by first | omega | (simp; done) | (simp; omega)) _ | refine Below.alloc ?_ (by first | omega | (simp; done) | (simp; omega)) _ | refine Below.drew ?_)))
      have hnw := nw_cells3 w5 (.int .i64 4) (.int .i64 (k : Int)) (.int .i64 0) 45
      have h1c := tr_one 4 (k : Int) 0
      have hbX := below_alloc B5 (.cells #[.int .i64 4, .int .i64 (k : Int), .int .i64 0] 45)
      have hbq := hbX.size
      have HBX : Hid _ := hbX
      clear o4 B5 hbX
      go_upto_region 15 with (first
        | (at_builtin; refine wpList_append_own _ rfl _ _ 26 rfl wr.heap.size 45 j0 _ 3 24 Try.underlying26 gi gz0 gz1 gz2 rfl (by decide) _ _ _ rfl ownU ⟨w5.heap.size, 0, none⟩ 1 1 [.int .i64 4, .int .i64 (k : Int), .int .i64 0] rfl rfl hnw h1c (by unfold maxLen; omega) (by omega) hbq ?_; intro v5 w6 o5 gr5 hn5))
      have B6 : Below wr.heap.size wr w6 := Below.trans HBX.out ((ow_grown ownU gr5).below (Nat.le_refl _) hbq)
      obtain ⟨Lb, eLb⟩ : ∃ L, L1 ++ [(3, (k : Int), 0)] ++ L2 ++ [(4, (k : Int), 0)] = L := ⟨_, rfl⟩
      have lenb : Lb.length = L1.length + 1 + L2.length + 1 := by rw [← eLb]; simp; omega
      have oB : w6.ownsRow wr.heap.size 45 3 v5 Lb.length (trC Lb) := by
        have e : trC Lb = trC L1 ++ [.int .i64 3, .int .i64 (k : Int), .int .i64 0] ++ trC L2 ++ [.int .i64 4, .int .i64 (k : Int), .int .i64 0] := by rw [← eLb, trC_snoc, trC_app, trC_snoc]
        rw [e, lenb]
        exact o5
      obtain ⟨g5, c5, rfl⟩ := ow_some oB (by omega)
      have ELB : Hid _ := eLb
      have OB : Hid (w6.ownsRow wr.heap.size 45 3 (.slice (some ⟨g5, 0, none⟩) Lb.length c5) Lb.length (trC Lb)) := oB
      obtain ⟨ga9, q1', q2'⟩ := gA_some w6.heap.size 3
      have A9 : ARow (w6.alloc (.cells #[.int .i64 0, .int .i64 9, .int .i64 12] 3)) ga9 3 z9 := .inr ⟨w6.heap.size, 3, fun i => .int .i64 (z9 i), q1', Nat.le_refl _, Blk.new w6 #[.int .i64 0, .int .i64 9, .int .i64 12] 3 (fun i => .int .i64 (z9 i)) (fun i hi => by simp at hi; match i, hi with | 0, _ => rfl | 1, _ => rfl | 2, _ => rfl), fun _ _ => rfl⟩
      have bX6 : Below w6.heap.size w6 (w6.alloc (.cells #[.int .i64 0, .int .i64 9, .int .i64 12] 3)) := (by repeat (first | exact Below.refl _ _ | assumption | refine below_alloc ?_ _ | refine Below.setCell ?_ (by first | omega | (simp; done) | (simp; omega)) _ | refine Below.alloc ?_ (by first | omega | (simp; done) | (simp; omega)) _ | refine Below.drew ?_))
      have B6x := below_alloc B6 (.cells #[.int .i64 0, .int .i64 9, .int .i64 12] 3)
      have k9 := KP9.out ga9 _ B6x A9
      rw [q1', q2'] at k9
      obtain ⟨y0, y1⟩ := (Box2.on LAY.out B6).cells
      have ly := (Box2.on LAY.out B6).lt
      have OX : Hid _ := ow_on oB bX6
      have BX : Hid _ := B6x
      clear ownU hnw h1c hbq HBX gr5 hn5 o5 eLb oB q1' q2' A9 bX6 B6x B6 KP KP9
      go_wp2_with fail
      refine k9.mono ?_
      rintro _ w8 ⟨v6, E3, rfl, ⟨s3, e3⟩, l3, o6, hb8⟩
      obtain ⟨L3, eL3⟩ : ∃ L, E3.map evT = L := ⟨_, rfl⟩
      have len3 : L3.length ≤ 210 := by rw [← eL3, List.length_map]; omega
      have pos3 : 0 < L3.length := by
        rw [← eL3]
        refine pas_some e3 (a := 0) (i := 0) (by omega) (by omega) ?_ ?_
        · decide
        · decide
      have LE3 : Hid (∀ e ∈ L3, lnE n e) := by rw [← eL3]; exact pas_ln e3
      have T3 : Hid (∀ i, i < n → L3.filter (tch i) = q3 i) := fun i hi => by rw [← eL3]; exact pas_tch s3 e3 i (by omega)
      rw [eL3] at o6
      obtain ⟨g6, c6, rfl⟩ := ow_some o6 pos3
      have oB := ow_on (show (w6.alloc (.cells #[.int .i64 0, .int .i64 9, .int .i64 12] 3)).ownsRow _ _ _ _ _ _ from OX.out) hb8
      have B8 : Below wr.heap.size wr w8 := Below.trans BX.out (hb8.mono (Below.size BX.out))
      have b5lt := (own_block_lt (show (w6.alloc (.cells #[.int .i64 0, .int .i64 9, .int .i64 12] 3)).ownsRow _ _ _ _ _ _ from OX.out)) g5 rfl
      obtain ⟨lo3, elo3⟩ : ∃ l, (w6.alloc (.cells #[.int .i64 0, .int .i64 9, .int .i64 12] 3)).heap.size = l := ⟨_, rfl⟩
      rw [elo3] at b5lt o6
      have g5lt := b5lt.2
      have lo3le : lo3 ≤ w8.heap.size := by rw [← elo3]; exact hb8.size
      have SB : SlF w8 45 3 wr.heap.size w8.heap.size (.slice (some ⟨g5, 0, none⟩) Lb.length c5) Lb.length (evs (trP Lb)) := ow_slf oB (fun i hi j hj => trC_get Lb i j hi hj)
      have S3 : SlF w8 45 3 lo3 w8.heap.size (.slice (some ⟨g6, 0, none⟩) L3.length c6) L3.length (evs (trP L3)) := ow_slf o6 (fun i hi j hj => trC_get L3 i j hi hj)
      have lay8 := Box2.on LAY.out B8
      have row8 := CRow.on ROW.out B8
      have bel8 : Below w.heap.size w w8 := Below.trans BEL.out (B8.mono (Below.size BEL.out))
      have OB8 : Hid _ := oB
      have hww : w.heap.size ≤ wr.heap.size := Below.size BEL.out
      have ln0 := ln_ok (n := n) (by omega) (by omega)
      have OKH : Hid (lokZ (n : Int) (n + 1) lnF (lnT n) = 0) := ln0
      clear k9 o6 hb8 s3 e3 l3 eL3 E3 OX BX OB b5lt elo3 oB B8 LAY ROW BEL ln0 y0 y1 ly lenb
      have lenb : Lb.length ≤ 422 := by
        rw [← ELB.out]
        simp only [List.length_append, List.length_cons, List.length_nil]
        omega
      go_upto_region 16 with fail
      obtain ⟨LL, eLL⟩ : ∃ L, Lb ++ L3 = L := ⟨_, rfl⟩
      have lLL : LL.length ≤ 700 := by rw [← eLL, List.length_append]; omega
      have ELL : Hid (Lb ++ L3 = LL) := eLL
      clear eLL
      refine wp_region_any (by kernel_rfl) ?_
      refine InC.any (C := fun W => Below w8.heap.size w8 W) _ _ _ _ ?_
      have C0 : Below w8.heap.size w8 w8.drew := (Below.refl _ _).drew
      have C1 : Below w8.heap.size w8 (w8.alloc (.cells #[] 45)).drew := (by repeat (first | exact Below.refl _ _ | assumption | refine below_alloc ?_ _ | refine Below.setCell ?_ (by first | omega | (simp; done) | (simp; omega)) _ | refine Below.alloc ?_ (by first | omega | (simp; done) | (simp; omega)) _ | refine Below.drew ?_))
      have O1 : (w8.alloc (.cells #[] 45)).drew.ownsRow w8.heap.size 45 3 (.slice (some ⟨w8.heap.size, 0, none⟩) 0 0) 0 [] := own_empty w8 _ _ _ (Nat.le_refl _)
      refine InC.take (i := 0) (v := .agg #[.int .i64 (n : Int), .slice (gA g) (n + 1) (gC g)]) rfl (by kernel_rfl) (by kernel_rfl) (by kernel_rfl) (fun _ _ _ h => h) C0 (Or.inl ⟨by rfl, ?_⟩) ?_
      · intro W hW
        obtain ⟨y0, y1⟩ := (lay8.on hW).cells
        go_simp
      refine InC.take (i := 2) (v := .slice (some ⟨g5, 0, none⟩) Lb.length c5) rfl (by kernel_rfl) (by kernel_rfl) (by kernel_rfl) (fun _ _ _ h => h) C0 (Or.inl ⟨by rfl, ?_⟩) ?_
      · intro W hW
        go_simp
      refine InC.take (i := 4) (v := .slice (some ⟨g6, 0, none⟩) L3.length c6) rfl (by kernel_rfl) (by kernel_rfl) (by kernel_rfl) (fun _ _ _ h => h) C0 (Or.inl ⟨by rfl, ?_⟩) ?_
      · intro W hW
        go_simp
      refine InC.next1 (i := 1) (by kernel_rfl) (InC.one rfl fun K hK => ?_)
      go_simp
      refine hK _ _ C1 ?_
      clear hK K
      refine InC.next1 (i := 3) (by kernel_rfl) (InC.one rfl fun K hK => ?_)
      refine step_append_any rfl (.tmp 74) (.tmp 75) 26 rfl w8.heap.size 45 j0 _ 3 24 Try.underlying26 gi gz0 gz1 gz2 rfl (by decide) (.slice (some ⟨w8.heap.size, 0, none⟩) 0 0) 0 [] rfl O1 (some ⟨g5, 0, none⟩) Lb.length c5 (trC Lb) rfl (trC_len Lb) (src_on SB C1) (trC_one Lb) (by unfold maxLen; omega) (by omega) C1.size ?_
      intro va Wa owna gra
      have Ca : Below w8.heap.size w8 Wa := C1.trans ((ow_grown O1 gra).below (Nat.le_refl _) C1.size)
      refine hK _ _ Ca ?_
      clear hK K
      refine InC.next1 (i := 5) (by kernel_rfl) (InC.one rfl fun K hK => ?_)
      refine step_append_any rfl (.tmp 76) (.tmp 77) 26 rfl w8.heap.size 45 j0 _ 3 24 Try.underlying26 gi gz0 gz1 gz2 rfl (by decide) va (0 + Lb.length) ([] ++ trC Lb) rfl owna (some ⟨g6, 0, none⟩) L3.length c6 (trC L3) rfl (trC_len L3) (src_on S3 Ca) (trC_one L3) (by unfold maxLen; omega) (by omega) Ca.size ?_
      intro vb Wb ownb grb
      have Cb : Below w8.heap.size w8 Wb := Ca.trans ((ow_grown owna grb).below (Nat.le_refl _) Ca.size)
      refine hK _ _ Cb ?_
      clear hK K
      have slb : SlF Wb 45 3 w8.heap.size Wb.heap.size vb LL.length (evs (trP LL)) := by
        have e : (0 + Lb.length + L3.length) = LL.length := by rw [← ELL.out, List.length_append]; omega
        have e2 : [] ++ trC Lb ++ trC L3 = trC LL := by rw [← ELL.out, trC_app]; rfl
        rw [e, e2] at ownb
        exact ow_slf ownb (fun i hi j hj => trC_get LL i j hi hj)
      have kr := implRun_ok (n : Int) g (n + 1) _ _ LL.length n lnF (lnT n) (trP LL) _ Wb (row8.on Cb) slb OKH.out rfl (by omega)
      refine InC.next1 (i := 6) (by kernel_rfl) (InC.one rfl fun K hK => ?_)
      go_simp
      refine kr.mono ?_
      rintro _ w9 ⟨vr, rfl, D9, br⟩
      have Cr : Below w8.heap.size w8 w9 := below_on Cb br
      refine hK _ _ Cr ?_
      clear hK K kr slb ownb owna gra grb
      refine InC.next1 (i := 7) (by kernel_rfl) (InC.one rfl fun K hK => ?_)
      go_simp
      refine hK _ _ Cr ?_
      clear hK K
      refine InC.done (by kernel_rfl) ?_
      clear C0 C1 O1 Ca Cb
      have bel9 := below_on bel8 Cr
      have ownU := ow_on (show w8.ownsRow _ _ _ _ _ _ from OB8.out) (below_alloc Cr (.cells #[.int .i64 5, .int .i64 ((k : Int) - 1), .int .i64 0, .int .i64 5, .int .i64 (k : Int), .int .i64 0] 45))
      have hnw := Six.src (Six.lay w9 (5, (k : Int) - 1, 0) (5, (k : Int), 0))
      have h1c := trC_one [(5, (k : Int) - 1, 0), (5, (k : Int), 0)]
      have hbq : wr.heap.size ≤ (w9.alloc (.cells #[.int .i64 5, .int .i64 ((k : Int) - 1), .int .i64 0, .int .i64 5, .int .i64 (k : Int), .int .i64 0] 45)).heap.size := by
        have a1 := Cr.size
        have a2 : wr.heap.size ≤ w8.heap.size := by
          have := own_block_lt (show w8.ownsRow _ _ _ _ _ _ from OB8.out) g5 rfl
          omega
        rw [World.size_alloc]; omega
      have S3U : SlF (w9.alloc (.cells #[.int .i64 5, .int .i64 ((k : Int) - 1), .int .i64 0, .int .i64 5, .int .i64 (k : Int), .int .i64 0] 45)) _ _ _ _ _ _ _ := (S3.on Cr).alloc _
      have D9U := D9.alloc (.cells #[.int .i64 5, .int .i64 ((k : Int) - 1), .int .i64 0, .int .i64 5, .int .i64 (k : Int), .int .i64 0] 45)
      have layU := (lay8.on Cr).alloc (.cells #[.int .i64 5, .int .i64 ((k : Int) - 1), .int .i64 0, .int .i64 5, .int .i64 (k : Int), .int .i64 0] 45)
      have rowU := (row8.on Cr).alloc (.cells #[.int .i64 5, .int .i64 ((k : Int) - 1), .int .i64 0, .int .i64 5, .int .i64 (k : Int), .int .i64 0] 45)
      have belU := below_alloc bel9 (.cells #[.int .i64 5, .int .i64 ((k : Int) - 1), .int .i64 0, .int .i64 5, .int .i64 (k : Int), .int .i64 0] 45)
      have H1 : Hid _ := S3U
      have H2 : Hid _ := D9U
      have H3 : Hid _ := layU
      have H4 : Hid _ := rowU
      have H5 : Hid _ := belU
      obtain ⟨A1', A2', L9, ⟨al, cl, el, _⟩, _⟩ := id D9
      subst el
      clear S3U D9U layU rowU belU S3 D9 lay8 row8 bel8 bel9 SB OB8 Cr br
      go_upto_region 18 with (first
        | (at_builtin; refine wpList_append_own _ rfl _ _ 26 rfl wr.heap.size 45 j0 _ 3 24 Try.underlying26 gi gz0 gz1 gz2 rfl (by decide) _ _ _ rfl ownU ⟨w9.heap.size, 0, none⟩ 2 2 (trC [(5, (k : Int) - 1, 0), (5, (k : Int), 0)]) rfl rfl hnw h1c (by unfold maxLen; omega) (by omega) hbq ?_; intro v10 w10 o10 gr10 hn10))
      have tg := ow_grown ownU gr10
      have S3 : SlF w10 45 3 lo3 w8.heap.size (.slice (some ⟨g6, 0, none⟩) L3.length c6) L3.length (evs (trP L3)) := slf_grown H1.out gr10 (fun b hb => by
        have e : some g5 = some b := hb
        cases e
        exact .inl g5lt)
      have DL : DnF w10 _ _ (.slice al LL.length cl) LL.length n (n + 1) _ _ _ _ := DnF.turned H2.out tg (.inl ⟨by decide, by decide, by decide⟩)
      have lay := Box2.turned H3.out tg (.inl (by decide))
      have row := CRow.turned H4.out tg (by decide)
      have bel : Below w.heap.size w w10 := Below.trans H5.out (tg.below hww (Below.size H5.out))
      obtain ⟨Lr, eLr⟩ : ∃ L, Lb ++ [(5, (k : Int) - 1, 0), (5, (k : Int), 0)] = L := ⟨_, rfl⟩
      have lenr : Lr.length ≤ 424 ∧ 2 ≤ Lr.length := by rw [← eLr]; simp; omega
      obtain ⟨lenr, lenr2⟩ := lenr
      have oR : w10.ownsRow wr.heap.size 45 3 v10 Lr.length (trC Lr) := by
        rw [← eLr, trC_app, List.length_append]
        exact o10
      obtain ⟨g10, c10, rfl⟩ := ow_some oR (by omega)
      have SR : SlF w10 45 3 wr.heap.size w10.heap.size (.slice (some ⟨g10, 0, none⟩) Lr.length c10) Lr.length (evs (trP Lr)) := ow_slf oR (fun i hi j hj => trC_get Lr i j hi hj)
      have ELR : Hid _ := eLr
      clear H1 H2 H3 H4 H5 tg ownU hnw h1c hbq gr10 hn10 o10 oR eLr
      obtain ⟨LG, eLG⟩ : ∃ L, Lr ++ L3 = L := ⟨_, rfl⟩
      have lLG : LG.length ≤ 700 := by rw [← eLG, List.length_append]; omega
      have ELG : Hid (Lr ++ L3 = LG) := eLG
      clear eLG
      refine wp_region_any (by kernel_rfl) ?_
      refine InC.any (C := fun W => Below w10.heap.size w10 W) _ _ _ _ ?_
      have C0 : Below w10.heap.size w10 w10.drew := (Below.refl _ _).drew
      have C1 : Below w10.heap.size w10 (w10.alloc (.cells #[] 45)).drew := (by repeat (first | exact Below.refl _ _ | assumption | refine below_alloc ?_ _ | refine Below.setCell ?_ (by first | omega | (simp; done) | (simp; omega)) _ | refine Below.alloc ?_ (by first | omega | (simp; done) | (simp; omega)) _ | refine Below.drew ?_))
      have O1 : (w10.alloc (.cells #[] 45)).drew.ownsRow w10.heap.size 45 3 (.slice (some ⟨w10.heap.size, 0, none⟩) 0 0) 0 [] := own_empty w10 _ _ _ (Nat.le_refl _)
      refine InC.take (i := 0) (v := .agg #[.int .i64 (n : Int), .slice (gA g) (n + 1) (gC g)]) rfl (by kernel_rfl) (by kernel_rfl) (by kernel_rfl) (fun _ _ _ h => h) C0 (Or.inl ⟨by rfl, ?_⟩) ?_
      · intro W hW
        obtain ⟨y0, y1⟩ := (lay.on hW).cells
        go_simp
      refine InC.take (i := 2) (v := .slice (some ⟨g10, 0, none⟩) Lr.length c10) rfl (by kernel_rfl) (by kernel_rfl) (by kernel_rfl) (fun _ _ _ h => h) C0 (Or.inl ⟨by rfl, ?_⟩) ?_
      · intro W hW
        go_simp
      refine InC.take (i := 4) (v := .slice (some ⟨g6, 0, none⟩) L3.length c6) rfl (by kernel_rfl) (by kernel_rfl) (by kernel_rfl) (fun _ _ _ h => h) C0 (Or.inl ⟨by rfl, ?_⟩) ?_
      · intro W hW
        go_simp
      refine InC.next1 (i := 1) (by kernel_rfl) (InC.one rfl fun K hK => ?_)
      go_simp
      refine hK _ _ C1 ?_
      clear hK K
      refine InC.next1 (i := 3) (by kernel_rfl) (InC.one rfl fun K hK => ?_)
      refine step_append_any rfl (.tmp 89) (.tmp 90) 26 rfl w10.heap.size 45 j0 _ 3 24 Try.underlying26 gi gz0 gz1 gz2 rfl (by decide) (.slice (some ⟨w10.heap.size, 0, none⟩) 0 0) 0 [] rfl O1 (some ⟨g10, 0, none⟩) Lr.length c10 (trC Lr) rfl (trC_len Lr) (src_on SR C1) (trC_one Lr) (by unfold maxLen; omega) (by omega) C1.size ?_
      intro va Wa owna gra
      have Ca : Below w10.heap.size w10 Wa := C1.trans ((ow_grown O1 gra).below (Nat.le_refl _) C1.size)
      refine hK _ _ Ca ?_
      clear hK K
      refine InC.next1 (i := 5) (by kernel_rfl) (InC.one rfl fun K hK => ?_)
      refine step_append_any rfl (.tmp 91) (.tmp 92) 26 rfl w10.heap.size 45 j0 _ 3 24 Try.underlying26 gi gz0 gz1 gz2 rfl (by decide) va (0 + Lr.length) ([] ++ trC Lr) rfl owna (some ⟨g6, 0, none⟩) L3.length c6 (trC L3) rfl (trC_len L3) (src_on S3 Ca) (trC_one L3) (by unfold maxLen; omega) (by omega) Ca.size ?_
      intro vb Wb ownb grb
      have Cb : Below w10.heap.size w10 Wb := Ca.trans ((ow_grown owna grb).below (Nat.le_refl _) Ca.size)
      refine hK _ _ Cb ?_
      clear hK K
      have slb : SlF Wb 45 3 w10.heap.size Wb.heap.size vb LG.length (evs (trP LG)) := by
        have e : (0 + Lr.length + L3.length) = LG.length := by rw [← ELG.out, List.length_append]; omega
        have e2 : [] ++ trC Lr ++ trC L3 = trC LG := by rw [← ELG.out, trC_app]; rfl
        rw [e, e2] at ownb
        exact ow_slf ownb (fun i hi j hj => trC_get LG i j hi hj)
      have kr := implRun_ok (n : Int) g (n + 1) _ _ LG.length n lnF (lnT n) (trP LG) _ Wb (row.on Cb) slb OKH.out rfl (by omega)
      refine InC.next1 (i := 6) (by kernel_rfl) (InC.one rfl fun K hK => ?_)
      go_simp
      refine kr.mono ?_
      rintro _ w11 ⟨vr, rfl, DG, br⟩
      have Cr : Below w10.heap.size w10 w11 := below_on Cb br
      refine hK _ _ Cr ?_
      clear hK K kr slb ownb owna gra grb
      refine InC.next1 (i := 7) (by kernel_rfl) (InC.one rfl fun K hK => ?_)
      go_simp
      refine hK _ _ Cr ?_
      clear hK K
      refine InC.done (by kernel_rfl) ?_
      clear C0 C1 O1 Ca Cb br
      have S3 := S3.on Cr
      have SR := SR.on Cr
      have DL := DL.on Cr
      have lay := lay.on Cr
      have row := row.on Cr
      have bel := below_on bel Cr
      clear Cr
      have sw : SwL n k a L1 L2 L3 Lb Lr LL LG := ⟨n1, n2, k1, k2, A1, A2, LE1.out, LE2.out, LE3.out, T1.out, T2.out, T3.out, ELB.out, ELR.out, ELL.out, ELG.out⟩
      have lenR : Lr.length = Lb.length + 1 + 1 := by rw [← ELR.out]; simp
      have lenG : LG.length = Lb.length + 1 + 1 + L3.length := by rw [← ELG.out, List.length_append, lenR]
      have lenL : LL.length = Lb.length + L3.length := by rw [← ELL.out, List.length_append]
      obtain ⟨B, eB⟩ : ∃ B, Lb.length = B := ⟨_, rfl⟩
      obtain ⟨m3, em3⟩ : ∃ m, L3.length = m := ⟨_, rfl⟩
      obtain ⟨mL, emL⟩ : ∃ m, LL.length = m := ⟨_, rfl⟩
      obtain ⟨mG, emG⟩ : ∃ m, LG.length = m := ⟨_, rfl⟩
      have f1 : ∀ {i : Nat}, i < n → ((runX (n : Int) (n + 1) lnF (lnT n) (trP LL) mL i).told = 1 ↔ (i = k ∨ i + 1 = k)) := fun hi => by rw [← emL]; exact sw.left hi
      have f2 := sw.code
      have f3 := fun {i : Nat} (hi : i < n) hk => (sw.two (i := i) hi hk).1
      rw [eB] at f2
      simp only [eB, emG] at f3
      rw [eB] at lenR lenG lenL lenb
      have srcR : ∀ W, Below w11.heap.size w11 W → (B + 1 + 1 = 0 ∨ ∃ ad, some (⟨g10, 0, none⟩ : Addr) = some ad ∧ ∀ j x, (trC Lr)[j]? = some x → W.cell? (ad.add j) = some x) := fun W hW => by rw [← lenR]; exact src_on SR hW
      have src3 : ∀ W, Below w11.heap.size w11 W → (m3 = 0 ∨ ∃ ad, some (⟨g6, 0, none⟩ : Addr) = some ad ∧ ∀ j x, (trC L3)[j]? = some x → W.cell? (ad.add j) = some x) := fun W hW => by rw [← em3]; exact src_on S3 hW
      have hlR : (trC Lr).length = (B + 1 + 1) * 3 := by rw [trC_len, lenR]
      have hl3 : (trC L3).length = m3 * 3 := by rw [trC_len, em3]
      rw [em3] at lenG lenL len3 pos3
      rw [emL] at lenL DL lLL
      have eGl : LG.length = mG := emG
      rw [emG] at lenG DG lLG
      obtain ⟨_, _, _, ⟨ag, cg, eg', _⟩, _⟩ := id DG
      rw [eg'] at DG
      have F1 : Hid _ := @f1
      have F2 : Hid _ := f2
      have F3 : Hid _ := @f3
      have LN : Hid (mG = B + 1 + 1 + m3 ∧ mL = B + m3) := ⟨lenG, lenL⟩
      rw [eg', em3, emL, lenR]
      clear f1 f2 f3 sw eB em3 emL emG LE1 LE2 LE3 T1 T2 T3 ELB ELL lenr lenr2 len1 len2 pos2 lo3le g5lt lenR
      obtain ⟨eG, rfl⟩ : ∃ e, mG = e + 1 := ⟨mG - 1, by omega⟩
      obtain ⟨eL, rfl⟩ : ∃ e, mL = e + 1 := ⟨mL - 1, by omega⟩
      obtain ⟨kk, rfl⟩ : ∃ kk, k = kk + 1 := ⟨k - 1, by omega⟩
      have hd1 : (B : Int) + 1 + 1 + (m3 : Int) = (eG : Int) + 1 := by omega
      have hG : B + 1 < eG + 1 := by omega
      have hG0 : B < eG + 1 := by omega
      have hG1 : ((B : Int) + 1) < (eG : Int) + 1 := by omega
      have hG2 : (B : Int) < (eG : Int) + 1 := by omega
      obtain ⟨gg, cgg, uA1, uA2, loA, hiA, eA, dA0, dA1, dA2, dA3, sA, _⟩ := dnAt DG hG
      cases eA
      obtain ⟨_, _, uB1, uB2, loB, hiB, eB, dB0, dB1, dB2, dB3, sB, _⟩ := dnAt DG hG0
      cases eB
      obtain ⟨_, _, uE1, uE2, loE, hiE, eE, dE0, dE1, dE2, dE3, sE, _⟩ := dnAt DG (Nat.lt_succ_self eG)
      cases eE
      obtain ⟨gl, cll, uL1, uL2, loL, hiL, eL', dL0, dL1, dL2, dL3, sL, _⟩ := dnAt DL (Nat.lt_succ_self eL)
      cases eL'
      obtain ⟨aA, cA, euA, _⟩ := id sA
      subst euA
      obtain ⟨aE, cE, euE, _⟩ := id sE
      subst euE
      obtain ⟨aL, cL, euL, _⟩ := id sL
      subst euL
      obtain ⟨cc1, cc2⟩ := F2.out
      rw [cc1] at dB0
      rw [cc2] at dA0
      have w1 := F3.out (i := kk) (by omega) (.inr rfl)
      have w2 := F3.out (i := kk + 1) k2 (.inl rfl)
      rw [show kk + 1 - 1 = kk from rfl] at dB0
      obtain ⟨z1, ez1⟩ : ∃ z : Int, (if (bro a kk ((kk + 1 : Nat) : Int)).x.last = 1 then 4 else 0) = z := ⟨_, rfl⟩
      obtain ⟨z2, ez2⟩ : ∃ z : Int, (if (bro a (kk + 1) ((kk + 1 : Nat) : Int)).x.last = 1 then 4 else 0) = z := ⟨_, rfl⟩
      rw [ez1] at dB0 w1
      rw [ez2] at dA0 w2
      clear ez1 ez2 cc1 cc2
      have hkn : kk < n := by omega
      -- the two sections, at the resets and at the end
      obtain ⟨gA1, xA1, eA1, tA, _⟩ := seAt sA hkn
      cases eA1
      obtain ⟨_, _, eA2, tA', _⟩ := seAt sA k2
      cases eA2
      obtain ⟨gE1, xE1, eE1, tE, _⟩ := seAt sE hkn
      cases eE1
      obtain ⟨_, _, eE2, tE', _⟩ := seAt sE k2
      cases eE2
      unfold swP at w1 w2
      obtain ⟨vA, evA⟩ : ∃ v, (runX (n : Int) (n + 1) lnF (lnT n) (trP LG) (B + 1 + 1) kk).told = v := ⟨_, rfl⟩
      obtain ⟨vA', evA'⟩ : ∃ v, (runX (n : Int) (n + 1) lnF (lnT n) (trP LG) (B + 1 + 1) (kk + 1)).told = v := ⟨_, rfl⟩
      obtain ⟨vE, evE⟩ : ∃ v, (runX (n : Int) (n + 1) lnF (lnT n) (trP LG) (eG + 1) kk).told = v := ⟨_, rfl⟩
      obtain ⟨vE', evE'⟩ : ∃ v, (runX (n : Int) (n + 1) lnF (lnT n) (trP LG) (eG + 1) (kk + 1)).told = v := ⟨_, rfl⟩
      rw [evA, evE] at w1
      rw [evA', evE'] at w2
      rw [evA] at tA
      rw [evA'] at tA'
      rw [evE] at tE
      rw [evE'] at tE'
      clear evA evA' evE evE'
      have SLH : Hid (SlF w11 41 5 loL hiL (.slice aL n cL) n (secs (runX (n : Int) (n + 1) lnF (lnT n) (trP LL) (eL + 1)))) := sL
      have DGH : Hid _ := DG
      have LAY : Hid _ := lay
      have ROW : Hid _ := row
      have BEL : Hid _ := bel
      have SRC : Hid _ := srcR
      have SR3 : Hid _ := src3
      have HLR : Hid _ := hlR
      have HL3 : Hid _ := hl3
      have LNG : Hid (B + 1 + 1 + m3 = eG + 1) := by have := LN.out; show _ = _; omega
      have EGL : Hid _ := eGl
      have b30 : B ≤ 422 := lenb
      have m30 : m3 ≤ 210 := len3
      clear lenG lenL sA sB sE sL DG DL S3 SR lay row bel F2 F3 dA1 dA3 dB1 dB2 dB3 dE0 dE1 dE3 dL0 dL1 dL3 srcR src3 hlR hl3 eGl LN ek en t0 t1 t2 hr hr' hr0 hr0' hnn
      have hz1 : z1 = 0 ∨ z1 = 4 := by rcases w1 with h | h; exact .inl h.1; exact .inr h.1
      have hz2 : z2 = 0 ∨ z2 = 4 := by rcases w2 with h | h; exact .inl h.1; exact .inr h.1
      rcases hz1 with rfl | rfl
      · rcases hz2 with rfl | rfl
        · obtain ⟨rfl, rfl⟩ : vA = 2 ∧ vE = 0 := by rcases w1 with h | h; exact h.2; exact absurd h.1 (by omega)
          obtain ⟨rfl, rfl⟩ : vA' = 2 ∧ vE' = 0 := by rcases w2 with h | h; exact h.2; exact absurd h.1 (by omega)
          clear w1 w2
          go_upto_region 26 with fail
          clear dL2 dE2
          go_wp2
          go_loopw [184] (fun i wx => ∃ s : Nat, s ≤ n ∧ i = .int .i64 s ∧ wx = w11) (fun i _ => n - (intOf i).toNat)
          case atStart => exact ⟨0, Nat.zero_le _, rfl, rfl⟩
          case round =>
            obtain ⟨s, hs, rfl, hwx⟩ := hrel
            rw [hwx]
            clear hwx
            by_cases hls : s < n
            · have hi2 : (s : Int) < (n : Int) := by omega
              have ff := F1.out hls
              obtain ⟨gs, cs, es, q0, _⟩ := seAt SLH.out hls
              cases es
              obtain ⟨tl, etl⟩ : ∃ t, (runX (n : Int) (n + 1) lnF (lnT n) (trP LL) (eL + 1) s).told = t := ⟨_, rfl⟩
              rw [etl] at ff q0
              clear etl
              by_cases hs1 : s = kk + 1
              · obtain rfl : tl = 1 := ff.2 (.inl hs1)
                subst hs1
                clear ff
                go_wp2
                go_roundw
                case rel => exact ⟨kk + 1 + 1, by omega, by go_num, trivial⟩
                case measure => simp [intOf] <;> omega
              · by_cases hs2 : s = kk
                · obtain rfl : tl = 1 := ff.2 (.inr (by omega))
                  subst hs2
                  clear ff
                  have hn1 : ¬ (s : Int) = (s : Int) + 1 := by omega
                  go_wp2
                  go_roundw
                  case rel => exact ⟨s + 1, by omega, by go_num, trivial⟩
                  case measure => simp [intOf] <;> omega
                · have ht1 : ¬ tl = 1 := fun e => by have := ff.1 e; omega
                  have ht2 : (tl == 1) = false := by simp [ht1]
                  have hn1 : ¬ (s : Int) = (kk : Int) + 1 := by omega
                  have hn2 : ¬ (s : Int) = (kk : Int) := by omega
                  have hn3 : ((s : Int) == (kk : Int) + 1) = false := by simp; omega
                  have hn4 : ((s : Int) == (kk : Int)) = false := by simp; omega
                  clear ff
                  go_wp2
                  go_roundw
                  case rel => exact ⟨s + 1, by omega, by go_num, trivial⟩
                  case measure => simp [intOf] <;> omega
            · have hss : s = n := by omega
              subst hss
              go_wp2
              go_loopw [17] (fun i wx => ∃ j : Nat, j ≤ 2 ∧ i = .int .i64 j ∧ wx = w11) (fun i _ => 2 - (intOf i).toNat)
              case atStart => exact ⟨0, Nat.zero_le _, rfl, rfl⟩
              case round =>
                obtain ⟨j, hj, rfl, hwx⟩ := hrel
                rw [hwx]
                clear hwx
                rcases (show j = 0 ∨ j = 1 ∨ j = 2 by omega) with rfl | rfl | rfl
                · go_wp2
                  go_roundw
                  case rel => exact ⟨1, by omega, by go_num, trivial⟩
                  case measure => simp [intOf]
                · go_wp2
                  go_roundw
                  case rel => exact ⟨2, by omega, by go_num, trivial⟩
                  case measure => simp [intOf]
                · go_upto_region 40 with fail
                  refine wp_region_any (by kernel_rfl) ?_
                  refine InC.any (C := fun W => Below w11.heap.size w11 W) _ _ _ _ ?_
                  have C0 : Below w11.heap.size w11 w11.drew := (Below.refl _ _).drew
                  have C1 : Below w11.heap.size w11 (w11.alloc (.cells #[] 45)).drew := (by repeat (first | exact Below.refl _ _ | assumption | refine below_alloc ?_ _ | refine Below.setCell ?_ (by first | omega | (simp; done) | (simp; omega)) _ | refine Below.alloc ?_ (by first | omega | (simp; done) | (simp; omega)) _ | refine Below.drew ?_))
                  have O1 : (w11.alloc (.cells #[] 45)).drew.ownsRow w11.heap.size 45 3 (.slice (some ⟨w11.heap.size, 0, none⟩) 0 0) 0 [] := own_empty w11 _ _ _ (Nat.le_refl _)
                  refine InC.take (i := 0) (v := .slice (some ⟨gg, 0, none⟩) (eG + 1) cg) rfl (by kernel_rfl) (by kernel_rfl) (by kernel_rfl) (fun _ _ _ h => h) C0 (Or.inl ⟨by rfl, ?_⟩) ?_
                  · intro W hW
                    go_simp
                  refine InC.take (i := 1) (v := .agg #[.int .i64 (s : Int), .slice (gA g) (s + 1) (gC g)]) rfl (by kernel_rfl) (by kernel_rfl) (by kernel_rfl) (fun _ _ _ h => h) C0 (Or.inl ⟨by rfl, ?_⟩) ?_
                  · intro W hW
                    obtain ⟨y0, y1⟩ := (Box2.on LAY.out hW).cells
                    go_simp
                  refine InC.take (i := 3) (v := .slice (some ⟨g10, 0, none⟩) (B + 1 + 1) c10) rfl (by kernel_rfl) (by kernel_rfl) (by kernel_rfl) (fun _ _ _ h => h) C0 (Or.inl ⟨by rfl, ?_⟩) ?_
                  · intro W hW
                    go_simp
                  refine InC.take (i := 5) (v := .slice (some ⟨g6, 0, none⟩) m3 c6) rfl (by kernel_rfl) (by kernel_rfl) (by kernel_rfl) (fun _ _ _ h => h) C0 (Or.inl ⟨by rfl, ?_⟩) ?_
                  · intro W hW
                    go_simp
                  refine InC.next1 (i := 2) (by kernel_rfl) (InC.one rfl fun K hK => ?_)
                  go_simp
                  refine hK _ _ C1 ?_
                  clear hK K
                  refine InC.next1 (i := 4) (by kernel_rfl) (InC.one rfl fun K hK => ?_)
                  refine step_append_any rfl (.tmp 261) (.tmp 262) 26 rfl w11.heap.size 45 j0 _ 3 24 Try.underlying26 gi gz0 gz1 gz2 rfl (by decide) (.slice (some ⟨w11.heap.size, 0, none⟩) 0 0) 0 [] rfl O1 (some ⟨g10, 0, none⟩) (B + 1 + 1) c10 (trC Lr) rfl HLR.out (SRC.out _ C1) (trC_one Lr) (by unfold maxLen; omega) (by omega) C1.size ?_
                  intro va Wa owna gra
                  have Ca : Below w11.heap.size w11 Wa := C1.trans ((ow_grown O1 gra).below (Nat.le_refl _) C1.size)
                  refine hK _ _ Ca ?_
                  clear hK K
                  refine InC.next1 (i := 6) (by kernel_rfl) (InC.one rfl fun K hK => ?_)
                  refine step_append_any rfl (.tmp 263) (.tmp 264) 26 rfl w11.heap.size 45 j0 _ 3 24 Try.underlying26 gi gz0 gz1 gz2 rfl (by decide) va (0 + (B + 1 + 1)) ([] ++ trC Lr) rfl owna (some ⟨g6, 0, none⟩) m3 c6 (trC L3) rfl HL3.out (SR3.out _ Ca) (trC_one L3) (by unfold maxLen; omega) (by omega) Ca.size ?_
                  intro vb Wb ownb grb
                  have Cb : Below w11.heap.size w11 Wb := Ca.trans ((ow_grown owna grb).below (Nat.le_refl _) Ca.size)
                  refine hK _ _ Cb ?_
                  clear hK K
                  have slb : SlF Wb 45 3 w11.heap.size Wb.heap.size vb (eG + 1) (evs (trP LG)) := by
                    have e : (0 + (B + 1 + 1) + m3) = LG.length := by rw [EGL.out, ← LNG.out]; omega
                    have e2 : [] ++ trC Lr ++ trC L3 = trC LG := by rw [← ELG.out, trC_app]; rfl
                    rw [e, e2] at ownb
                    have := ow_slf ownb (fun i hi j hj => trC_get LG i j hi hj)
                    rwa [EGL.out] at this
                  have kr := specRun_ok (s : Int) g (s + 1) _ _ (eG + 1) s lnF (lnT s) (trP LG) _ Wb (CRow.on ROW.out Cb) slb OKH.out rfl (by omega)
                  refine InC.next1 (i := 7) (by kernel_rfl) (InC.one rfl fun K hK => ?_)
                  go_simp
                  refine kr.mono ?_
                  rintro _ w12 ⟨vr, rfl, DS, br⟩
                  have Cr : Below w11.heap.size w11 w12 := below_on Cb br
                  refine hK _ _ Cr ?_
                  clear hK K kr slb ownb owna gra grb
                  refine InC.next1 (i := 8) (by kernel_rfl) (InC.one rfl fun K hK => ?_)
                  go_simp
                  refine (wDone_same _ _ _ _ (eG + 1) s (s + 1) _ _ _ _ _ _ w12 (by omega) (by omega) (by omega) (DnF.on DGH.out Cr) DS).mono ?_
                  rintro _ w13 ⟨rfl, b13⟩
                  have C13 : Below w11.heap.size w11 w13 := below_on Cr b13
                  refine hK _ _ C13 ?_
                  clear hK K
                  refine InC.next1 (i := 9) (by kernel_rfl) (InC.one rfl fun K hK => ?_)
                  go_simp
                  refine hK _ _ C13 ?_
                  clear hK K
                  refine InC.done (by kernel_rfl) ?_
                  go_wp2
                  go_ret
                  exact ⟨rfl, below_on BEL.out C13⟩
        · obtain ⟨rfl, rfl⟩ : vA = 2 ∧ vE = 0 := by rcases w1 with h | h; exact h.2; exact absurd h.1 (by omega)
          obtain rfl : vE' = 1 := by rcases w2 with h | h; exact absurd h.1 (by omega); exact h.2
          clear w1 w2
          go_upto_region 26 with fail
          clear dL2 dE2
          go_wp2
          go_loopw [184] (fun i wx => ∃ s : Nat, s ≤ n ∧ i = .int .i64 s ∧ wx = w11) (fun i _ => n - (intOf i).toNat)
          case atStart => exact ⟨0, Nat.zero_le _, rfl, rfl⟩
          case round =>
            obtain ⟨s, hs, rfl, hwx⟩ := hrel
            rw [hwx]
            clear hwx
            by_cases hls : s < n
            · have hi2 : (s : Int) < (n : Int) := by omega
              have ff := F1.out hls
              obtain ⟨gs, cs, es, q0, _⟩ := seAt SLH.out hls
              cases es
              obtain ⟨tl, etl⟩ : ∃ t, (runX (n : Int) (n + 1) lnF (lnT n) (trP LL) (eL + 1) s).told = t := ⟨_, rfl⟩
              rw [etl] at ff q0
              clear etl
              by_cases hs1 : s = kk + 1
              · obtain rfl : tl = 1 := ff.2 (.inl hs1)
                subst hs1
                clear ff
                go_wp2
                go_roundw
                case rel => exact ⟨kk + 1 + 1, by omega, by go_num, trivial⟩
                case measure => simp [intOf] <;> omega
              · by_cases hs2 : s = kk
                · obtain rfl : tl = 1 := ff.2 (.inr (by omega))
                  subst hs2
                  clear ff
                  have hn1 : ¬ (s : Int) = (s : Int) + 1 := by omega
                  go_wp2
                  go_roundw
                  case rel => exact ⟨s + 1, by omega, by go_num, trivial⟩
                  case measure => simp [intOf] <;> omega
                · have ht1 : ¬ tl = 1 := fun e => by have := ff.1 e; omega
                  have ht2 : (tl == 1) = false := by simp [ht1]
                  have hn1 : ¬ (s : Int) = (kk : Int) + 1 := by omega
                  have hn2 : ¬ (s : Int) = (kk : Int) := by omega
                  have hn3 : ((s : Int) == (kk : Int) + 1) = false := by simp; omega
                  have hn4 : ((s : Int) == (kk : Int)) = false := by simp; omega
                  clear ff
                  go_wp2
                  go_roundw
                  case rel => exact ⟨s + 1, by omega, by go_num, trivial⟩
                  case measure => simp [intOf] <;> omega
            · have hss : s = n := by omega
              subst hss
              go_wp2
              go_loopw [17] (fun i wx => ∃ j : Nat, j ≤ 2 ∧ i = .int .i64 j ∧ wx = w11) (fun i _ => 2 - (intOf i).toNat)
              case atStart => exact ⟨0, Nat.zero_le _, rfl, rfl⟩
              case round =>
                obtain ⟨j, hj, rfl, hwx⟩ := hrel
                rw [hwx]
                clear hwx
                rcases (show j = 0 ∨ j = 1 ∨ j = 2 by omega) with rfl | rfl | rfl
                · go_wp2
                  go_roundw
                  case rel => exact ⟨1, by omega, by go_num, trivial⟩
                  case measure => simp [intOf]
                · go_wp2
                  go_roundw
                  case rel => exact ⟨2, by omega, by go_num, trivial⟩
                  case measure => simp [intOf]
                · go_upto_region 40 with fail
                  refine wp_region_any (by kernel_rfl) ?_
                  refine InC.any (C := fun W => Below w11.heap.size w11 W) _ _ _ _ ?_
                  have C0 : Below w11.heap.size w11 w11.drew := (Below.refl _ _).drew
                  have C1 : Below w11.heap.size w11 (w11.alloc (.cells #[] 45)).drew := (by repeat (first | exact Below.refl _ _ | assumption | refine below_alloc ?_ _ | refine Below.setCell ?_ (by first | omega | (simp; done) | (simp; omega)) _ | refine Below.alloc ?_ (by first | omega | (simp; done) | (simp; omega)) _ | refine Below.drew ?_))
                  have O1 : (w11.alloc (.cells #[] 45)).drew.ownsRow w11.heap.size 45 3 (.slice (some ⟨w11.heap.size, 0, none⟩) 0 0) 0 [] := own_empty w11 _ _ _ (Nat.le_refl _)
                  refine InC.take (i := 0) (v := .slice (some ⟨gg, 0, none⟩) (eG + 1) cg) rfl (by kernel_rfl) (by kernel_rfl) (by kernel_rfl) (fun _ _ _ h => h) C0 (Or.inl ⟨by rfl, ?_⟩) ?_
                  · intro W hW
                    go_simp
                  refine InC.take (i := 1) (v := .agg #[.int .i64 (s : Int), .slice (gA g) (s + 1) (gC g)]) rfl (by kernel_rfl) (by kernel_rfl) (by kernel_rfl) (fun _ _ _ h => h) C0 (Or.inl ⟨by rfl, ?_⟩) ?_
                  · intro W hW
                    obtain ⟨y0, y1⟩ := (Box2.on LAY.out hW).cells
                    go_simp
                  refine InC.take (i := 3) (v := .slice (some ⟨g10, 0, none⟩) (B + 1 + 1) c10) rfl (by kernel_rfl) (by kernel_rfl) (by kernel_rfl) (fun _ _ _ h => h) C0 (Or.inl ⟨by rfl, ?_⟩) ?_
                  · intro W hW
                    go_simp
                  refine InC.take (i := 5) (v := .slice (some ⟨g6, 0, none⟩) m3 c6) rfl (by kernel_rfl) (by kernel_rfl) (by kernel_rfl) (fun _ _ _ h => h) C0 (Or.inl ⟨by rfl, ?_⟩) ?_
                  · intro W hW
                    go_simp
                  refine InC.next1 (i := 2) (by kernel_rfl) (InC.one rfl fun K hK => ?_)
                  go_simp
                  refine hK _ _ C1 ?_
                  clear hK K
                  refine InC.next1 (i := 4) (by kernel_rfl) (InC.one rfl fun K hK => ?_)
                  refine step_append_any rfl (.tmp 261) (.tmp 262) 26 rfl w11.heap.size 45 j0 _ 3 24 Try.underlying26 gi gz0 gz1 gz2 rfl (by decide) (.slice (some ⟨w11.heap.size, 0, none⟩) 0 0) 0 [] rfl O1 (some ⟨g10, 0, none⟩) (B + 1 + 1) c10 (trC Lr) rfl HLR.out (SRC.out _ C1) (trC_one Lr) (by unfold maxLen; omega) (by omega) C1.size ?_
                  intro va Wa owna gra
                  have Ca : Below w11.heap.size w11 Wa := C1.trans ((ow_grown O1 gra).below (Nat.le_refl _) C1.size)
                  refine hK _ _ Ca ?_
                  clear hK K
                  refine InC.next1 (i := 6) (by kernel_rfl) (InC.one rfl fun K hK => ?_)
                  refine step_append_any rfl (.tmp 263) (.tmp 264) 26 rfl w11.heap.size 45 j0 _ 3 24 Try.underlying26 gi gz0 gz1 gz2 rfl (by decide) va (0 + (B + 1 + 1)) ([] ++ trC Lr) rfl owna (some ⟨g6, 0, none⟩) m3 c6 (trC L3) rfl HL3.out (SR3.out _ Ca) (trC_one L3) (by unfold maxLen; omega) (by omega) Ca.size ?_
                  intro vb Wb ownb grb
                  have Cb : Below w11.heap.size w11 Wb := Ca.trans ((ow_grown owna grb).below (Nat.le_refl _) Ca.size)
                  refine hK _ _ Cb ?_
                  clear hK K
                  have slb : SlF Wb 45 3 w11.heap.size Wb.heap.size vb (eG + 1) (evs (trP LG)) := by
                    have e : (0 + (B + 1 + 1) + m3) = LG.length := by rw [EGL.out, ← LNG.out]; omega
                    have e2 : [] ++ trC Lr ++ trC L3 = trC LG := by rw [← ELG.out, trC_app]; rfl
                    rw [e, e2] at ownb
                    have := ow_slf ownb (fun i hi j hj => trC_get LG i j hi hj)
                    rwa [EGL.out] at this
                  have kr := specRun_ok (s : Int) g (s + 1) _ _ (eG + 1) s lnF (lnT s) (trP LG) _ Wb (CRow.on ROW.out Cb) slb OKH.out rfl (by omega)
                  refine InC.next1 (i := 7) (by kernel_rfl) (InC.one rfl fun K hK => ?_)
                  go_simp
                  refine kr.mono ?_
                  rintro _ w12 ⟨vr, rfl, DS, br⟩
                  have Cr : Below w11.heap.size w11 w12 := below_on Cb br
                  refine hK _ _ Cr ?_
                  clear hK K kr slb ownb owna gra grb
                  refine InC.next1 (i := 8) (by kernel_rfl) (InC.one rfl fun K hK => ?_)
                  go_simp
                  refine (wDone_same _ _ _ _ (eG + 1) s (s + 1) _ _ _ _ _ _ w12 (by omega) (by omega) (by omega) (DnF.on DGH.out Cr) DS).mono ?_
                  rintro _ w13 ⟨rfl, b13⟩
                  have C13 : Below w11.heap.size w11 w13 := below_on Cr b13
                  refine hK _ _ C13 ?_
                  clear hK K
                  refine InC.next1 (i := 9) (by kernel_rfl) (InC.one rfl fun K hK => ?_)
                  go_simp
                  refine hK _ _ C13 ?_
                  clear hK K
                  refine InC.done (by kernel_rfl) ?_
                  go_wp2
                  go_ret
                  exact ⟨rfl, below_on BEL.out C13⟩
      · rcases hz2 with rfl | rfl
        · obtain rfl : vE = 1 := by rcases w1 with h | h; exact absurd h.1 (by omega); exact h.2
          obtain ⟨rfl, rfl⟩ : vA' = 2 ∧ vE' = 0 := by rcases w2 with h | h; exact h.2; exact absurd h.1 (by omega)
          clear w1 w2
          go_upto_region 26 with fail
          clear dL2 dE2
          go_wp2
          go_loopw [184] (fun i wx => ∃ s : Nat, s ≤ n ∧ i = .int .i64 s ∧ wx = w11) (fun i _ => n - (intOf i).toNat)
          case atStart => exact ⟨0, Nat.zero_le _, rfl, rfl⟩
          case round =>
            obtain ⟨s, hs, rfl, hwx⟩ := hrel
            rw [hwx]
            clear hwx
            by_cases hls : s < n
            · have hi2 : (s : Int) < (n : Int) := by omega
              have ff := F1.out hls
              obtain ⟨gs, cs, es, q0, _⟩ := seAt SLH.out hls
              cases es
              obtain ⟨tl, etl⟩ : ∃ t, (runX (n : Int) (n + 1) lnF (lnT n) (trP LL) (eL + 1) s).told = t := ⟨_, rfl⟩
              rw [etl] at ff q0
              clear etl
              by_cases hs1 : s = kk + 1
              · obtain rfl : tl = 1 := ff.2 (.inl hs1)
                subst hs1
                clear ff
                go_wp2
                go_roundw
                case rel => exact ⟨kk + 1 + 1, by omega, by go_num, trivial⟩
                case measure => simp [intOf] <;> omega
              · by_cases hs2 : s = kk
                · obtain rfl : tl = 1 := ff.2 (.inr (by omega))
                  subst hs2
                  clear ff
                  have hn1 : ¬ (s : Int) = (s : Int) + 1 := by omega
                  go_wp2
                  go_roundw
                  case rel => exact ⟨s + 1, by omega, by go_num, trivial⟩
                  case measure => simp [intOf] <;> omega
                · have ht1 : ¬ tl = 1 := fun e => by have := ff.1 e; omega
                  have ht2 : (tl == 1) = false := by simp [ht1]
                  have hn1 : ¬ (s : Int) = (kk : Int) + 1 := by omega
                  have hn2 : ¬ (s : Int) = (kk : Int) := by omega
                  have hn3 : ((s : Int) == (kk : Int) + 1) = false := by simp; omega
                  have hn4 : ((s : Int) == (kk : Int)) = false := by simp; omega
                  clear ff
                  go_wp2
                  go_roundw
                  case rel => exact ⟨s + 1, by omega, by go_num, trivial⟩
                  case measure => simp [intOf] <;> omega
            · have hss : s = n := by omega
              subst hss
              go_wp2
              go_loopw [17] (fun i wx => ∃ j : Nat, j ≤ 2 ∧ i = .int .i64 j ∧ wx = w11) (fun i _ => 2 - (intOf i).toNat)
              case atStart => exact ⟨0, Nat.zero_le _, rfl, rfl⟩
              case round =>
                obtain ⟨j, hj, rfl, hwx⟩ := hrel
                rw [hwx]
                clear hwx
                rcases (show j = 0 ∨ j = 1 ∨ j = 2 by omega) with rfl | rfl | rfl
                · go_wp2
                  go_roundw
                  case rel => exact ⟨1, by omega, by go_num, trivial⟩
                  case measure => simp [intOf]
                · go_wp2
                  go_roundw
                  case rel => exact ⟨2, by omega, by go_num, trivial⟩
                  case measure => simp [intOf]
                · go_upto_region 40 with fail
                  refine wp_region_any (by kernel_rfl) ?_
                  refine InC.any (C := fun W => Below w11.heap.size w11 W) _ _ _ _ ?_
                  have C0 : Below w11.heap.size w11 w11.drew := (Below.refl _ _).drew
                  have C1 : Below w11.heap.size w11 (w11.alloc (.cells #[] 45)).drew := (by repeat (first | exact Below.refl _ _ | assumption | refine below_alloc ?_ _ | refine Below.setCell ?_ (by first | omega | (simp; done) | (simp; omega)) _ | refine Below.alloc ?_ (by first | omega | (simp; done) | (simp; omega)) _ | refine Below.drew ?_))
                  have O1 : (w11.alloc (.cells #[] 45)).drew.ownsRow w11.heap.size 45 3 (.slice (some ⟨w11.heap.size, 0, none⟩) 0 0) 0 [] := own_empty w11 _ _ _ (Nat.le_refl _)
                  refine InC.take (i := 0) (v := .slice (some ⟨gg, 0, none⟩) (eG + 1) cg) rfl (by kernel_rfl) (by kernel_rfl) (by kernel_rfl) (fun _ _ _ h => h) C0 (Or.inl ⟨by rfl, ?_⟩) ?_
                  · intro W hW
                    go_simp
                  refine InC.take (i := 1) (v := .agg #[.int .i64 (s : Int), .slice (gA g) (s + 1) (gC g)]) rfl (by kernel_rfl) (by kernel_rfl) (by kernel_rfl) (fun _ _ _ h => h) C0 (Or.inl ⟨by rfl, ?_⟩) ?_
                  · intro W hW
                    obtain ⟨y0, y1⟩ := (Box2.on LAY.out hW).cells
                    go_simp
                  refine InC.take (i := 3) (v := .slice (some ⟨g10, 0, none⟩) (B + 1 + 1) c10) rfl (by kernel_rfl) (by kernel_rfl) (by kernel_rfl) (fun _ _ _ h => h) C0 (Or.inl ⟨by rfl, ?_⟩) ?_
                  · intro W hW
                    go_simp
                  refine InC.take (i := 5) (v := .slice (some ⟨g6, 0, none⟩) m3 c6) rfl (by kernel_rfl) (by kernel_rfl) (by kernel_rfl) (fun _ _ _ h => h) C0 (Or.inl ⟨by rfl, ?_⟩) ?_
                  · intro W hW
                    go_simp
                  refine InC.next1 (i := 2) (by kernel_rfl) (InC.one rfl fun K hK => ?_)
                  go_simp
                  refine hK _ _ C1 ?_
                  clear hK K
                  refine InC.next1 (i := 4) (by kernel_rfl) (InC.one rfl fun K hK => ?_)
                  refine step_append_any rfl (.tmp 261) (.tmp 262) 26 rfl w11.heap.size 45 j0 _ 3 24 Try.underlying26 gi gz0 gz1 gz2 rfl (by decide) (.slice (some ⟨w11.heap.size, 0, none⟩) 0 0) 0 [] rfl O1 (some ⟨g10, 0, none⟩) (B + 1 + 1) c10 (trC Lr) rfl HLR.out (SRC.out _ C1) (trC_one Lr) (by unfold maxLen; omega) (by omega) C1.size ?_
                  intro va Wa owna gra
                  have Ca : Below w11.heap.size w11 Wa := C1.trans ((ow_grown O1 gra).below (Nat.le_refl _) C1.size)
                  refine hK _ _ Ca ?_
                  clear hK K
                  refine InC.next1 (i := 6) (by kernel_rfl) (InC.one rfl fun K hK => ?_)
                  refine step_append_any rfl (.tmp 263) (.tmp 264) 26 rfl w11.heap.size 45 j0 _ 3 24 Try.underlying26 gi gz0 gz1 gz2 rfl (by decide) va (0 + (B + 1 + 1)) ([] ++ trC Lr) rfl owna (some ⟨g6, 0, none⟩) m3 c6 (trC L3) rfl HL3.out (SR3.out _ Ca) (trC_one L3) (by unfold maxLen; omega) (by omega) Ca.size ?_
                  intro vb Wb ownb grb
                  have Cb : Below w11.heap.size w11 Wb := Ca.trans ((ow_grown owna grb).below (Nat.le_refl _) Ca.size)
                  refine hK _ _ Cb ?_
                  clear hK K
                  have slb : SlF Wb 45 3 w11.heap.size Wb.heap.size vb (eG + 1) (evs (trP LG)) := by
                    have e : (0 + (B + 1 + 1) + m3) = LG.length := by rw [EGL.out, ← LNG.out]; omega
                    have e2 : [] ++ trC Lr ++ trC L3 = trC LG := by rw [← ELG.out, trC_app]; rfl
                    rw [e, e2] at ownb
                    have := ow_slf ownb (fun i hi j hj => trC_get LG i j hi hj)
                    rwa [EGL.out] at this
                  have kr := specRun_ok (s : Int) g (s + 1) _ _ (eG + 1) s lnF (lnT s) (trP LG) _ Wb (CRow.on ROW.out Cb) slb OKH.out rfl (by omega)
                  refine InC.next1 (i := 7) (by kernel_rfl) (InC.one rfl fun K hK => ?_)
                  go_simp
                  refine kr.mono ?_
                  rintro _ w12 ⟨vr, rfl, DS, br⟩
                  have Cr : Below w11.heap.size w11 w12 := below_on Cb br
                  refine hK _ _ Cr ?_
                  clear hK K kr slb ownb owna gra grb
                  refine InC.next1 (i := 8) (by kernel_rfl) (InC.one rfl fun K hK => ?_)
                  go_simp
                  refine (wDone_same _ _ _ _ (eG + 1) s (s + 1) _ _ _ _ _ _ w12 (by omega) (by omega) (by omega) (DnF.on DGH.out Cr) DS).mono ?_
                  rintro _ w13 ⟨rfl, b13⟩
                  have C13 : Below w11.heap.size w11 w13 := below_on Cr b13
                  refine hK _ _ C13 ?_
                  clear hK K
                  refine InC.next1 (i := 9) (by kernel_rfl) (InC.one rfl fun K hK => ?_)
                  go_simp
                  refine hK _ _ C13 ?_
                  clear hK K
                  refine InC.done (by kernel_rfl) ?_
                  go_wp2
                  go_ret
                  exact ⟨rfl, below_on BEL.out C13⟩
        · obtain rfl : vE = 1 := by rcases w1 with h | h; exact absurd h.1 (by omega); exact h.2
          obtain rfl : vE' = 1 := by rcases w2 with h | h; exact absurd h.1 (by omega); exact h.2
          clear w1 w2
          go_upto_region 26 with fail
          clear dL2 dE2
          go_wp2
          go_loopw [184] (fun i wx => ∃ s : Nat, s ≤ n ∧ i = .int .i64 s ∧ wx = w11) (fun i _ => n - (intOf i).toNat)
          case atStart => exact ⟨0, Nat.zero_le _, rfl, rfl⟩
          case round =>
            obtain ⟨s, hs, rfl, hwx⟩ := hrel
            rw [hwx]
            clear hwx
            by_cases hls : s < n
            · have hi2 : (s : Int) < (n : Int) := by omega
              have ff := F1.out hls
              obtain ⟨gs, cs, es, q0, _⟩ := seAt SLH.out hls
              cases es
              obtain ⟨tl, etl⟩ : ∃ t, (runX (n : Int) (n + 1) lnF (lnT n) (trP LL) (eL + 1) s).told = t := ⟨_, rfl⟩
              rw [etl] at ff q0
              clear etl
              by_cases hs1 : s = kk + 1
              · obtain rfl : tl = 1 := ff.2 (.inl hs1)
                subst hs1
                clear ff
                go_wp2
                go_roundw
                case rel => exact ⟨kk + 1 + 1, by omega, by go_num, trivial⟩
                case measure => simp [intOf] <;> omega
              · by_cases hs2 : s = kk
                · obtain rfl : tl = 1 := ff.2 (.inr (by omega))
                  subst hs2
                  clear ff
                  have hn1 : ¬ (s : Int) = (s : Int) + 1 := by omega
                  go_wp2
                  go_roundw
                  case rel => exact ⟨s + 1, by omega, by go_num, trivial⟩
                  case measure => simp [intOf] <;> omega
                · have ht1 : ¬ tl = 1 := fun e => by have := ff.1 e; omega
                  have ht2 : (tl == 1) = false := by simp [ht1]
                  have hn1 : ¬ (s : Int) = (kk : Int) + 1 := by omega
                  have hn2 : ¬ (s : Int) = (kk : Int) := by omega
                  have hn3 : ((s : Int) == (kk : Int) + 1) = false := by simp; omega
                  have hn4 : ((s : Int) == (kk : Int)) = false := by simp; omega
                  clear ff
                  go_wp2
                  go_roundw
                  case rel => exact ⟨s + 1, by omega, by go_num, trivial⟩
                  case measure => simp [intOf] <;> omega
            · have hss : s = n := by omega
              subst hss
              go_wp2
              go_loopw [17] (fun i wx => ∃ j : Nat, j ≤ 2 ∧ i = .int .i64 j ∧ wx = w11) (fun i _ => 2 - (intOf i).toNat)
              case atStart => exact ⟨0, Nat.zero_le _, rfl, rfl⟩
              case round =>
                obtain ⟨j, hj, rfl, hwx⟩ := hrel
                rw [hwx]
                clear hwx
                rcases (show j = 0 ∨ j = 1 ∨ j = 2 by omega) with rfl | rfl | rfl
                · go_wp2
                  go_roundw
                  case rel => exact ⟨1, by omega, by go_num, trivial⟩
                  case measure => simp [intOf]
                · go_wp2
                  go_roundw
                  case rel => exact ⟨2, by omega, by go_num, trivial⟩
                  case measure => simp [intOf]
                · go_upto_region 40 with fail
                  refine wp_region_any (by kernel_rfl) ?_
                  refine InC.any (C := fun W => Below w11.heap.size w11 W) _ _ _ _ ?_
                  have C0 : Below w11.heap.size w11 w11.drew := (Below.refl _ _).drew
                  have C1 : Below w11.heap.size w11 (w11.alloc (.cells #[] 45)).drew := (by repeat (first | exact Below.refl _ _ | assumption | refine below_alloc ?_ _ | refine Below.setCell ?_ (by first | omega | (simp; done) | (simp; omega)) _ | refine Below.alloc ?_ (by first | omega | (simp; done) | (simp; omega)) _ | refine Below.drew ?_))
                  have O1 : (w11.alloc (.cells #[] 45)).drew.ownsRow w11.heap.size 45 3 (.slice (some ⟨w11.heap.size, 0, none⟩) 0 0) 0 [] := own_empty w11 _ _ _ (Nat.le_refl _)
                  refine InC.take (i := 0) (v := .slice (some ⟨gg, 0, none⟩) (eG + 1) cg) rfl (by kernel_rfl) (by kernel_rfl) (by kernel_rfl) (fun _ _ _ h => h) C0 (Or.inl ⟨by rfl, ?_⟩) ?_
                  · intro W hW
                    go_simp
                  refine InC.take (i := 1) (v := .agg #[.int .i64 (s : Int), .slice (gA g) (s + 1) (gC g)]) rfl (by kernel_rfl) (by kernel_rfl) (by kernel_rfl) (fun _ _ _ h => h) C0 (Or.inl ⟨by rfl, ?_⟩) ?_
                  · intro W hW
                    obtain ⟨y0, y1⟩ := (Box2.on LAY.out hW).cells
                    go_simp
                  refine InC.take (i := 3) (v := .slice (some ⟨g10, 0, none⟩) (B + 1 + 1) c10) rfl (by kernel_rfl) (by kernel_rfl) (by kernel_rfl) (fun _ _ _ h => h) C0 (Or.inl ⟨by rfl, ?_⟩) ?_
                  · intro W hW
                    go_simp
                  refine InC.take (i := 5) (v := .slice (some ⟨g6, 0, none⟩) m3 c6) rfl (by kernel_rfl) (by kernel_rfl) (by kernel_rfl) (fun _ _ _ h => h) C0 (Or.inl ⟨by rfl, ?_⟩) ?_
                  · intro W hW
                    go_simp
                  refine InC.next1 (i := 2) (by kernel_rfl) (InC.one rfl fun K hK => ?_)
                  go_simp
                  refine hK _ _ C1 ?_
                  clear hK K
                  refine InC.next1 (i := 4) (by kernel_rfl) (InC.one rfl fun K hK => ?_)
                  refine step_append_any rfl (.tmp 261) (.tmp 262) 26 rfl w11.heap.size 45 j0 _ 3 24 Try.underlying26 gi gz0 gz1 gz2 rfl (by decide) (.slice (some ⟨w11.heap.size, 0, none⟩) 0 0) 0 [] rfl O1 (some ⟨g10, 0, none⟩) (B + 1 + 1) c10 (trC Lr) rfl HLR.out (SRC.out _ C1) (trC_one Lr) (by unfold maxLen; omega) (by omega) C1.size ?_
                  intro va Wa owna gra
                  have Ca : Below w11.heap.size w11 Wa := C1.trans ((ow_grown O1 gra).below (Nat.le_refl _) C1.size)
                  refine hK _ _ Ca ?_
                  clear hK K
                  refine InC.next1 (i := 6) (by kernel_rfl) (InC.one rfl fun K hK => ?_)
                  refine step_append_any rfl (.tmp 263) (.tmp 264) 26 rfl w11.heap.size 45 j0 _ 3 24 Try.underlying26 gi gz0 gz1 gz2 rfl (by decide) va (0 + (B + 1 + 1)) ([] ++ trC Lr) rfl owna (some ⟨g6, 0, none⟩) m3 c6 (trC L3) rfl HL3.out (SR3.out _ Ca) (trC_one L3) (by unfold maxLen; omega) (by omega) Ca.size ?_
                  intro vb Wb ownb grb
                  have Cb : Below w11.heap.size w11 Wb := Ca.trans ((ow_grown owna grb).below (Nat.le_refl _) Ca.size)
                  refine hK _ _ Cb ?_
                  clear hK K
                  have slb : SlF Wb 45 3 w11.heap.size Wb.heap.size vb (eG + 1) (evs (trP LG)) := by
                    have e : (0 + (B + 1 + 1) + m3) = LG.length := by rw [EGL.out, ← LNG.out]; omega
                    have e2 : [] ++ trC Lr ++ trC L3 = trC LG := by rw [← ELG.out, trC_app]; rfl
                    rw [e, e2] at ownb
                    have := ow_slf ownb (fun i hi j hj => trC_get LG i j hi hj)
                    rwa [EGL.out] at this
                  have kr := specRun_ok (s : Int) g (s + 1) _ _ (eG + 1) s lnF (lnT s) (trP LG) _ Wb (CRow.on ROW.out Cb) slb OKH.out rfl (by omega)
                  refine InC.next1 (i := 7) (by kernel_rfl) (InC.one rfl fun K hK => ?_)
                  go_simp
                  refine kr.mono ?_
                  rintro _ w12 ⟨vr, rfl, DS, br⟩
                  have Cr : Below w11.heap.size w11 w12 := below_on Cb br
                  refine hK _ _ Cr ?_
                  clear hK K kr slb ownb owna gra grb
                  refine InC.next1 (i := 8) (by kernel_rfl) (InC.one rfl fun K hK => ?_)
                  go_simp
                  refine (wDone_same _ _ _ _ (eG + 1) s (s + 1) _ _ _ _ _ _ w12 (by omega) (by omega) (by omega) (DnF.on DGH.out Cr) DS).mono ?_
                  rintro _ w13 ⟨rfl, b13⟩
                  have C13 : Below w11.heap.size w11 w13 := below_on Cr b13
                  refine hK _ _ C13 ?_
                  clear hK K
                  refine InC.next1 (i := 9) (by kernel_rfl) (InC.one rfl fun K hK => ?_)
                  go_simp
                  refine hK _ _ C13 ?_
                  clear hK K
                  refine InC.done (by kernel_rfl) ?_
                  go_wp2
                  go_ret
                  exact ⟨rfl, below_on BEL.out C13⟩

end Go.Proofs.Ytlpopfhaephfaaa.Ps

namespace Go.Proofs.Ytlpopfhaephfaaa
open Go.ChangeShapes Go.WideShapes Go.ChangeAt Go.RowKit Go.Joins

theorem Try.ownD : ownKnob Try.prog.godebug = none := by kernel_rfl
theorem Try.laidD : laidOutB Try.prog = true := by kernel_rfl
theorem Try.cellsU8 : Try.prog.cellsOf 5 = 1 := by kernel_rfl

theorem u8_wf {n : Int} (h : (Lit.int .u8 n).wf = true) : 0 ≤ n ∧ n < 256 := by
  unfold Lit.wf at h
  simp only [Bool.and_eq_true, decide_eq_true_eq] at h
  have h1 : IntKind.u8.min = 0 := by decide
  have h2 : IntKind.u8.max = 255 := by decide
  rw [h1, h2] at h
  omega

theorem cod_of_trod {H : Type} {enc : TypeId × Value → H} {W : World} {base : Nat} {spare : Nat → Bool} {held : Bool} {fuel : Nat} {c : Value} {x : DataW H × List MemPlace} (h : DataW.trod enc Try.prog W base spare held fuel 22 [c] = some x) :
    ∃ (ao : Option Addr) (n cap : Nat) (C : Nat → Int), c = .slice ao n cap ∧ n ≤ maxLen ∧ Cod W W.heap.size ao n C := by
  rcases open_ints Try.underlying22 Try.underlying5 Try.cellsU8 h with ⟨hc, _⟩ | ⟨a, len, cap, zs, hc, _, hl, hm, hz, _, hcell, hwf⟩
  · simp only [List.cons.injEq, and_true] at hc
    exact ⟨none, 0, 0, fun _ => 0, hc, Nat.zero_le _, .inl rfl⟩
  · simp only [List.cons.injEq, and_true] at hc
    refine ⟨some a, len, cap, fun i => zs.getD i 0, hc, Nat.le_trans hl hm, ?_⟩
    have hlz : len ≤ zs.length := by rw [hz]; split <;> omega
    rcases Nat.eq_zero_or_pos len with h0 | h0
    · exact .inl h0
    · right
      obtain ⟨b, off, spot⟩ := a
      have hs : spot = none := by simpa [Addr.add] using World.cell?_spot (hcell 0 (by omega))
      subst hs
      refine ⟨b, off, rfl, ?_, fun i hi => ⟨?_, ?_⟩⟩
      · have := World.block_lt_of_cell? W _ (hcell 0 (by omega))
        simpa [Addr.add] using this
      · have := hcell i (by omega)
        have e : (⟨b, off, none⟩ : Addr).add i = ⟨b, off + i, none⟩ := by simp [Addr.add]
        rw [e] at this
        exact this
      · have hi' : i < zs.length := by omega
        have e : zs.getD i 0 = zs[i] := by rw [List.getD_eq_getElem?_getD, List.getElem?_eq_getElem hi']; rfl
        show 0 ≤ zs.getD i 0 ∧ zs.getD i 0 < 256
        rw [e]
        exact u8_wf (hwf _ (List.getElem_mem hi'))

theorem cod_of {H : Type} {enc : TypeId × Value → H} {W : World} {base : Nat} {spare : Nat → Bool} {held : Bool} {ao : Option Addr} {n cap : Nat} {d : DataW H} {p : List MemPlace} (h : DataW.Trod enc Try.prog W base spare held 22 (.slice ao n cap) d p) :
    n ≤ maxLen ∧ ∃ C, Cod W W.heap.size ao n C := by
  obtain ⟨fuel, hf⟩ := h
  obtain ⟨ao', n', cap', C, e, hm, hc⟩ := cod_of_trod (c := .slice ao n cap) hf
  simp only [Value.slice.injEq] at e
  obtain ⟨rfl, rfl, rfl⟩ := e
  exact ⟨hm, C, hc⟩

end Go.Proofs.Ytlpopfhaephfaaa

namespace Go.Proofs.Ytlpopfhaephfaaa
open Go.ChangeShapes Go.WideShapes Go.ChangeAt Go.RowKit Go.Joins

set_option maxRecDepth 100000 in
theorem fnSweep_great (m1 c1 : Nat) (a1 : Option Addr) (w : World) (h1 : 1048576 < m1) :
    Calls Try.prog 6 #[.slice a1 m1 c1] w fun e w' => e = .returned (.bool true) ∧ Below w.heap.size w w' := by
  have i1 : (1048576 : Int) < m1 := by omega
  go_enter Try.func6, Try.ntmps6
  go_wp2
  go_ret
  exact ⟨rfl, Below.refl _ _⟩

theorem fnSweep_all (m1 c1 : Nat) (a1 : Option Addr) (C1 : Nat → Int) (w : World) (h1 : Cod w w.heap.size a1 m1 C1) :
    Calls Try.prog 6 #[.slice a1 m1 c1] w fun e w' => e = .returned (.bool true) ∧ Below w.heap.size w w' := by
  by_cases h : 1048576 < m1
  · exact fnSweep_great m1 c1 a1 w h
  · exact Ps.sweep_small m1 c1 a1 C1 w h1 (by omega)

set_option maxRecDepth 100000 in
theorem fnSweep_lifted (os : Os) (started : os.Started) (H : Type) (enc : TypeId × Value → H) :
    ReturnsInHanded {} Try.checked os 6 .any (Rows.fnSweepSpec.pre6 enc Try.prog Try.f6 Rows.fnSweepRow.domain false) (Rows.fnSweepSpec.post enc Try.prog Try.f6 false true false false) := by
  refine returnsInHanded_of_change (C := Try.checked) Try.ownD started (by kernel_rfl) Try.func6
    (ChangeSpec.witness6 (enc := enc) (C := Try.checked) false ⟨#[], #[.slice none 0 0], []⟩ 8 (by kernel_rfl) (by kernel_rfl) (by kernel_rfl) (by kernel_rfl)) ?_
  intro W base args ds gs before hval0 hW hcnd _
  have hval : ∀ (j : Nat) t v, Try.f6.params[j]? = some t → args[j]? = some v → Value.okWide Try.prog W .any base t v := hval0
  have hW' := hW
  obtain ⟨p, q, hA0, hV, rfl, hfz, hnd⟩ := hW
  have hA : DataW.TrodAll enc Try.prog W 0 (fun _ => true) true Try.f6.params.toList args.toList ds p := hA0
  rw [Try.params6] at hA hval
  obtain ⟨v0, d0, rfl, rfl, h0⟩ := trodAll_one hA
  obtain ⟨rfl, rfl⟩ := trodVars_none hV
  have hlt : ∀ x ∈ p, x.block < W.heap.size := fun x hx => by simpa using hW'.lt x (by simp [hx])
  obtain ⟨a1, m1, c1, rfl⟩ := okWide_slice Try.underlying22 (hval 0 22 v0 rfl rfl)
  obtain ⟨_, C1, hc1⟩ := cod_of h0
  clear hA0 hval0
  simp only [List.append_nil] at hW'
  refine (fnSweep_all m1 c1 a1 C1 W hc1).mono fun e W' ⟨he, hb⟩ => ?_
  subst he
  refine ⟨_, rfl, _, _, _, [], p, [], hW', ?_, ?_, rfl, hb.frame _, fun h => by cases h⟩
  · exact trodAll_mk1 (shut_bool Try.underlying4 true)
  · exact trodAll_mk1 (Below.trod Try.laidD (by kernel_rfl) (of_decide_eq_true (by kernel_rfl)) h0 hb hlt)

theorem fnSweep_holds : Rows.FnSweepSaid :=
  OpenClaim.holds_of_wide 6 Try.f6 rfl rfl rfl rfl rfl rfl rfl ⟨rfl, rfl, rfl, rfl, rfl⟩ rfl rfl rfl rfl rfl (by kernel_rfl) Try.func6 (by kernel_rfl)
    (of_decide_eq_true (by kernel_rfl)) (by unfold Func.isWrapper; first | (rw [if_pos (by decide +kernel)]; kernel_rfl) | (rw [if_neg (by decide +kernel)]; exact ⟨rfl, rfl⟩))
    (fun os started H enc _ => fnSweep_lifted os started H enc)

#print axioms fnSweep_holds

end Go.Proofs.Ytlpopfhaephfaaa
