import Derived.Test.YtlpopfhaephfaabW4
import Derived.Test.YtlpopfhaephfaabSOLaw
import Derived.Test.YtlpopfhaephfaabEVLaw
import Derived.Test.YtlpopfhaephfaabDM14
import Derived.Test.YtlpopfhaephfaabDL1
namespace Go.Proofs.Ytlpopfhaephfaab
open Go.RowKit

theorem do_great (S : Int) (ao : Option Addr) (n cap : Nat) (ok : Bool) (a1 a2 : Option Addr) (ns c1 nd c2 : Nat) (op f d : Int) (w : World) (hl : n ≤ maxLen) (hn : ¬ (n : Int) ≤ 1048576) :
    Calls Try.prog 4 #[.agg #[.int .i64 S, .slice ao n cap], .agg #[.bool ok, .slice a1 ns c1, .slice a2 nd c2], .agg #[.int .i64 op, .int .i64 f, .int .i64 d]] w fun e w' => e = .returned (.bool true) ∧ Below w.heap.size w w' := by
  go_enter Try.func4, Try.ntmps4
  go_wp2_with (first | (go_at_call 9; refine (szLayout_any _ _ _ _ _ hl).mono ?_; rw [if_neg hn]; rintro e w1 ⟨rfl, hb1⟩))
  go_ret
  exact ⟨rfl, (show Below w.heap.size w _ from (by repeat (first | exact Below.refl _ _ | assumption | refine below_alloc ?_ _ | refine Below.setCell ?_ (by first | omega | (simp; done) | (simp; omega)) _ | refine Below.alloc ?_ (by first | omega | (simp; done) | (simp; omega)) _ | refine Below.drew ?_))).trans (hb1.mono (by first | omega | (simp; done) | (simp; omega)))⟩

theorem do_great2 (S : Int) (ao : Option Addr) (n cap : Nat) (ok : Bool) (a1 a2 : Option Addr) (ns c1 nd c2 : Nat) (op f d : Int) (w : World) (hl : n ≤ maxLen) (hn : (n : Int) ≤ 1048576) (hs : ns ≤ maxLen) (hd : nd ≤ maxLen) (hz : szSt (1048576 - n) ns nd = -1) :
    Calls Try.prog 4 #[.agg #[.int .i64 S, .slice ao n cap], .agg #[.bool ok, .slice a1 ns c1, .slice a2 nd c2], .agg #[.int .i64 op, .int .i64 f, .int .i64 d]] w fun e w' => e = .returned (.bool true) ∧ Below w.heap.size w w' := by
  have ks := fun W => szState_any ok a1 a2 ns c1 nd c2 (1048576 - n) W hs hd (by omega) (by omega)
  rw [hz] at ks
  go_enter Try.func4, Try.ntmps4
  go_wp2_with fail
  refine (szLayout_any _ _ _ _ _ hl).mono ?_
  rw [if_pos hn]
  rintro e w1 ⟨rfl, hb1⟩
  obtain ⟨q1, q2⟩ := bcell hb1
  have B1 := below_on (show Below w.heap.size w _ from (by repeat (first | exact Below.refl _ _ | assumption | refine below_alloc ?_ _ | refine Below.setCell ?_ (by first | omega | (simp; done) | (simp; omega)) _ | refine Below.alloc ?_ (by first | omega | (simp; done) | (simp; omega)) _ | refine Below.drew ?_))) hb1
  clear hb1
  go_wp2_with fail
  refine (ks _).mono ?_
  rintro e w2 ⟨rfl, hb2⟩
  go_wp2
  go_ret
  exact ⟨rfl, below_on B1 hb2⟩

set_option maxRecDepth 100000 in
set_option maxHeartbeats 4000000 in
theorem do_small (S : Int) (ao : Option Addr) (n cap : Nat) (F T : Nat → Int) (ok : Bool) (a1 a2 : Option Addr) (ns c1 nd c2 : Nat) (X : Nat → Sec) (D : Nat → Bool) (op f d : Int) (w : World) (hn : (n : Int) ≤ 1048576) (hz : ns + nd + n ≤ 1048576) (h : Came w ao n F T) (hX : CameS w a1 ns X) (hD : CameB w a2 nd D) :
    Calls Try.prog 4 #[.agg #[.int .i64 S, .slice ao n cap], .agg #[.bool ok, .slice a1 ns c1, .slice a2 nd c2], .agg #[.int .i64 op, .int .i64 f, .int .i64 d]] w fun e w' => e = .returned (.bool true) ∧ Below w.heap.size w w' := by
  have hn' : n ≤ 1048576 := by omega
  have hs' : ns ≤ 1048576 := by omega
  have hd' : nd ≤ 1048576 := by omega
  have hl : n ≤ maxLen := by unfold maxLen; omega
  have ks := fun W => szState_any ok a1 a2 ns c1 nd c2 (1048576 - n) W (by unfold maxLen; omega) (by unfold maxLen; omega) (by omega) (by omega)
  have e0 : szSt (1048576 - n) ns nd = 1048576 - n - ns - nd := by unfold szSt; rw [if_pos (by omega)]
  rw [e0] at ks
  have p0 : ¬ ((1048576 : Int) - n - ns - nd < 0) := by omega
  obtain ⟨A, eA⟩ : ∃ A, ((w.alloc (.cells #[.int .i64 S, .slice ao n cap] 24)).alloc (.cells #[.bool ok, .slice a1 ns c1, .slice a2 nd c2] 40)).alloc (.cells #[.int .i64 op, .int .i64 f, .int .i64 d] 26) = A := ⟨_, rfl⟩
  have sA : A.heap.size = w.heap.size + 1 + 1 + 1 := by rw [← eA]; simp
  have b0 : Below w.heap.size w A := by rw [← eA]; exact (by repeat (first | exact Below.refl _ _ | assumption | refine below_alloc ?_ _ | refine Below.setCell ?_ (by first | omega | (simp; done) | (simp; omega)) _ | refine Below.alloc ?_ (by first | omega | (simp; done) | (simp; omega)) _ | refine Below.drew ?_))
  have bL : Blk A w.heap.size 24 2 (fun i => if i = 0 then .int .i64 S else .slice ao n cap) := by
    rw [← eA]
    exact ((Blk.new w #[.int .i64 S, .slice ao n cap] 24 _ (fun i hi => by simp at hi; match i, hi with | 0, _ => rfl | 1, _ => rfl)).alloc _).alloc _
  have bS : Box3 A (w.heap.size + 1) 40 (.bool ok) (.slice a1 ns c1) (.slice a2 nd c2) := by
    rw [← eA]
    have := (Box3.lay (w.alloc (.cells #[.int .i64 S, .slice ao n cap] 24)) (.bool ok) (.slice a1 ns c1) (.slice a2 nd c2) 40).alloc (.cells #[.int .i64 op, .int .i64 f, .int .i64 d] 26)
    simp only [World.size_alloc] at this
    exact this
  have bE : Box3 A (w.heap.size + 1 + 1) 26 (.int .i64 op) (.int .i64 f) (.int .i64 d) := by
    rw [← eA]
    have := Box3.lay ((w.alloc (.cells #[.int .i64 S, .slice ao n cap] 24)).alloc (.cells #[.bool ok, .slice a1 ns c1, .slice a2 nd c2] 40)) (.int .i64 op) (.int .i64 f) (.int .i64 d) 26
    simp only [World.size_alloc] at this
    exact this
  have hA : ∀ W, Below A.heap.size A W → Came W ao n F T ∧ CameS W a1 ns X ∧ CameB W a2 nd D ∧ W.cell? ⟨w.heap.size, 0, none⟩ = some (.int .i64 S) ∧ W.cell? ⟨w.heap.size, 1, none⟩ = some (.slice ao n cap) ∧ W.cell? ⟨w.heap.size + 1, 0, none⟩ = some (.bool ok) ∧ W.cell? ⟨w.heap.size + 1, 1, none⟩ = some (.slice a1 ns c1) ∧ W.cell? ⟨w.heap.size + 1, 2, none⟩ = some (.slice a2 nd c2) ∧ W.cell? ⟨w.heap.size + 1 + 1, 0, none⟩ = some (.int .i64 op) ∧ W.cell? ⟨w.heap.size + 1 + 1, 1, none⟩ = some (.int .i64 f) ∧ W.cell? ⟨w.heap.size + 1 + 1, 2, none⟩ = some (.int .i64 d) := fun W hb =>
    ⟨h.below (below_on b0 hb), hX.below (below_on b0 hb), hD.below (below_on b0 hb), (bL.on hb).cell (i := 0) (by omega), (bL.on hb).cell (i := 1) (by omega), (bS.on hb).cells.1, (bS.on hb).cells.2.1, (bS.on hb).cells.2.2, (bE.on hb).cells.1, (bE.on hb).cells.2.1, (bE.on hb).cells.2.2⟩
  obtain ⟨C, ok', ns', nd', X', D', hns', hnd', cS, cI⟩ := dos S n F T ok ns nd X D op f d
  unfold DoC at cS cI
  have EA : Hid (((w.alloc (.cells #[.int .i64 S, .slice ao n cap] 24)).alloc (.cells #[.bool ok, .slice a1 ns c1, .slice a2 nd c2] 40)).alloc (.cells #[.int .i64 op, .int .i64 f, .int .i64 d] 26) = A) := eA
  clear h hX hD eA e0 bL bS bE
  go_enter Try.func4, Try.ntmps4
  go_wp2_with fail
  rw [EA.out]
  refine (szLayout_any _ _ _ _ _ hl).mono ?_
  rw [if_pos hn]
  rintro e w1 ⟨rfl, B1⟩
  obtain ⟨mL, mS, mD, i0, i1, j0, j1, j2, k0, k1, k2⟩ := hA _ B1
  go_wp2_with fail
  refine (ks _).mono ?_
  rintro e w2 ⟨rfl, hb2⟩
  have B2 := below_on B1 hb2
  clear B1 hb2 mL mS mD i0 i1 j0 j1 j2 k0 k1 k2
  have hA0 := fun W (hb : Below w2.heap.size w2 W) => hA W (below_on B2 hb)
  go_upto_region 8 with fail
  go_cut [8] from 26 (fun q wc => ∃ bb b1 d1 b2 d2 top, q = .pointer (some ⟨bb, 0, none⟩) ∧ Box4 wc bb C ok' (.slice b1 ns' d1) (.slice b2 nd' d2) ∧ StF wc w2.heap.size top (.agg #[.bool ok', .slice b1 ns' d1, .slice b2 nd' d2]) ok' ns' nd' X' D' ∧ top ≤ wc.heap.size ∧ Below w2.heap.size w2 wc)
  case first =>
    refine wp_region_any (by kernel_rfl) ?_
    refine InC.any (C := fun W => Below w2.heap.size w2 W) _ _ _ _ ?_
    have C0 : Below w2.heap.size w2 w2.drew := (Below.refl _ _).drew
    refine InC.take (i := 0) (v := .agg #[.int .i64 S, .slice ao n cap]) rfl (by kernel_rfl) (by kernel_rfl) (by kernel_rfl) (fun _ _ _ h => h) C0 (Or.inl ⟨by rfl, ?_⟩) ?_
    · intro W hW
      obtain ⟨mL, mS, mD, i0, i1, j0, j1, j2, k0, k1, k2⟩ := hA0 W hW
      go_simp
    refine InC.take (i := 2) (v := .agg #[.bool ok, .slice a1 ns c1, .slice a2 nd c2]) rfl (by kernel_rfl) (by kernel_rfl) (by kernel_rfl) (fun _ _ _ h => h) C0 (Or.inl ⟨by rfl, ?_⟩) ?_
    · intro W hW
      obtain ⟨mL, mS, mD, i0, i1, j0, j1, j2, k0, k1, k2⟩ := hA0 W hW
      go_simp
    refine InC.take (i := 4) (v := .agg #[.int .i64 op, .int .i64 f, .int .i64 d]) rfl (by kernel_rfl) (by kernel_rfl) (by kernel_rfl) (fun _ _ _ h => h) C0 (Or.inl ⟨by rfl, ?_⟩) ?_
    · intro W hW
      obtain ⟨mL, mS, mD, i0, i1, j0, j1, j2, k0, k1, k2⟩ := hA0 W hW
      go_simp
    refine InC.next2 (i := 1) (j := 7) (by kernel_rfl) (InC.one rfl fun K hK => ?_) (InC.one rfl fun K hK => ?_)
    · go_simp
      refine (toLayout_any _ _ _ _ F T _ hn' (hA0 _ C0).1).mono ?_
      rintro e wv1 ⟨gL, rfl, hgL, rL, hv1⟩
      have Bv1 := below_on C0 hv1
      refine hK _ _ Bv1 ?_
      clear hK K
      refine InC.next2 (i := 3) (j := 7) (by kernel_rfl) (InC.one rfl fun K hK => ?_) (InC.one rfl fun K hK => ?_)
      · go_simp
        refine (toStateF _ _ _ _ _ _ _ X D _ hs' hd' (hA0 _ Bv1).2.1 (hA0 _ Bv1).2.2.1).mono ?_
        rintro e wv2 ⟨h1, h2, rfl, sS, hv2⟩
        have Bv2 := below_on Bv1 hv2
        have rL := rL.on hv2
        refine hK _ _ Bv2 ?_
        clear hK K
        refine InC.next2 (i := 5) (j := 7) (by kernel_rfl) (InC.one rfl fun K hK => ?_) (InC.one rfl fun K hK => ?_)
        · go_simp
          refine (toEvent_any _ _ _ _).mono ?_
          rintro e wv3 ⟨rfl, hv3⟩
          have Bv3 := below_on Bv2 hv3
          have rL := rL.on hv3
          have sS := sS.on hv3
          refine hK _ _ Bv3 ?_
          clear hK K
          refine InC.next2 (i := 6) (j := 7) (by kernel_rfl) (InC.one rfl fun K hK => ?_) (InC.one rfl fun K hK => ?_)
          · go_simp
            refine (cS _ _ _ _ _ rL sS).mono ?_
            rintro e wv4 ⟨u, rfl, ⟨b1, d1, b2, d2, rfl, st⟩, hv4⟩
            have Bv4 := below_on Bv3 hv4
            have st := st.wide (lo' := w2.heap.size) (hi' := wv4.heap.size) Bv3.size (Nat.le_refl _)
            have rL := rL.on hv4
            have sS := sS.on hv4
            refine hK _ _ Bv4 ?_
            clear hK K
            refine InC.next1 (i := 7) (by kernel_rfl) (InC.one rfl fun K hK => ?_)
            go_simp
            refine hK _ _ (below_alloc Bv4 _) ?_
            clear hK K
            refine InC.next1 (i := 8) (by kernel_rfl) (InC.one rfl fun K hK => ?_)
            go_simp
            refine hK _ _ (below_alloc Bv4 _) ?_
            clear hK K
            refine InC.done (by kernel_rfl) ?_
            go_wp2_with fail
            go_meet
            case rel => exact ⟨wv4.heap.size, b1, d1, b2, d2, _, rfl, Box4.lay _ _ _ _ _, st.alloc _, by simp, below_alloc Bv4 _⟩
          · go_simp
            have Bv5 : Below w2.heap.size w2 (wv3.alloc (.cells #[.int .i64 0, .bool false, .slice none 0 0, .slice none 0 0] 46)) := below_alloc Bv3 _
            have zb : Blk (wv3.alloc (.cells #[.int .i64 0, .bool false, .slice none 0 0, .slice none 0 0] 46)) wv3.heap.size 46 4 (fun i => #[.int .i64 0, .bool false, .slice none 0 0, .slice none 0 0][i]!) := Blk.new wv3 #[.int .i64 0, .bool false, .slice none 0 0, .slice none 0 0] _ _ (fun i hi => by simp at hi; match i, hi with | 0, _ => rfl | 1, _ => rfl | 2, _ => rfl | 3, _ => rfl)
            have pz : w2.heap.size ≤ wv3.heap.size := Bv3.size
            have rL := rL.alloc (.cells #[.int .i64 0, .bool false, .slice none 0 0, .slice none 0 0] 46)
            have sS := sS.alloc (.cells #[.int .i64 0, .bool false, .slice none 0 0, .slice none 0 0] 46)
            refine hK _ _ Bv5 ?_
            clear hK K
            refine InC.next1 (i := 6) (by kernel_rfl) (InC.one rfl fun K hK => ?_)
            go_simp
            refine (cS _ _ _ _ _ rL sS).mono ?_
            rintro e wv6 ⟨u, rfl, ⟨b1, d1, b2, d2, rfl, st⟩, hv6⟩
            have Bv6 := below_on Bv5 hv6
            have st := st.wide (lo' := w2.heap.size) (hi' := wv6.heap.size) Bv5.size (Nat.le_refl _)
            have rL := rL.on hv6
            have sS := sS.on hv6
            have zb := zb.on hv6
            refine hK _ _ Bv6 ?_
            clear hK K
            have y0 := zb.cell (i := 0) (by omega)
            have f0 := zb.frozen 0
            have y1 := zb.cell (i := 1) (by omega)
            have f1 := zb.frozen 1
            have y2 := zb.cell (i := 2) (by omega)
            have f2 := zb.frozen 2
            have y3 := zb.cell (i := 3) (by omega)
            have f3 := zb.frozen 3
            obtain ⟨q1, q2, q3⟩ := done_set zb (.int .i64 C) (.bool ok') (.slice b1 ns' d1) (.slice b2 nd' d2)
            have By := Bv6.trans (q2.below (B := w2.heap.size) pz Bv6.size)
            have st := st.turned q2 (.inl ⟨by decide, by decide⟩)
            refine InC.next1 (i := 8) (by kernel_rfl) (InC.one rfl fun K hK => ?_)
            go_simp
            refine hK _ _ By ?_
            clear hK K
            refine InC.done (by kernel_rfl) ?_
            go_wp2_with fail
            go_meet
            case rel => exact ⟨_, b1, d1, b2, d2, _, rfl, q1, st, Nat.le_of_eq q3.symm, By⟩
        · go_simp
          have Bv7 : Below w2.heap.size w2 (wv2.alloc (.cells #[.int .i64 0, .bool false, .slice none 0 0, .slice none 0 0] 46)) := below_alloc Bv2 _
          have zb : Blk (wv2.alloc (.cells #[.int .i64 0, .bool false, .slice none 0 0, .slice none 0 0] 46)) wv2.heap.size 46 4 (fun i => #[.int .i64 0, .bool false, .slice none 0 0, .slice none 0 0][i]!) := Blk.new wv2 #[.int .i64 0, .bool false, .slice none 0 0, .slice none 0 0] _ _ (fun i hi => by simp at hi; match i, hi with | 0, _ => rfl | 1, _ => rfl | 2, _ => rfl | 3, _ => rfl)
          have pz : w2.heap.size ≤ wv2.heap.size := Bv2.size
          have rL := rL.alloc (.cells #[.int .i64 0, .bool false, .slice none 0 0, .slice none 0 0] 46)
          have sS := sS.alloc (.cells #[.int .i64 0, .bool false, .slice none 0 0, .slice none 0 0] 46)
          refine hK _ _ Bv7 ?_
          clear hK K
          refine InC.next1 (i := 5) (by kernel_rfl) (InC.one rfl fun K hK => ?_)
          go_simp
          refine (toEvent_any _ _ _ _).mono ?_
          rintro e wv8 ⟨rfl, hv8⟩
          have Bv8 := below_on Bv7 hv8
          have rL := rL.on hv8
          have sS := sS.on hv8
          have zb := zb.on hv8
          refine hK _ _ Bv8 ?_
          clear hK K
          refine InC.next1 (i := 6) (by kernel_rfl) (InC.one rfl fun K hK => ?_)
          go_simp
          refine (cS _ _ _ _ _ rL sS).mono ?_
          rintro e wv9 ⟨u, rfl, ⟨b1, d1, b2, d2, rfl, st⟩, hv9⟩
          have Bv9 := below_on Bv8 hv9
          have st := st.wide (lo' := w2.heap.size) (hi' := wv9.heap.size) Bv8.size (Nat.le_refl _)
          have rL := rL.on hv9
          have sS := sS.on hv9
          have zb := zb.on hv9
          refine hK _ _ Bv9 ?_
          clear hK K
          have y0 := zb.cell (i := 0) (by omega)
          have f0 := zb.frozen 0
          have y1 := zb.cell (i := 1) (by omega)
          have f1 := zb.frozen 1
          have y2 := zb.cell (i := 2) (by omega)
          have f2 := zb.frozen 2
          have y3 := zb.cell (i := 3) (by omega)
          have f3 := zb.frozen 3
          obtain ⟨q1, q2, q3⟩ := done_set zb (.int .i64 C) (.bool ok') (.slice b1 ns' d1) (.slice b2 nd' d2)
          have By := Bv9.trans (q2.below (B := w2.heap.size) pz Bv9.size)
          have st := st.turned q2 (.inl ⟨by decide, by decide⟩)
          refine InC.next1 (i := 8) (by kernel_rfl) (InC.one rfl fun K hK => ?_)
          go_simp
          refine hK _ _ By ?_
          clear hK K
          refine InC.done (by kernel_rfl) ?_
          go_wp2_with fail
          go_meet
          case rel => exact ⟨_, b1, d1, b2, d2, _, rfl, q1, st, Nat.le_of_eq q3.symm, By⟩
      · go_simp
        have Bv10 : Below w2.heap.size w2 (wv1.alloc (.cells #[.int .i64 0, .bool false, .slice none 0 0, .slice none 0 0] 46)) := below_alloc Bv1 _
        have zb : Blk (wv1.alloc (.cells #[.int .i64 0, .bool false, .slice none 0 0, .slice none 0 0] 46)) wv1.heap.size 46 4 (fun i => #[.int .i64 0, .bool false, .slice none 0 0, .slice none 0 0][i]!) := Blk.new wv1 #[.int .i64 0, .bool false, .slice none 0 0, .slice none 0 0] _ _ (fun i hi => by simp at hi; match i, hi with | 0, _ => rfl | 1, _ => rfl | 2, _ => rfl | 3, _ => rfl)
        have pz : w2.heap.size ≤ wv1.heap.size := Bv1.size
        have rL := rL.alloc (.cells #[.int .i64 0, .bool false, .slice none 0 0, .slice none 0 0] 46)
        refine hK _ _ Bv10 ?_
        clear hK K
        refine InC.next1 (i := 3) (by kernel_rfl) (InC.one rfl fun K hK => ?_)
        go_simp
        refine (toStateF _ _ _ _ _ _ _ X D _ hs' hd' (hA0 _ Bv10).2.1 (hA0 _ Bv10).2.2.1).mono ?_
        rintro e wv11 ⟨h1, h2, rfl, sS, hv11⟩
        have Bv11 := below_on Bv10 hv11
        have rL := rL.on hv11
        have zb := zb.on hv11
        refine hK _ _ Bv11 ?_
        clear hK K
        refine InC.next1 (i := 5) (by kernel_rfl) (InC.one rfl fun K hK => ?_)
        go_simp
        refine (toEvent_any _ _ _ _).mono ?_
        rintro e wv12 ⟨rfl, hv12⟩
        have Bv12 := below_on Bv11 hv12
        have rL := rL.on hv12
        have sS := sS.on hv12
        have zb := zb.on hv12
        refine hK _ _ Bv12 ?_
        clear hK K
        refine InC.next1 (i := 6) (by kernel_rfl) (InC.one rfl fun K hK => ?_)
        go_simp
        refine (cS _ _ _ _ _ rL sS).mono ?_
        rintro e wv13 ⟨u, rfl, ⟨b1, d1, b2, d2, rfl, st⟩, hv13⟩
        have Bv13 := below_on Bv12 hv13
        have st := st.wide (lo' := w2.heap.size) (hi' := wv13.heap.size) Bv12.size (Nat.le_refl _)
        have rL := rL.on hv13
        have sS := sS.on hv13
        have zb := zb.on hv13
        refine hK _ _ Bv13 ?_
        clear hK K
        have y0 := zb.cell (i := 0) (by omega)
        have f0 := zb.frozen 0
        have y1 := zb.cell (i := 1) (by omega)
        have f1 := zb.frozen 1
        have y2 := zb.cell (i := 2) (by omega)
        have f2 := zb.frozen 2
        have y3 := zb.cell (i := 3) (by omega)
        have f3 := zb.frozen 3
        obtain ⟨q1, q2, q3⟩ := done_set zb (.int .i64 C) (.bool ok') (.slice b1 ns' d1) (.slice b2 nd' d2)
        have By := Bv13.trans (q2.below (B := w2.heap.size) pz Bv13.size)
        have st := st.turned q2 (.inl ⟨by decide, by decide⟩)
        refine InC.next1 (i := 8) (by kernel_rfl) (InC.one rfl fun K hK => ?_)
        go_simp
        refine hK _ _ By ?_
        clear hK K
        refine InC.done (by kernel_rfl) ?_
        go_wp2_with fail
        go_meet
        case rel => exact ⟨_, b1, d1, b2, d2, _, rfl, q1, st, Nat.le_of_eq q3.symm, By⟩
    · go_simp
      have Bv14 : Below w2.heap.size w2 (w2.alloc (.cells #[.int .i64 0, .bool false, .slice none 0 0, .slice none 0 0] 46)).drew := (below_alloc (Below.refl _ _) _).drew
      have zb : Blk (w2.alloc (.cells #[.int .i64 0, .bool false, .slice none 0 0, .slice none 0 0] 46)).drew w2.heap.size 46 4 (fun i => #[.int .i64 0, .bool false, .slice none 0 0, .slice none 0 0][i]!) := Blk.new w2 #[.int .i64 0, .bool false, .slice none 0 0, .slice none 0 0] _ _ (fun i hi => by simp at hi; match i, hi with | 0, _ => rfl | 1, _ => rfl | 2, _ => rfl | 3, _ => rfl)
      have pz : w2.heap.size ≤ w2.heap.size := Nat.le_refl _
      refine hK _ _ Bv14 ?_
      clear hK K
      refine InC.next1 (i := 1) (by kernel_rfl) (InC.one rfl fun K hK => ?_)
      go_simp
      refine (toLayout_any _ _ _ _ F T _ hn' (hA0 _ Bv14).1).mono ?_
      rintro e wv15 ⟨gL, rfl, hgL, rL, hv15⟩
      have Bv15 := below_on Bv14 hv15
      have zb := zb.on hv15
      refine hK _ _ Bv15 ?_
      clear hK K
      refine InC.next1 (i := 3) (by kernel_rfl) (InC.one rfl fun K hK => ?_)
      go_simp
      refine (toStateF _ _ _ _ _ _ _ X D _ hs' hd' (hA0 _ Bv15).2.1 (hA0 _ Bv15).2.2.1).mono ?_
      rintro e wv16 ⟨h1, h2, rfl, sS, hv16⟩
      have Bv16 := below_on Bv15 hv16
      have rL := rL.on hv16
      have zb := zb.on hv16
      refine hK _ _ Bv16 ?_
      clear hK K
      refine InC.next1 (i := 5) (by kernel_rfl) (InC.one rfl fun K hK => ?_)
      go_simp
      refine (toEvent_any _ _ _ _).mono ?_
      rintro e wv17 ⟨rfl, hv17⟩
      have Bv17 := below_on Bv16 hv17
      have rL := rL.on hv17
      have sS := sS.on hv17
      have zb := zb.on hv17
      refine hK _ _ Bv17 ?_
      clear hK K
      refine InC.next1 (i := 6) (by kernel_rfl) (InC.one rfl fun K hK => ?_)
      go_simp
      refine (cS _ _ _ _ _ rL sS).mono ?_
      rintro e wv18 ⟨u, rfl, ⟨b1, d1, b2, d2, rfl, st⟩, hv18⟩
      have Bv18 := below_on Bv17 hv18
      have st := st.wide (lo' := w2.heap.size) (hi' := wv18.heap.size) Bv17.size (Nat.le_refl _)
      have rL := rL.on hv18
      have sS := sS.on hv18
      have zb := zb.on hv18
      refine hK _ _ Bv18 ?_
      clear hK K
      have y0 := zb.cell (i := 0) (by omega)
      have f0 := zb.frozen 0
      have y1 := zb.cell (i := 1) (by omega)
      have f1 := zb.frozen 1
      have y2 := zb.cell (i := 2) (by omega)
      have f2 := zb.frozen 2
      have y3 := zb.cell (i := 3) (by omega)
      have f3 := zb.frozen 3
      obtain ⟨q1, q2, q3⟩ := done_set zb (.int .i64 C) (.bool ok') (.slice b1 ns' d1) (.slice b2 nd' d2)
      have By := Bv18.trans (q2.below (B := w2.heap.size) pz Bv18.size)
      have st := st.turned q2 (.inl ⟨by decide, by decide⟩)
      refine InC.next1 (i := 8) (by kernel_rfl) (InC.one rfl fun K hK => ?_)
      go_simp
      refine hK _ _ By ?_
      clear hK K
      refine InC.done (by kernel_rfl) ?_
      go_wp2_with fail
      go_meet
      case rel => exact ⟨_, b1, d1, b2, d2, _, rfl, q1, st, Nat.le_of_eq q3.symm, By⟩
  case rest =>
    obtain ⟨bb, b1, d1, b2, d2, top, rfl, x8, s8, ht8, hb8⟩ := hcut
    have B8 := below_on B2 hb8
    clear hA0 hb8
    obtain ⟨mL, mS, mD, i0, i1, j0, j1, j2, k0, k1, k2⟩ := hA _ B8
    go_wp2_with fail
    refine (toLayout_any _ _ _ _ F T _ hn' mL).mono ?_
    rintro e w9 ⟨g9, rfl, hg9, r9, hb9⟩
    have B9 := below_alloc (below_on B8 hb9) (.cells #[.int .i64 S, .slice (some ⟨g9, 0, none⟩) n n] 31)
    have x9 := (x8.on hb9).alloc (.cells #[.int .i64 S, .slice (some ⟨g9, 0, none⟩) n n] 31)
    have s9 := (s8.on hb9).alloc (.cells #[.int .i64 S, .slice (some ⟨g9, 0, none⟩) n n] 31)
    have r9' := r9.alloc (.cells #[.int .i64 S, .slice (some ⟨g9, 0, none⟩) n n] 31)
    have l9 : Blk (w9.alloc (.cells #[.int .i64 S, .slice (some ⟨g9, 0, none⟩) n n] 31)) w9.heap.size 31 2 (fun i => if i = 0 then .int .i64 S else .slice (some ⟨g9, 0, none⟩) n n) := Blk.new w9 #[.int .i64 S, .slice (some ⟨g9, 0, none⟩) n n] 31 _ (fun i hi => by simp at hi; match i, hi with | 0, _ => rfl | 1, _ => rfl)
    have z9 : top ≤ w9.heap.size := Nat.le_trans ht8 hb9.size
    have zA9 : A.heap.size ≤ g9 := by have := B8.size; omega
    have zA10 : A.heap.size ≤ w9.heap.size := Nat.le_trans B8.size hb9.size
    clear mL mS mD i0 i1 j0 j1 j2 k0 k1 k2 B8 x8 s8 r9 hb9
    obtain ⟨mL, mS, mD, i0, i1, j0, j1, j2, k0, k1, k2⟩ := hA _ B9
    go_wp2_with fail
    refine (toStateF _ _ _ _ _ _ _ X D _ hs' hd' mS mD).mono ?_
    rintro e w10 ⟨h1, h2, rfl, t10, hb10⟩
    have B10 := below_alloc (below_on B9 hb10) (.cells #[.bool ok, .slice (some ⟨h1, 0, none⟩) ns ns, .slice (some ⟨h2, 0, none⟩) nd nd] 44)
    have x10 := (x9.on hb10).alloc (.cells #[.bool ok, .slice (some ⟨h1, 0, none⟩) ns ns, .slice (some ⟨h2, 0, none⟩) nd nd] 44)
    have s10 := (s9.on hb10).alloc (.cells #[.bool ok, .slice (some ⟨h1, 0, none⟩) ns ns, .slice (some ⟨h2, 0, none⟩) nd nd] 44)
    have r10 := (r9'.on hb10).alloc (.cells #[.bool ok, .slice (some ⟨h1, 0, none⟩) ns ns, .slice (some ⟨h2, 0, none⟩) nd nd] 44)
    have l10 := (l9.on hb10).alloc (.cells #[.bool ok, .slice (some ⟨h1, 0, none⟩) ns ns, .slice (some ⟨h2, 0, none⟩) nd nd] 44)
    have t10' := t10.alloc (.cells #[.bool ok, .slice (some ⟨h1, 0, none⟩) ns ns, .slice (some ⟨h2, 0, none⟩) nd nd] 44)
    have y10 := Box3.lay w10 (.bool ok) (.slice (some ⟨h1, 0, none⟩) ns ns) (.slice (some ⟨h2, 0, none⟩) nd nd) 44
    have z10 : w9.heap.size + 1 ≤ w10.heap.size := by have := hb10.size; simpa using this
    rw [World.size_alloc] at t10'
    clear mL mS mD i0 i1 j0 j1 j2 k0 k1 k2 B9 x9 s9 r9' l9 t10 hb10
    go_upto_region 11 with fail
    obtain ⟨w11, e11⟩ : ∃ w11, w10.alloc (.cells #[.bool ok, .slice (some ⟨h1, 0, none⟩) ns ns, .slice (some ⟨h2, 0, none⟩) nd nd] 44) = w11 := ⟨_, rfl⟩
    rw [e11] at B10 x10 s10 r10 l10 t10' y10 ⊢
    have z11 : w10.heap.size < w11.heap.size := by rw [← e11]; simp
    clear e11
    have hX0 := fun W (hb : Below w11.heap.size w11 W) => (show _ ∧ _ ∧ _ ∧ _ ∧ _ ∧ _ ∧ _ ∧ _ from ⟨(l10.on hb).cell (i := 0) (by omega), (l10.on hb).cell (i := 1) (by omega), (y10.on hb).cells.1, (y10.on hb).cells.2.1, (y10.on hb).cells.2.2, (hA W (below_on B10 hb)).2.2.2.2.2.2.2.2.1, (hA W (below_on B10 hb)).2.2.2.2.2.2.2.2.2.1, (hA W (below_on B10 hb)).2.2.2.2.2.2.2.2.2.2⟩)
    simp only [Nat.one_ne_zero, if_false, if_true] at hX0
    go_cut [11] from 37 (fun q wc => ∃ bb b1 d1 b2 d2 top, q = .pointer (some ⟨bb, 0, none⟩) ∧ Box4 wc bb C ok' (.slice b1 ns' d1) (.slice b2 nd' d2) ∧ StF wc w11.heap.size top (.agg #[.bool ok', .slice b1 ns' d1, .slice b2 nd' d2]) ok' ns' nd' X' D' ∧ top ≤ wc.heap.size ∧ Below w11.heap.size w11 wc)
    case first =>
      have rB := r10
      have sB := t10'
      have rL := rB.drew
      have sS := sB.drew
      refine wp_region_any (by kernel_rfl) ?_
      refine InC.any (C := fun W => Below w11.heap.size w11 W) _ _ _ _ ?_
      have C0 : Below w11.heap.size w11 w11.drew := (Below.refl _ _).drew
      refine InC.take (i := 0) (v := .agg #[.int .i64 S, .slice (some ⟨g9, 0, none⟩) n n]) rfl (by kernel_rfl) (by kernel_rfl) (by kernel_rfl) (fun _ _ _ h => h) C0 (Or.inl ⟨by rfl, ?_⟩) ?_
      · intro W hW
        obtain ⟨o0, o1, p0, p1, p2, k0, k1, k2⟩ := hX0 W hW
        go_simp
      refine InC.take (i := 1) (v := .agg #[.bool ok, .slice (some ⟨h1, 0, none⟩) ns ns, .slice (some ⟨h2, 0, none⟩) nd nd]) rfl (by kernel_rfl) (by kernel_rfl) (by kernel_rfl) (fun _ _ _ h => h) C0 (Or.inl ⟨by rfl, ?_⟩) ?_
      · intro W hW
        obtain ⟨o0, o1, p0, p1, p2, k0, k1, k2⟩ := hX0 W hW
        go_simp
      refine InC.take (i := 2) (v := .agg #[.int .i64 op, .int .i64 f, .int .i64 d]) rfl (by kernel_rfl) (by kernel_rfl) (by kernel_rfl) (fun _ _ _ h => h) C0 (Or.inl ⟨by rfl, ?_⟩) ?_
      · intro W hW
        obtain ⟨o0, o1, p0, p1, p2, k0, k1, k2⟩ := hX0 W hW
        go_simp
      refine InC.next2 (i := 3) (j := 5) (by kernel_rfl) (InC.one rfl fun K hK => ?_) (InC.one rfl fun K hK => ?_)
      · go_simp
        refine (toEvent_any _ _ _ _).mono ?_
        rintro e wv1 ⟨rfl, hv1⟩
        have Bv1 := below_on C0 hv1
        have rL := rL.on hv1
        have sS := sS.on hv1
        refine hK _ _ Bv1 ?_
        clear hK K
        refine InC.next2 (i := 4) (j := 5) (by kernel_rfl) (InC.one rfl fun K hK => ?_) (InC.one rfl fun K hK => ?_)
        · go_simp
          refine (cI _ _ _ _ _ rL sS).mono ?_
          rintro e wv2 ⟨u, rfl, ⟨b1, d1, b2, d2, rfl, st⟩, hv2⟩
          have Bv2 := below_on Bv1 hv2
          have st := st.wide (lo' := w11.heap.size) (hi' := wv2.heap.size) Bv1.size (Nat.le_refl _)
          have rL := rL.on hv2
          have sS := sS.on hv2
          refine hK _ _ Bv2 ?_
          clear hK K
          refine InC.next1 (i := 5) (by kernel_rfl) (InC.one rfl fun K hK => ?_)
          go_simp
          refine hK _ _ (below_alloc Bv2 _) ?_
          clear hK K
          refine InC.next1 (i := 6) (by kernel_rfl) (InC.one rfl fun K hK => ?_)
          go_simp
          refine hK _ _ (below_alloc Bv2 _) ?_
          clear hK K
          refine InC.done (by kernel_rfl) ?_
          go_wp2_with fail
          go_meet
          case rel => exact ⟨wv2.heap.size, b1, d1, b2, d2, _, rfl, Box4.lay _ _ _ _ _, st.alloc _, by simp, below_alloc Bv2 _⟩
        · go_simp
          have Bv3 : Below w11.heap.size w11 (wv1.alloc (.cells #[.int .i64 0, .bool false, .slice none 0 0, .slice none 0 0] 46)) := below_alloc Bv1 _
          have zb : Blk (wv1.alloc (.cells #[.int .i64 0, .bool false, .slice none 0 0, .slice none 0 0] 46)) wv1.heap.size 46 4 (fun i => #[.int .i64 0, .bool false, .slice none 0 0, .slice none 0 0][i]!) := Blk.new wv1 #[.int .i64 0, .bool false, .slice none 0 0, .slice none 0 0] _ _ (fun i hi => by simp at hi; match i, hi with | 0, _ => rfl | 1, _ => rfl | 2, _ => rfl | 3, _ => rfl)
          have pz : w11.heap.size ≤ wv1.heap.size := Bv1.size
          have rL := rL.alloc (.cells #[.int .i64 0, .bool false, .slice none 0 0, .slice none 0 0] 46)
          have sS := sS.alloc (.cells #[.int .i64 0, .bool false, .slice none 0 0, .slice none 0 0] 46)
          refine hK _ _ Bv3 ?_
          clear hK K
          refine InC.next1 (i := 4) (by kernel_rfl) (InC.one rfl fun K hK => ?_)
          go_simp
          refine (cI _ _ _ _ _ rL sS).mono ?_
          rintro e wv4 ⟨u, rfl, ⟨b1, d1, b2, d2, rfl, st⟩, hv4⟩
          have Bv4 := below_on Bv3 hv4
          have st := st.wide (lo' := w11.heap.size) (hi' := wv4.heap.size) Bv3.size (Nat.le_refl _)
          have rL := rL.on hv4
          have sS := sS.on hv4
          have zb := zb.on hv4
          refine hK _ _ Bv4 ?_
          clear hK K
          have y0 := zb.cell (i := 0) (by omega)
          have f0 := zb.frozen 0
          have y1 := zb.cell (i := 1) (by omega)
          have f1 := zb.frozen 1
          have y2 := zb.cell (i := 2) (by omega)
          have f2 := zb.frozen 2
          have y3 := zb.cell (i := 3) (by omega)
          have f3 := zb.frozen 3
          obtain ⟨q1, q2, q3⟩ := done_set zb (.int .i64 C) (.bool ok') (.slice b1 ns' d1) (.slice b2 nd' d2)
          have By := Bv4.trans (q2.below (B := w11.heap.size) pz Bv4.size)
          have st := st.turned q2 (.inl ⟨by decide, by decide⟩)
          refine InC.next1 (i := 6) (by kernel_rfl) (InC.one rfl fun K hK => ?_)
          go_simp
          refine hK _ _ By ?_
          clear hK K
          refine InC.done (by kernel_rfl) ?_
          go_wp2_with fail
          go_meet
          case rel => exact ⟨_, b1, d1, b2, d2, _, rfl, q1, st, Nat.le_of_eq q3.symm, By⟩
      · go_simp
        have Bv5 : Below w11.heap.size w11 (w11.alloc (.cells #[.int .i64 0, .bool false, .slice none 0 0, .slice none 0 0] 46)).drew := (below_alloc (Below.refl _ _) _).drew
        have zb : Blk (w11.alloc (.cells #[.int .i64 0, .bool false, .slice none 0 0, .slice none 0 0] 46)).drew w11.heap.size 46 4 (fun i => #[.int .i64 0, .bool false, .slice none 0 0, .slice none 0 0][i]!) := Blk.new w11 #[.int .i64 0, .bool false, .slice none 0 0, .slice none 0 0] _ _ (fun i hi => by simp at hi; match i, hi with | 0, _ => rfl | 1, _ => rfl | 2, _ => rfl | 3, _ => rfl)
        have pz : w11.heap.size ≤ w11.heap.size := Nat.le_refl _
        have rL := (rB.alloc (.cells #[.int .i64 0, .bool false, .slice none 0 0, .slice none 0 0] 46)).drew
        have sS := (sB.alloc (.cells #[.int .i64 0, .bool false, .slice none 0 0, .slice none 0 0] 46)).drew
        refine hK _ _ Bv5 ?_
        clear hK K
        refine InC.next1 (i := 3) (by kernel_rfl) (InC.one rfl fun K hK => ?_)
        go_simp
        refine (toEvent_any _ _ _ _).mono ?_
        rintro e wv6 ⟨rfl, hv6⟩
        have Bv6 := below_on Bv5 hv6
        have rL := rL.on hv6
        have sS := sS.on hv6
        have zb := zb.on hv6
        refine hK _ _ Bv6 ?_
        clear hK K
        refine InC.next1 (i := 4) (by kernel_rfl) (InC.one rfl fun K hK => ?_)
        go_simp
        refine (cI _ _ _ _ _ rL sS).mono ?_
        rintro e wv7 ⟨u, rfl, ⟨b1, d1, b2, d2, rfl, st⟩, hv7⟩
        have Bv7 := below_on Bv6 hv7
        have st := st.wide (lo' := w11.heap.size) (hi' := wv7.heap.size) Bv6.size (Nat.le_refl _)
        have rL := rL.on hv7
        have sS := sS.on hv7
        have zb := zb.on hv7
        refine hK _ _ Bv7 ?_
        clear hK K
        have y0 := zb.cell (i := 0) (by omega)
        have f0 := zb.frozen 0
        have y1 := zb.cell (i := 1) (by omega)
        have f1 := zb.frozen 1
        have y2 := zb.cell (i := 2) (by omega)
        have f2 := zb.frozen 2
        have y3 := zb.cell (i := 3) (by omega)
        have f3 := zb.frozen 3
        obtain ⟨q1, q2, q3⟩ := done_set zb (.int .i64 C) (.bool ok') (.slice b1 ns' d1) (.slice b2 nd' d2)
        have By := Bv7.trans (q2.below (B := w11.heap.size) pz Bv7.size)
        have st := st.turned q2 (.inl ⟨by decide, by decide⟩)
        refine InC.next1 (i := 6) (by kernel_rfl) (InC.one rfl fun K hK => ?_)
        go_simp
        refine hK _ _ By ?_
        clear hK K
        refine InC.done (by kernel_rfl) ?_
        go_wp2_with fail
        go_meet
        case rel => exact ⟨_, b1, d1, b2, d2, _, rfl, q1, st, Nat.le_of_eq q3.symm, By⟩
    case rest =>
      obtain ⟨bg, e1, f1, e2, f2, top2, rfl, xg, sg, htg, hbg⟩ := hcut
      have hs2 : ns' ≤ 1048576 := by omega
      have hd2 : nd' ≤ 1048576 := by omega
      have B11 := below_on B10 hbg
      have x11 := x10.on hbg
      have s11 := s10.on hbg
      have r11 := r10.on hbg
      have l11 := l10.on hbg
      have t11 := t10'.on hbg
      have y11 := y10.on hbg
      clear B10 x10 s10 r10 l10 t10' y10 hbg hX0
      obtain ⟨o0, o1, o2, o3⟩ := x11.cells
      obtain ⟨p1, p2, p3, p4⟩ := xg.cells
      go_wp2_with fail
      refine (eqDone_same _ _ _ _ _ _ _ _ _ _ _ _ _ _ _ _ _ _ _ _ _ hs2 hd2 sg s11 (fun _ _ => rfl) (fun _ _ => rfl)).mono ?_
      rintro e w12 ⟨rfl, hb12⟩
      have B12 := below_on B11 hb12
      have x12 := x11.on hb12
      have s12 := s11.on hb12
      have r12 := r11.on hb12
      have l12 := l11.on hb12
      have t12 := t11.on hb12
      have y12 := y11.on hb12
      have xg := xg.on hb12
      have sg := sg.on hb12
      clear B11 x11 s11 r11 l11 t11 y11 hb12 o0 o1 o2 o3 p1 p2 p3 p4
      have hA0 := fun W (hb : Below w12.heap.size w12 W) => hA W (below_on B12 hb)
      go_upto_region 14 with fail
      go_cut [50] from 46 (fun q wc => q = .bool false ∧ Below w12.heap.size w12 wc)
      case first =>
        have Bc : Below w12.heap.size w12 w12.drew := (Below.refl _ _).drew
        obtain ⟨mL, mS, mD, i0, i1, j0, j1, j2, k0, k1, k2⟩ := hA0 _ Bc
        have lB := l12.on Bc
        have rL := r12.on Bc
        have q0 := lB.cell (i := 0) (by omega)
        have q1 := lB.cell (i := 1) (by omega)
        simp only [Nat.one_ne_zero, if_false, if_true] at q0 q1
        go_region_with (first
          | (go_at_call 11; refine (toLayout_any _ _ _ _ F T _ hn' mL).mono ?_; rintro e wL ⟨gL, rfl, hgL, rN, hbL⟩; have Bc := below_on Bc hbL; have lB := lB.on hbL; have q0 := lB.cell (i := 0) (by omega); have q1 := lB.cell (i := 1) (by omega); have rL := rL.on hbL)
          | (go_at_call 14; refine (eqLayout_same _ _ _ _ F T _ rL rN hn').mono ?_; rintro e w9' ⟨rfl, hb9⟩; have Bc := below_on Bc hb9))
        all_goals
          go_wp2_with fail
          go_meet
          case rel => exact ⟨rfl, Bc⟩
      case rest =>
        obtain ⟨rfl, hb14⟩ := hcut
        rename World => w14
        have B14 := below_on B12 hb14
        have x14 := x12.on hb14
        have s14 := s12.on hb14
        have r14 := r12.on hb14
        have l14 := l12.on hb14
        have t14 := t12.on hb14
        have y14 := y12.on hb14
        have xg := xg.on hb14
        have sg := sg.on hb14
        clear B12 x12 s12 r12 l12 t12 y12 hb14 hA0
        have hA0 := fun W (hb : Below w14.heap.size w14 W) => hA W (below_on B14 hb)
        go_upto_region 16 with fail
        go_cut [55] from 51 (fun q wc => q = .bool false ∧ Below w14.heap.size w14 wc)
        case first =>
          have Bc : Below w14.heap.size w14 w14.drew := (Below.refl _ _).drew
          obtain ⟨mL, mS, mD, i0, i1, j0, j1, j2, k0, k1, k2⟩ := hA0 _ Bc
          have yB := y14.on Bc
          have sS := t14.on Bc
          obtain ⟨q0, q1, q2⟩ := yB.cells
          go_region_with (first
            | (go_at_call 17; refine (toStateF _ _ _ _ _ _ _ X D _ hs' hd' mS mD).mono ?_; rintro e wS ⟨m1, m2, rfl, sN, hbS⟩; have Bc := below_on Bc hbS; have sS := sS.on hbS; have yB := yB.on hbS; obtain ⟨q0, q1, q2⟩ := yB.cells)
            | (go_at_call 20; refine (eqState_same _ _ _ _ _ _ _ _ _ _ _ _ _ _ hs' hd' sS sN (fun _ _ => rfl) (fun _ _ => rfl)).mono ?_; rintro e wX ⟨rfl, hbX⟩; have Bc := below_on Bc hbX))
          all_goals
            go_wp2_with fail
            go_meet
            case rel => exact ⟨rfl, Bc⟩
        case rest =>
          obtain ⟨rfl, hb16⟩ := hcut
          rename World => w16
          have B16 := below_on B14 hb16
          have x16 := x14.on hb16
          have s16 := s14.on hb16
          have r16 := r14.on hb16
          have l16 := l14.on hb16
          have t16 := t14.on hb16
          have y16 := y14.on hb16
          have xg := xg.on hb16
          have sg := sg.on hb16
          clear B14 x14 s14 r14 l14 t14 y14 hb16 hA0
          have q0 := l16.cell (i := 0) (by omega)
          have q1 := l16.cell (i := 1) (by omega)
          simp only [Nat.one_ne_zero, if_false, if_true] at q0 q1
          go_wp2_with fail
          refine (markLayout_any _ _ _ _ _ hn' r16).mono ?_
          rintro e w17 ⟨rfl, hg17⟩
          have T17 : Turned _ w17 (· = 88) g9 (g9 + 1) := Turned.of_grown hg17 (Nat.le_refl _) (by omega) rfl r16
          have B17 : Below A.heap.size A w17 := B16.trans (T17.below zA9 B16.size)
          have x17 := x16.turned T17 (by decide)
          have s17 := s16.turned T17 (.inl ⟨by decide, by decide⟩)
          have t17 := t16.turned T17 (.inl ⟨by decide, by decide⟩)
          have y17 := y16.turned T17 (.inl (by decide))
          have xg := xg.turned T17 (by decide)
          have sg := sg.turned T17 (.inl ⟨by decide, by decide⟩)
          clear B16 x16 s16 r16 l16 t16 y16 q0 q1 hg17 T17
          obtain ⟨q0, q1, q2⟩ := y17.cells
          go_wp2_with fail
          refine (markState_any _ _ _ _ _ _ _ _ _ _ hs' hd' (by omega) (by omega) t17).mono ?_
          rintro e w18 ⟨rfl, m18, T18⟩
          have B18 : Below A.heap.size A w18 := B17.trans (T18.below (by omega) B17.size)
          have x18 := x17.turned T18 (by unfold isSt; decide)
          have s18 := s17.turned T18 (.inr (.inr (by omega)))
          have xg := xg.turned T18 (by unfold isSt; decide)
          have sg := sg.turned T18 (.inr (.inl (by omega)))
          clear B17 x17 s17 t17 y17 q0 q1 q2 T18 m18
          obtain ⟨o0, o1, o2, o3⟩ := x18.cells
          obtain ⟨p1, p2, p3, p4⟩ := xg.cells
          have hk0 : ¬ (1 + 2 * (n : Int) + 5 * (ns : Int) + (nd : Int) < 0) := by omega
          go_wp2_with fail
          refine (eqDone_same _ _ _ _ _ _ _ _ _ _ _ _ _ _ _ _ _ _ _ _ _ hs2 hd2 sg s18 (fun _ _ => rfl) (fun _ _ => rfl)).mono ?_
          rintro e w21 ⟨rfl, hb21⟩
          have B21 := below_on B18 hb21
          have x21 := x18.on hb21
          have s21 := s18.on hb21
          have xg := xg.on hb21
          have sg := sg.on hb21
          clear B18 x18 s18 hb21 o0 o1 o2 o3 p1 p2 p3 p4
          obtain ⟨p1, p2, p3, p4⟩ := xg.cells
          go_wp2_with fail
          refine (markDone_any _ _ _ _ _ _ _ _ _ _ _ _ _ _ hs2 hd2 (by omega) (by omega) sg).mono ?_
          rintro e w24 ⟨rfl, mg, T24⟩
          have B24 : Below A.heap.size A w24 := B21.trans (T24.below (by omega) B21.size)
          have x24 := x21.turned T24 (by unfold isSt; decide)
          have s24 := s21.turned T24 (.inr (.inr (by omega)))
          have xg := xg.turned T24 (by unfold isSt; decide)
          clear B21 x21 s21 sg T24 p1 p2 p3 p4
          obtain ⟨p1, p2, p3, p4⟩ := xg.cells
          have hk1 : (0 : Int) ≤ 1 + 5 * (ns' : Int) + (nd' : Int) := by omega
          go_wp2_with fail
          refine (heldDone_any _ _ _ _ _ _ _ _ _ _ _ _ hs2 hd2 (by omega) (by omega) mg).mono ?_
          rintro e w26 ⟨rfl, hb26⟩
          have B26 := below_on B24 hb26
          have x26 := x24.on hb26
          have s26 := s24.on hb26
          have xg := xg.on hb26
          have mg : MkF w26 _ _ _ _ _ _ _ := StF.on mg hb26
          clear B24 x24 s24 hb26 p1 p2 p3 p4
          have hA0 := fun W (hb : Below w26.heap.size w26 W) => hA W (below_on B26 hb)
          go_upto_region 31 with fail
          go_cut [15] from 81 (fun q wc => ∃ bb b1 d1 b2 d2 top, q = .pointer (some ⟨bb, 0, none⟩) ∧ Box4 wc bb C ok' (.slice b1 ns' d1) (.slice b2 nd' d2) ∧ StF wc w26.heap.size top (.agg #[.bool ok', .slice b1 ns' d1, .slice b2 nd' d2]) ok' ns' nd' X' D' ∧ top ≤ wc.heap.size ∧ Below w26.heap.size w26 wc)
          case first =>
            refine wp_region_any (by kernel_rfl) ?_
            refine InC.any (C := fun W => Below w26.heap.size w26 W) _ _ _ _ ?_
            have C0 : Below w26.heap.size w26 w26.drew := (Below.refl _ _).drew
            refine InC.take (i := 0) (v := .agg #[.int .i64 S, .slice ao n cap]) rfl (by kernel_rfl) (by kernel_rfl) (by kernel_rfl) (fun _ _ _ h => h) C0 (Or.inl ⟨by rfl, ?_⟩) ?_
            · intro W hW
              obtain ⟨mL, mS, mD, i0, i1, j0, j1, j2, k0, k1, k2⟩ := hA0 W hW
              go_simp
            refine InC.take (i := 2) (v := .agg #[.bool ok, .slice a1 ns c1, .slice a2 nd c2]) rfl (by kernel_rfl) (by kernel_rfl) (by kernel_rfl) (fun _ _ _ h => h) C0 (Or.inl ⟨by rfl, ?_⟩) ?_
            · intro W hW
              obtain ⟨mL, mS, mD, i0, i1, j0, j1, j2, k0, k1, k2⟩ := hA0 W hW
              go_simp
            refine InC.take (i := 4) (v := .agg #[.int .i64 op, .int .i64 f, .int .i64 d]) rfl (by kernel_rfl) (by kernel_rfl) (by kernel_rfl) (fun _ _ _ h => h) C0 (Or.inl ⟨by rfl, ?_⟩) ?_
            · intro W hW
              obtain ⟨mL, mS, mD, i0, i1, j0, j1, j2, k0, k1, k2⟩ := hA0 W hW
              go_simp
            refine InC.next2 (i := 1) (j := 7) (by kernel_rfl) (InC.one rfl fun K hK => ?_) (InC.one rfl fun K hK => ?_)
            · go_simp
              refine (toLayout_any _ _ _ _ F T _ hn' (hA0 _ C0).1).mono ?_
              rintro e wv1 ⟨gL, rfl, hgL, rL, hv1⟩
              have Bv1 := below_on C0 hv1
              refine hK _ _ Bv1 ?_
              clear hK K
              refine InC.next2 (i := 3) (j := 7) (by kernel_rfl) (InC.one rfl fun K hK => ?_) (InC.one rfl fun K hK => ?_)
              · go_simp
                refine (toStateF _ _ _ _ _ _ _ X D _ hs' hd' (hA0 _ Bv1).2.1 (hA0 _ Bv1).2.2.1).mono ?_
                rintro e wv2 ⟨h1, h2, rfl, sS, hv2⟩
                have Bv2 := below_on Bv1 hv2
                have rL := rL.on hv2
                refine hK _ _ Bv2 ?_
                clear hK K
                refine InC.next2 (i := 5) (j := 7) (by kernel_rfl) (InC.one rfl fun K hK => ?_) (InC.one rfl fun K hK => ?_)
                · go_simp
                  refine (toEvent_any _ _ _ _).mono ?_
                  rintro e wv3 ⟨rfl, hv3⟩
                  have Bv3 := below_on Bv2 hv3
                  have rL := rL.on hv3
                  have sS := sS.on hv3
                  refine hK _ _ Bv3 ?_
                  clear hK K
                  refine InC.next2 (i := 6) (j := 7) (by kernel_rfl) (InC.one rfl fun K hK => ?_) (InC.one rfl fun K hK => ?_)
                  · go_simp
                    refine (cI _ _ _ _ _ rL sS).mono ?_
                    rintro e wv4 ⟨u, rfl, ⟨b1, d1, b2, d2, rfl, st⟩, hv4⟩
                    have Bv4 := below_on Bv3 hv4
                    have st := st.wide (lo' := w26.heap.size) (hi' := wv4.heap.size) Bv3.size (Nat.le_refl _)
                    have rL := rL.on hv4
                    have sS := sS.on hv4
                    refine hK _ _ Bv4 ?_
                    clear hK K
                    refine InC.next1 (i := 7) (by kernel_rfl) (InC.one rfl fun K hK => ?_)
                    go_simp
                    refine hK _ _ (below_alloc Bv4 _) ?_
                    clear hK K
                    refine InC.next1 (i := 8) (by kernel_rfl) (InC.one rfl fun K hK => ?_)
                    go_simp
                    refine hK _ _ (below_alloc Bv4 _) ?_
                    clear hK K
                    refine InC.done (by kernel_rfl) ?_
                    go_wp2_with fail
                    go_meet
                    case rel => exact ⟨wv4.heap.size, b1, d1, b2, d2, _, rfl, Box4.lay _ _ _ _ _, st.alloc _, by simp, below_alloc Bv4 _⟩
                  · go_simp
                    have Bv5 : Below w26.heap.size w26 (wv3.alloc (.cells #[.int .i64 0, .bool false, .slice none 0 0, .slice none 0 0] 46)) := below_alloc Bv3 _
                    have zb : Blk (wv3.alloc (.cells #[.int .i64 0, .bool false, .slice none 0 0, .slice none 0 0] 46)) wv3.heap.size 46 4 (fun i => #[.int .i64 0, .bool false, .slice none 0 0, .slice none 0 0][i]!) := Blk.new wv3 #[.int .i64 0, .bool false, .slice none 0 0, .slice none 0 0] _ _ (fun i hi => by simp at hi; match i, hi with | 0, _ => rfl | 1, _ => rfl | 2, _ => rfl | 3, _ => rfl)
                    have pz : w26.heap.size ≤ wv3.heap.size := Bv3.size
                    have rL := rL.alloc (.cells #[.int .i64 0, .bool false, .slice none 0 0, .slice none 0 0] 46)
                    have sS := sS.alloc (.cells #[.int .i64 0, .bool false, .slice none 0 0, .slice none 0 0] 46)
                    refine hK _ _ Bv5 ?_
                    clear hK K
                    refine InC.next1 (i := 6) (by kernel_rfl) (InC.one rfl fun K hK => ?_)
                    go_simp
                    refine (cI _ _ _ _ _ rL sS).mono ?_
                    rintro e wv6 ⟨u, rfl, ⟨b1, d1, b2, d2, rfl, st⟩, hv6⟩
                    have Bv6 := below_on Bv5 hv6
                    have st := st.wide (lo' := w26.heap.size) (hi' := wv6.heap.size) Bv5.size (Nat.le_refl _)
                    have rL := rL.on hv6
                    have sS := sS.on hv6
                    have zb := zb.on hv6
                    refine hK _ _ Bv6 ?_
                    clear hK K
                    have y0 := zb.cell (i := 0) (by omega)
                    have f0 := zb.frozen 0
                    have y1 := zb.cell (i := 1) (by omega)
                    have f1 := zb.frozen 1
                    have y2 := zb.cell (i := 2) (by omega)
                    have f2 := zb.frozen 2
                    have y3 := zb.cell (i := 3) (by omega)
                    have f3 := zb.frozen 3
                    obtain ⟨q1, q2, q3⟩ := done_set zb (.int .i64 C) (.bool ok') (.slice b1 ns' d1) (.slice b2 nd' d2)
                    have By := Bv6.trans (q2.below (B := w26.heap.size) pz Bv6.size)
                    have st := st.turned q2 (.inl ⟨by decide, by decide⟩)
                    refine InC.next1 (i := 8) (by kernel_rfl) (InC.one rfl fun K hK => ?_)
                    go_simp
                    refine hK _ _ By ?_
                    clear hK K
                    refine InC.done (by kernel_rfl) ?_
                    go_wp2_with fail
                    go_meet
                    case rel => exact ⟨_, b1, d1, b2, d2, _, rfl, q1, st, Nat.le_of_eq q3.symm, By⟩
                · go_simp
                  have Bv7 : Below w26.heap.size w26 (wv2.alloc (.cells #[.int .i64 0, .bool false, .slice none 0 0, .slice none 0 0] 46)) := below_alloc Bv2 _
                  have zb : Blk (wv2.alloc (.cells #[.int .i64 0, .bool false, .slice none 0 0, .slice none 0 0] 46)) wv2.heap.size 46 4 (fun i => #[.int .i64 0, .bool false, .slice none 0 0, .slice none 0 0][i]!) := Blk.new wv2 #[.int .i64 0, .bool false, .slice none 0 0, .slice none 0 0] _ _ (fun i hi => by simp at hi; match i, hi with | 0, _ => rfl | 1, _ => rfl | 2, _ => rfl | 3, _ => rfl)
                  have pz : w26.heap.size ≤ wv2.heap.size := Bv2.size
                  have rL := rL.alloc (.cells #[.int .i64 0, .bool false, .slice none 0 0, .slice none 0 0] 46)
                  have sS := sS.alloc (.cells #[.int .i64 0, .bool false, .slice none 0 0, .slice none 0 0] 46)
                  refine hK _ _ Bv7 ?_
                  clear hK K
                  refine InC.next1 (i := 5) (by kernel_rfl) (InC.one rfl fun K hK => ?_)
                  go_simp
                  refine (toEvent_any _ _ _ _).mono ?_
                  rintro e wv8 ⟨rfl, hv8⟩
                  have Bv8 := below_on Bv7 hv8
                  have rL := rL.on hv8
                  have sS := sS.on hv8
                  have zb := zb.on hv8
                  refine hK _ _ Bv8 ?_
                  clear hK K
                  refine InC.next1 (i := 6) (by kernel_rfl) (InC.one rfl fun K hK => ?_)
                  go_simp
                  refine (cI _ _ _ _ _ rL sS).mono ?_
                  rintro e wv9 ⟨u, rfl, ⟨b1, d1, b2, d2, rfl, st⟩, hv9⟩
                  have Bv9 := below_on Bv8 hv9
                  have st := st.wide (lo' := w26.heap.size) (hi' := wv9.heap.size) Bv8.size (Nat.le_refl _)
                  have rL := rL.on hv9
                  have sS := sS.on hv9
                  have zb := zb.on hv9
                  refine hK _ _ Bv9 ?_
                  clear hK K
                  have y0 := zb.cell (i := 0) (by omega)
                  have f0 := zb.frozen 0
                  have y1 := zb.cell (i := 1) (by omega)
                  have f1 := zb.frozen 1
                  have y2 := zb.cell (i := 2) (by omega)
                  have f2 := zb.frozen 2
                  have y3 := zb.cell (i := 3) (by omega)
                  have f3 := zb.frozen 3
                  obtain ⟨q1, q2, q3⟩ := done_set zb (.int .i64 C) (.bool ok') (.slice b1 ns' d1) (.slice b2 nd' d2)
                  have By := Bv9.trans (q2.below (B := w26.heap.size) pz Bv9.size)
                  have st := st.turned q2 (.inl ⟨by decide, by decide⟩)
                  refine InC.next1 (i := 8) (by kernel_rfl) (InC.one rfl fun K hK => ?_)
                  go_simp
                  refine hK _ _ By ?_
                  clear hK K
                  refine InC.done (by kernel_rfl) ?_
                  go_wp2_with fail
                  go_meet
                  case rel => exact ⟨_, b1, d1, b2, d2, _, rfl, q1, st, Nat.le_of_eq q3.symm, By⟩
              · go_simp
                have Bv10 : Below w26.heap.size w26 (wv1.alloc (.cells #[.int .i64 0, .bool false, .slice none 0 0, .slice none 0 0] 46)) := below_alloc Bv1 _
                have zb : Blk (wv1.alloc (.cells #[.int .i64 0, .bool false, .slice none 0 0, .slice none 0 0] 46)) wv1.heap.size 46 4 (fun i => #[.int .i64 0, .bool false, .slice none 0 0, .slice none 0 0][i]!) := Blk.new wv1 #[.int .i64 0, .bool false, .slice none 0 0, .slice none 0 0] _ _ (fun i hi => by simp at hi; match i, hi with | 0, _ => rfl | 1, _ => rfl | 2, _ => rfl | 3, _ => rfl)
                have pz : w26.heap.size ≤ wv1.heap.size := Bv1.size
                have rL := rL.alloc (.cells #[.int .i64 0, .bool false, .slice none 0 0, .slice none 0 0] 46)
                refine hK _ _ Bv10 ?_
                clear hK K
                refine InC.next1 (i := 3) (by kernel_rfl) (InC.one rfl fun K hK => ?_)
                go_simp
                refine (toStateF _ _ _ _ _ _ _ X D _ hs' hd' (hA0 _ Bv10).2.1 (hA0 _ Bv10).2.2.1).mono ?_
                rintro e wv11 ⟨h1, h2, rfl, sS, hv11⟩
                have Bv11 := below_on Bv10 hv11
                have rL := rL.on hv11
                have zb := zb.on hv11
                refine hK _ _ Bv11 ?_
                clear hK K
                refine InC.next1 (i := 5) (by kernel_rfl) (InC.one rfl fun K hK => ?_)
                go_simp
                refine (toEvent_any _ _ _ _).mono ?_
                rintro e wv12 ⟨rfl, hv12⟩
                have Bv12 := below_on Bv11 hv12
                have rL := rL.on hv12
                have sS := sS.on hv12
                have zb := zb.on hv12
                refine hK _ _ Bv12 ?_
                clear hK K
                refine InC.next1 (i := 6) (by kernel_rfl) (InC.one rfl fun K hK => ?_)
                go_simp
                refine (cI _ _ _ _ _ rL sS).mono ?_
                rintro e wv13 ⟨u, rfl, ⟨b1, d1, b2, d2, rfl, st⟩, hv13⟩
                have Bv13 := below_on Bv12 hv13
                have st := st.wide (lo' := w26.heap.size) (hi' := wv13.heap.size) Bv12.size (Nat.le_refl _)
                have rL := rL.on hv13
                have sS := sS.on hv13
                have zb := zb.on hv13
                refine hK _ _ Bv13 ?_
                clear hK K
                have y0 := zb.cell (i := 0) (by omega)
                have f0 := zb.frozen 0
                have y1 := zb.cell (i := 1) (by omega)
                have f1 := zb.frozen 1
                have y2 := zb.cell (i := 2) (by omega)
                have f2 := zb.frozen 2
                have y3 := zb.cell (i := 3) (by omega)
                have f3 := zb.frozen 3
                obtain ⟨q1, q2, q3⟩ := done_set zb (.int .i64 C) (.bool ok') (.slice b1 ns' d1) (.slice b2 nd' d2)
                have By := Bv13.trans (q2.below (B := w26.heap.size) pz Bv13.size)
                have st := st.turned q2 (.inl ⟨by decide, by decide⟩)
                refine InC.next1 (i := 8) (by kernel_rfl) (InC.one rfl fun K hK => ?_)
                go_simp
                refine hK _ _ By ?_
                clear hK K
                refine InC.done (by kernel_rfl) ?_
                go_wp2_with fail
                go_meet
                case rel => exact ⟨_, b1, d1, b2, d2, _, rfl, q1, st, Nat.le_of_eq q3.symm, By⟩
            · go_simp
              have Bv14 : Below w26.heap.size w26 (w26.alloc (.cells #[.int .i64 0, .bool false, .slice none 0 0, .slice none 0 0] 46)).drew := (below_alloc (Below.refl _ _) _).drew
              have zb : Blk (w26.alloc (.cells #[.int .i64 0, .bool false, .slice none 0 0, .slice none 0 0] 46)).drew w26.heap.size 46 4 (fun i => #[.int .i64 0, .bool false, .slice none 0 0, .slice none 0 0][i]!) := Blk.new w26 #[.int .i64 0, .bool false, .slice none 0 0, .slice none 0 0] _ _ (fun i hi => by simp at hi; match i, hi with | 0, _ => rfl | 1, _ => rfl | 2, _ => rfl | 3, _ => rfl)
              have pz : w26.heap.size ≤ w26.heap.size := Nat.le_refl _
              refine hK _ _ Bv14 ?_
              clear hK K
              refine InC.next1 (i := 1) (by kernel_rfl) (InC.one rfl fun K hK => ?_)
              go_simp
              refine (toLayout_any _ _ _ _ F T _ hn' (hA0 _ Bv14).1).mono ?_
              rintro e wv15 ⟨gL, rfl, hgL, rL, hv15⟩
              have Bv15 := below_on Bv14 hv15
              have zb := zb.on hv15
              refine hK _ _ Bv15 ?_
              clear hK K
              refine InC.next1 (i := 3) (by kernel_rfl) (InC.one rfl fun K hK => ?_)
              go_simp
              refine (toStateF _ _ _ _ _ _ _ X D _ hs' hd' (hA0 _ Bv15).2.1 (hA0 _ Bv15).2.2.1).mono ?_
              rintro e wv16 ⟨h1, h2, rfl, sS, hv16⟩
              have Bv16 := below_on Bv15 hv16
              have rL := rL.on hv16
              have zb := zb.on hv16
              refine hK _ _ Bv16 ?_
              clear hK K
              refine InC.next1 (i := 5) (by kernel_rfl) (InC.one rfl fun K hK => ?_)
              go_simp
              refine (toEvent_any _ _ _ _).mono ?_
              rintro e wv17 ⟨rfl, hv17⟩
              have Bv17 := below_on Bv16 hv17
              have rL := rL.on hv17
              have sS := sS.on hv17
              have zb := zb.on hv17
              refine hK _ _ Bv17 ?_
              clear hK K
              refine InC.next1 (i := 6) (by kernel_rfl) (InC.one rfl fun K hK => ?_)
              go_simp
              refine (cI _ _ _ _ _ rL sS).mono ?_
              rintro e wv18 ⟨u, rfl, ⟨b1, d1, b2, d2, rfl, st⟩, hv18⟩
              have Bv18 := below_on Bv17 hv18
              have st := st.wide (lo' := w26.heap.size) (hi' := wv18.heap.size) Bv17.size (Nat.le_refl _)
              have rL := rL.on hv18
              have sS := sS.on hv18
              have zb := zb.on hv18
              refine hK _ _ Bv18 ?_
              clear hK K
              have y0 := zb.cell (i := 0) (by omega)
              have f0 := zb.frozen 0
              have y1 := zb.cell (i := 1) (by omega)
              have f1 := zb.frozen 1
              have y2 := zb.cell (i := 2) (by omega)
              have f2 := zb.frozen 2
              have y3 := zb.cell (i := 3) (by omega)
              have f3 := zb.frozen 3
              obtain ⟨q1, q2, q3⟩ := done_set zb (.int .i64 C) (.bool ok') (.slice b1 ns' d1) (.slice b2 nd' d2)
              have By := Bv18.trans (q2.below (B := w26.heap.size) pz Bv18.size)
              have st := st.turned q2 (.inl ⟨by decide, by decide⟩)
              refine InC.next1 (i := 8) (by kernel_rfl) (InC.one rfl fun K hK => ?_)
              go_simp
              refine hK _ _ By ?_
              clear hK K
              refine InC.done (by kernel_rfl) ?_
              go_wp2_with fail
              go_meet
              case rel => exact ⟨_, b1, d1, b2, d2, _, rfl, q1, st, Nat.le_of_eq q3.symm, By⟩
          case rest =>
            obtain ⟨bh, g1, k1, g2, k2, top3, rfl, xh, sh, hth, hbh⟩ := hcut
            have B31 := below_on B26 hbh
            have x31 := x26.on hbh
            have s31 := s26.on hbh
            have xg := xg.on hbh
            have mg : MkF _ _ _ _ _ _ _ _ := StF.on mg hbh
            clear B26 x26 s26 hbh hA0
            obtain ⟨o0, o1, o2, o3⟩ := x31.cells
            obtain ⟨p1, p2, p3, p4⟩ := xh.cells
            go_wp2_with fail
            refine (eqDone_same _ _ _ _ _ _ _ _ _ _ _ _ _ _ _ _ _ _ _ _ _ hs2 hd2 sh s31 (fun _ _ => rfl) (fun _ _ => rfl)).mono ?_
            rintro e w32 ⟨rfl, hb32⟩
            have B32 := below_on B31 hb32
            have xg := xg.on hb32
            have mg : MkF w32 _ _ _ _ _ _ _ := StF.on mg hb32
            clear B31 x31 s31 xh sh hb32 o0 o1 o2 o3 p1 p2 p3 p4
            obtain ⟨p1, p2, p3, p4⟩ := xg.cells
            go_wp2_with fail
            refine (heldDone_any _ _ _ _ _ _ _ _ _ _ _ _ hs2 hd2 (by omega) (by omega) mg).mono ?_
            rintro e w35 ⟨rfl, hb35⟩
            have B35 := below_on b0 (below_on B32 hb35)
            clear B32 hb35 mg
            go_wp2
            go_ret
            exact ⟨rfl, B35⟩

end Go.Proofs.Ytlpopfhaephfaab
