import Derived.Test.YtlpopfhaephfaabDoorTS7
import Derived.Test.YtlpopfhaephfaabDoorTV1
namespace Go.Proofs.YtlpopfhaephfaabDoor
open Go.RowKit

theorem drop_line {t : List UInt8} {a i : Nat} {c : UInt8} (h : a ≤ i) (hc : t[i]? = some c) : t.drop a = (t.drop a).take (i - a) ++ c :: t.drop (i + 1) := by
  have hi : i < t.length := (List.getElem?_eq_some_iff.1 hc).1
  have e1 : (t.drop a).drop (i - a) = c :: t.drop (i + 1) := by
    rw [List.drop_drop, show a + (i - a) = i by omega, List.drop_eq_getElem_cons hi]
    congr 1
    rw [List.getElem?_eq_getElem hi] at hc
    exact Option.some.inj hc
  rw [← e1, List.take_append_drop]

theorem take_snoc {t : List UInt8} {a i : Nat} {c : UInt8} (h : a ≤ i) (hc : t[i]? = some c) : (t.drop a).take (i + 1 - a) = (t.drop a).take (i - a) ++ [c] := by
  rw [show i + 1 - a = (i - a) + 1 by omega, List.take_add_one]
  congr 1
  rw [List.getElem?_drop, show a + (i - a) = i by omega, hc]
  rfl

set_option maxRecDepth 100000 in
set_option maxHeartbeats 4000000 in
theorem specRead_any (S : Int) (g n : Nat) (F T : Nat → Int) (t : List UInt8) (w : World) (hrow : Row w g 81 2 n (two F T)) (hlen : t.length ≤ 1048576) :
    Calls Tryd.prog 16 #[.agg #[.int .i64 S, .slice (some ⟨g, 0, none⟩) n n], .string ⟨t.toArray⟩] w fun e w' => ScP w w' (rdZ S n F T t) e := by
  obtain ⟨R, hR⟩ : ∃ R, rdZ S n F T t = R := ⟨_, rfl⟩
  rw [hR]
  have HR : Hid _ := hR
  clear hR
  obtain ⟨W0, eW⟩ : ∃ W0, (w.alloc (.cells #[.int .i64 S, .slice (some ⟨g, 0, none⟩) n n] 31)).alloc (.cells #[.int .i64 0, .int .i64 0, .slice none 0 0] 40) = W0 := ⟨_, rfl⟩
  have bW : Below w.heap.size w W0 := by rw [← eW]; exact (by repeat (first | exact Below.refl _ _ | assumption | refine below_alloc ?_ _ | refine Below.setCell ?_ (by first | omega | (simp; done) | (simp; omega)) _ | refine Below.alloc ?_ (by first | omega | (simp; done) | (simp; omega)) _ | refine Below.drew ?_))
  have hP : ∀ W, Below W0.heap.size W0 W → (W.cell? ⟨w.heap.size, 0, none⟩ = some (.int .i64 S) ∧ W.cell? ⟨w.heap.size, 1, none⟩ = some (.slice (some ⟨g, 0, none⟩) n n)) ∧ Row W g 81 2 n (two F T) := by
    have c0 : W0.cell? ⟨w.heap.size, 0, none⟩ = some (.int .i64 S) := by rw [← eW]; simp
    have c1 : W0.cell? ⟨w.heap.size, 1, none⟩ = some (.slice (some ⟨g, 0, none⟩) n n) := by rw [← eW]; simp
    exact fun W hb => ⟨⟨by rw [hb.cell (block_lt_of_cell c0)]; exact c0, by rw [hb.cell (block_lt_of_cell c1)]; exact c1⟩, hrow.on (below_on bW hb)⟩
  obtain ⟨r, er⟩ : ∃ r, w.heap.size + 1 = r := ⟨_, rfl⟩
  have hW : Box3 W0 r 40 (.int .i64 0) (.int .i64 0) (.slice none 0 0) := by
    rw [← eW, ← er]
    have := Box3.lay (w.alloc (.cells #[.int .i64 S, .slice (some ⟨g, 0, none⟩) n n] 31)) (.int .i64 0) (.int .i64 0) (.slice none 0 0) 40
    rwa [World.size_alloc] at this
  have hwr : Hid (w.heap.size ≤ r ∧ r < W0.heap.size) := ⟨by rw [← er]; exact Nat.le_succ _, Blk.lt hW⟩
  have kl := specLayoutOk_any S g n F T W0 (hrow.on bW)
  have EW : Hid _ := eW
  have ER : Hid _ := er
  have HP : Hid _ := hP
  clear eW er hP hrow
  by_cases hl : lokZ S n F T = 0
  · obtain ⟨r1, r2, r3⟩ := lok_range hl
    rw [hl] at kl
    go_enter Tryd.func16, Tryd.ntmps16
    go_upto_region 1 with fail
    rw [EW.out, ER.out]
    obtain ⟨⟨x0, x1⟩, _⟩ := HP.out W0 (Below.refl _ _)
    go_wp2_with fail
    refine kl.mono ?_
    clear kl
    rintro e w1 ⟨rfl, b1⟩
    have hx := hW.on b1
    have bw := below_on bW b1
    by_cases hlong : 20000 < t.length
    · have hi : (20000 : Int) < (t.length : Int) := by omega
      obtain rfl := (rdZ_long hl hlong).symm.trans HR.out
      obtain ⟨y0, y1, y2⟩ := hx.cells
      have z0 := Blk.frozen hx 0
      have z1 := Blk.frozen hx 1
      have z2 := Blk.frozen hx 2
      have FIN : Hid _ := read_end (V := w1) (a := 2) (b := 0) (sl := .slice none 0 0) (l := []) hx bw hwr.out.1 ⟨none, 0, rfl, .inl rfl⟩ rfl
      have hx2 := hx.put (.int .i64 2) (.int .i64 0) (.slice none 0 0)
      obtain ⟨m0, m1, m2⟩ := hx2.cells
      clear hW b1 bW bw hx hx2
      go_wp2
      exact bodyPost_ret (v := .agg #[.int .i64 2, .int .i64 0, .slice none 0 0]) (by simp [results, Tryd.results16, go_sem, m0, m1, m2]) rfl FIN.out
    · have hi : ¬ (20000 : Int) < (t.length : Int) := by omega
      obtain ⟨Z, eZ⟩ : ∃ Z, rdL S n (t.length + 1) t [] = Z := ⟨_, rfl⟩
      have hR3 := (rdZ_scan (t := t) hl (by omega)).symm.trans HR.out
      rw [eZ] at hR3
      have rd0 : Hid (RdTo S n t [] Z) := ⟨t.length + 1, Nat.lt_succ_self _, eZ⟩
      subst hR3
      obtain ⟨i0, hi0, hz0, hz1, hz2⟩ := info_parts Tryd.infoEv
      have HX : Hid (Below W0.heap.size W0 w1) := b1
      clear HR eZ hW bW b1 x0 x1
      go_wp2
      go_loopw [5, 6, 7, 8] (fun q5 q6 q7 q8 wr => ∃ (a i : Nat) (acc : List (Int × Int × Int)), q6 = .int .i64 (a : Int) ∧ q7 = .int .i64 (acc.length : Int) ∧ q8 = .int .i64 (i : Int) ∧ a ≤ i ∧ i ≤ t.length ∧ wr.ownsRow w1.heap.size 51 3 q5 acc.length (evC acc) ∧ Box3 wr r 40 (.int .i64 0) (.int .i64 0) (.slice none 0 0) ∧ Below w1.heap.size w1 wr ∧ Hid (RdTo S n (t.drop a) acc Z ∧ 10 ∉ (t.drop a).take (i - a) ∧ acc.length ≤ 2000)) (fun _ _ _ q8 _ => t.length - (intOf q8).toNat)
      case atStart => exact ⟨0, 0, [], rfl, rfl, rfl, Nat.le_refl _, Nat.zero_le _, World.ownsRow_nil _ _ _ _, hx, Below.refl _ _, ⟨by simpa using rd0.out, by simp, by simp⟩⟩
      case round =>
        clear hx rd0
        obtain ⟨a, i, acc, rfl, rfl, rfl, hai, hil, ow, hx, Bw, hH⟩ := hrel
        have hac : acc.length ≤ 2000 := hH.out.2.2
        by_cases hlt : i < t.length
        · have hi1 : (i : Int) < (t.length : Int) := by omega
          obtain ⟨c, hc⟩ : ∃ c, t[i]? = some c := ⟨t[i], List.getElem?_eq_getElem hlt⟩
          have hsz : i < (⟨t.toArray⟩ : ByteArray).size := by rw [str_size]; exact hlt
          have hg : (⟨t.toArray⟩ : ByteArray)[i]'hsz = c := by
            have h2 : t[i] = c := by rw [List.getElem?_eq_getElem hlt] at hc; exact Option.some.inj hc
            exact h2
          obtain ⟨y0, y1, y2⟩ := hx.cells
          by_cases hc10 : c = 10
          · subst hc10
            obtain ⟨hRd, hno, _⟩ := hH.out
            obtain ⟨p, hp⟩ : ∃ p, (t.drop a).take (i - a) = p := ⟨_, rfl⟩
            have hdl := drop_line hai hc
            rw [hp] at hno hdl
            rw [hdl] at hRd
            have hsl : (⟨t.toArray⟩ : ByteArray).extract a i = ⟨p.toArray⟩ := by
              rw [← hp]
              refine WideShapes.bytes_inj ?_
              rw [Lib.extract_data]
            have hq : (((10 : UInt8).toNat : Int) != 10) = false := by decide
            have hai1 : (a : Int) ≤ (i : Int) := by omega
            have hQ : ∀ W, Below wr.heap.size wr W → W.cell? ⟨w.heap.size, 0, none⟩ = some (.int .i64 S) ∧ W.cell? ⟨w.heap.size, 1, none⟩ = some (.slice (some ⟨g, 0, none⟩) n n) := fun W hb => (HP.out W (below_on HX.out (below_on Bw hb))).1
            have HQ : Hid _ := hQ
            have ke := fun W (hb : Below wr.heap.size wr W) => l4event_any S g n F T p W (HP.out W (below_on HX.out (below_on Bw hb))).2 hl
            obtain ⟨M, hM⟩ : ∃ M, parB S n p = M := ⟨_, rfl⟩
            rw [hM] at ke
            obtain ⟨E0, E1, E2, ok, hlv, hME⟩ : ∃ (E0 E1 E2 : Int) (ok : Bool), leV M = .tuple #[.agg #[.int .i64 E0, .int .i64 E1, .int .i64 E2], .bool ok] ∧ ((ok = true ∧ M = some (E0, E1, E2)) ∨ (ok = false ∧ M = none)) := by
              cases M with
              | none => exact ⟨0, 0, 0, false, rfl, .inr ⟨rfl, rfl⟩⟩
              | some e => obtain ⟨x, y, z⟩ := e; exact ⟨x, y, z, true, rfl, .inl ⟨rfl, rfl⟩⟩
            rw [hlv] at ke
            have KE : Hid _ := ke
            clear hQ hp hc
            go_upto_region 13 with fail
            go_cut [9, 10] from 31 to 54 (fun v9 v10 wc => ∃ qe, v9 = .pointer (some ⟨qe, 0, none⟩) ∧ v10 = .bool ok ∧ wr.heap.size ≤ qe ∧ Box3 wc qe 51 (.int .i64 E0) (.int .i64 E1) (.int .i64 E2) ∧ Below wr.heap.size wr wc)
            case first =>
              have ke := KE.out
              refine wp_region_any (by kernel_rfl) ?_
              refine InC.any (C := fun W => Below wr.heap.size wr W) _ _ _ _ ?_
              have C0 : Below wr.heap.size wr wr.drew := (Below.refl _ _).drew
              refine InC.take (i := 0) (v := .agg #[.int .i64 S, .slice (some ⟨g, 0, none⟩) n n]) rfl (by kernel_rfl) (by kernel_rfl) (by kernel_rfl) (fun _ _ _ h => h) C0 (Or.inl ⟨by rfl, ?_⟩) ?_
              · intro W hW
                obtain ⟨x0, x1⟩ := HQ.out W hW
                go_simp
              refine InC.take (i := 1) (v := .string ⟨t.toArray⟩) rfl (by kernel_rfl) (by kernel_rfl) (by kernel_rfl) (fun _ _ _ h => h) C0 (Or.inl ⟨by rfl, ?_⟩) ?_
              · intro W hW
                go_simp
              refine InC.take (i := 2) (v := .int .i64 (a : Int)) rfl (by kernel_rfl) (by kernel_rfl) (by kernel_rfl) (fun _ _ _ h => h) C0 (Or.inl ⟨by rfl, ?_⟩) ?_
              · intro W hW
                go_simp
              refine InC.take (i := 3) (v := .int .i64 (i : Int)) rfl (by kernel_rfl) (by kernel_rfl) (by kernel_rfl) (fun _ _ _ h => h) C0 (Or.inl ⟨by rfl, ?_⟩) ?_
              · intro W hW
                go_simp
              refine InC.take (i := 4) (v := .string ⟨p.toArray⟩) rfl (by kernel_rfl) (by kernel_rfl) (by kernel_rfl) (fun _ _ _ h => h) C0 (Or.inl ⟨by rfl, ?_⟩) ?_
              · intro W hW
                go_simp
              have CA : Below wr.heap.size wr (wr.alloc (.cells #[.int .i64 0, .int .i64 0, .int .i64 0] 51)).drew := (below_alloc (Below.refl _ _) _).drew
              have qA : Box3 (wr.alloc (.cells #[.int .i64 0, .int .i64 0, .int .i64 0] 51)).drew wr.heap.size 51 (.int .i64 0) (.int .i64 0) (.int .i64 0) := Box3.lay _ _ _ _ _
              refine InC.next2 (i := 5) (j := 9) (by kernel_rfl) (InC.one rfl fun K hK => ?_) (InC.one rfl fun K hK => ?_)
              · go_simp
                refine (ke _ C0).mono ?_
                rintro e w6 ⟨rfl, b6⟩
                have CB := below_on C0 b6
                refine hK _ _ CB ?_
                clear hK K
                refine InC.take (i := 6) (v := .tuple #[.agg #[.int .i64 E0, .int .i64 E1, .int .i64 E2], .bool ok]) rfl (by kernel_rfl) (by kernel_rfl) (by kernel_rfl) (fun _ _ _ h => h) CB (Or.inl ⟨by rfl, ?_⟩) ?_
                · intro W hW
                  go_simp
                refine InC.take (i := 7) (v := .agg #[.int .i64 E0, .int .i64 E1, .int .i64 E2]) rfl (by kernel_rfl) (by kernel_rfl) (by kernel_rfl) (fun _ _ _ h => h) CB (Or.inl ⟨by rfl, ?_⟩) ?_
                · intro W hW
                  go_simp
                refine InC.take (i := 8) (v := .bool ok) rfl (by kernel_rfl) (by kernel_rfl) (by kernel_rfl) (fun _ _ _ h => h) CB (Or.inl ⟨by rfl, ?_⟩) ?_
                · intro W hW
                  go_simp
                refine InC.next1 (i := 9) (by kernel_rfl) (InC.one rfl fun K hK => ?_)
                go_simp
                refine hK _ _ (below_alloc CB _) ?_
                clear hK K
                refine InC.next1 (i := 10) (by kernel_rfl) (InC.one rfl fun K hK => ?_)
                go_simp
                refine hK _ _ (below_alloc CB _) ?_
                clear hK K
                refine InC.next1 (i := 11) (by kernel_rfl) (InC.one rfl fun K hK => ?_)
                go_simp
                refine hK _ _ (below_alloc CB _) ?_
                clear hK K
                refine InC.done (by kernel_rfl) ?_
                go_wp2_with fail
                go_meet
                case rel => exact ⟨_, rfl, rfl, CB.size, Box3.lay _ _ _ _ _, below_alloc CB _⟩
              · skip
                go_simp
                refine hK _ _ CA ?_
                clear hK K
                refine InC.next1 (i := 5) (by kernel_rfl) (InC.one rfl fun K hK => ?_)
                go_simp
                refine (ke _ CA).mono ?_
                rintro e w6 ⟨rfl, b6⟩
                have CB := below_on CA b6
                have q6 := qA.on b6
                obtain ⟨e0, e1, e2⟩ := q6.cells
                have f0 := Blk.frozen q6 0
                have f1 := Blk.frozen q6 1
                have f2 := Blk.frozen q6 2
                refine hK _ _ CB ?_
                clear hK K
                refine InC.take (i := 6) (v := .tuple #[.agg #[.int .i64 E0, .int .i64 E1, .int .i64 E2], .bool ok]) rfl (by kernel_rfl) (by kernel_rfl) (by kernel_rfl) (fun _ _ _ h => h) CB (Or.inl ⟨by rfl, ?_⟩) ?_
                · intro W hW
                  go_simp
                refine InC.take (i := 7) (v := .agg #[.int .i64 E0, .int .i64 E1, .int .i64 E2]) rfl (by kernel_rfl) (by kernel_rfl) (by kernel_rfl) (fun _ _ _ h => h) CB (Or.inl ⟨by rfl, ?_⟩) ?_
                · intro W hW
                  go_simp
                refine InC.take (i := 8) (v := .bool ok) rfl (by kernel_rfl) (by kernel_rfl) (by kernel_rfl) (fun _ _ _ h => h) CB (Or.inl ⟨by rfl, ?_⟩) ?_
                · intro W hW
                  go_simp
                refine InC.next1 (i := 10) (by kernel_rfl) (InC.one rfl fun K hK => ?_)
                go_simp
                have CE : Below wr.heap.size wr (((w6.setCell ⟨wr.heap.size, 0, none⟩ (.int .i64 E0)).setCell ⟨wr.heap.size, 1, none⟩ (.int .i64 E1)).setCell ⟨wr.heap.size, 2, none⟩ (.int .i64 E2)) := ((CB.setCell (Nat.le_refl _) _).setCell (Nat.le_refl _) _).setCell (Nat.le_refl _) _
                refine hK _ _ CE ?_
                clear hK K
                refine InC.next1 (i := 11) (by kernel_rfl) (InC.one rfl fun K hK => ?_)
                go_simp
                refine hK _ _ CE ?_
                clear hK K
                refine InC.done (by kernel_rfl) ?_
                go_wp2_with fail
                go_meet
                case rel => exact ⟨_, rfl, rfl, Nat.le_refl _, q6.put _ _ _, CE⟩
            case rest =>
              obtain ⟨qe, rfl, rfl, hqe, bq, bwc⟩ := hcut
              rename World => wc
              have hx2 := hx.on bwc
              have ow2 := own_on ow bwc
              have B2 := below_on Bw bwc
              have bF := below_on bw B2
              obtain ⟨y0, y1, y2⟩ := hx2.cells
              have z0 := Blk.frozen hx2 0
              have z1 := Blk.frozen hx2 1
              have z2 := Blk.frozen hx2 2
              obtain ⟨e0, e1, e2⟩ := bq.cells
              obtain ⟨ao, cap, esl⟩ : ∃ ao cap, u5 = .slice ao acc.length cap := by
                rcases ow.2 with ⟨hv, h0⟩ | ⟨g, cap, cur, hv, _⟩
                · exact ⟨_, _, by rw [h0]; exact hv⟩
                · exact ⟨_, _, hv⟩
              subst esl
              by_cases hbad : ok = false ∨ acc.length = 2000
              · have hZ : Z = .inl (acc.length + 1) := by
                  rcases hME with ⟨h1, h2⟩ | ⟨h1, h2⟩
                  · rcases hbad with h3 | h3
                    · rw [h1] at h3; cases h3
                    · exact hRd.many (by simp) (by omega)
                  · exact hRd.bad hno (hM.trans h2)
                subst hZ
                have FIN : Hid (ScP _ _ _ _) := read_end (V := wc) (a := 3) (b := acc.length + 1) (sl := .slice none 0 0) (l := []) hx2 bF hwr.out.1 ⟨none, 0, rfl, .inl rfl⟩ rfl
                have hx3 := hx2.put (.int .i64 3) (.int .i64 ((acc.length + 1 : Nat) : Int)) (.slice none 0 0)
                obtain ⟨m0, m1, m2⟩ := hx3.cells
                have ec : ((acc.length + 1 : Nat) : Int) = (acc.length : Int) + 1 := by simp
                rw [ec] at m0 m1 m2
                have F2 := FIN.out
                rw [ec] at F2
                have F3 : Hid (ScP _ _ _ _) := F2
                rcases (show ok = false ∨ (ok = true ∧ (acc.length : Int) = 2000) by cases ok <;> simp at hbad ⊢ <;> omega) with rfl | ⟨rfl, h2000⟩
                · clear FIN F2 hx hx2 hx3 ow ow2 Bw B2 bF bwc bq hRd hME KE HQ hbad
                  go_wp2
                  exact bodyPost_ret (v := .agg #[.int .i64 3, .int .i64 ((acc.length : Int) + 1), .slice none 0 0]) (by simp [results, Tryd.results16, go_sem, m0, m1, m2]) rfl F3.out
                · have hq2 : ((acc.length : Int) == 2000) = true := by simpa using h2000
                  clear FIN F2 hx hx2 hx3 ow ow2 Bw B2 bF bwc bq hRd hME KE HQ hbad h2000
                  go_wp2
                  exact bodyPost_ret (v := .agg #[.int .i64 3, .int .i64 ((acc.length : Int) + 1), .slice none 0 0]) (by simp [results, Tryd.results16, go_sem, m0, m1, m2]) rfl F3.out
              · obtain ⟨rfl, hMs⟩ : ok = true ∧ M = some (E0, E1, E2) := by
                  rcases hME with h | ⟨h1, _⟩
                  · exact h
                  · exact absurd (.inl h1) hbad
                have hne : ¬ (acc.length : Int) = 2000 := by
                  intro h
                  exact hbad (.inr (by omega))
                have hq2 : ((acc.length : Int) == 2000) = false := by simpa using hne
                have hR2 := hRd.step hno (hM.trans hMs) (by omega)
                have HN : Hid (RdTo S n (t.drop (i + 1)) (acc ++ [(E0, E1, E2)]) Z ∧ 10 ∉ (t.drop (i + 1)).take (i + 1 - (i + 1)) ∧ (acc ++ [(E0, E1, E2)]).length ≤ 2000) := ⟨hR2, by simp, by simp; omega⟩
                have EL : Hid (((acc ++ [(E0, E1, E2)]).length : Int) = (acc.length : Int) + 1 ∧ (acc ++ [(E0, E1, E2)]).length = acc.length + 1) := ⟨by simp, by simp⟩
                have hbA := below_alloc (Below.refl wc.heap.size wc) (.cells #[.int .i64 E0, .int .i64 E1, .int .i64 E2] 51)
                have nb := Box3.lay wc (.int .i64 E0) (.int .i64 E1) (.int .i64 E2) 51
                obtain ⟨n0, n1, n2⟩ := nb.cells
                have z5 : w1.heap.size ≤ wc.heap.size := B2.size
                clear hRd hR2 hME hbad hne KE HQ hx ow Bw bF bwc bq
                go_wp2_with (at_builtin; refine wpList_append_own _ rfl _ _ 33 rfl w1.heap.size 51 i0 (.agg #[.int .i64 0, .int .i64 0, .int .i64 0]) 3 24 Tryd.underlying33 hi0 hz0 hz1 hz2 rfl (by decide) _ _ _ rfl (own_on ow2 hbA) ⟨wc.heap.size, 0, none⟩ 1 1 [.int .i64 E0, .int .i64 E1, .int .i64 E2] rfl rfl ?c1 ?c2 ?c3 ?c4 ?c5 ?_)
                case c1 =>
                  intro j u hj
                  match j, hj with
                  | 0, hj => simp at hj; subst hj; exact n0
                  | 1, hj => simp at hj; subst hj; exact n1
                  | 2, hj => simp at hj; subst hj; exact n2
                case c2 =>
                  intro u hu
                  simp at hu
                  rcases hu with rfl | rfl | rfl <;> rfl
                case c3 => unfold maxLen; omega
                case c4 => omega
                case c5 => exact Nat.le_trans z5 hbA.size
                intro v' w7 hown' hgrow _
                have bb7 : Below w1.heap.size (wc.alloc (.cells #[.int .i64 E0, .int .i64 E1, .int .i64 E2] 51)) w7 := (Below.refl _ _).grown hgrow (Nat.le_trans z5 hbA.size) (fun x hx => (ow2.lt x hx).1)
                have hx7 : Box3 w7 r 40 (.int .i64 0) (.int .i64 0) (.slice none 0 0) := Blk.below (hx2.on hbA) bb7 (by have := hwr.out.2; have := HX.out.size; omega)
                have B7 : Below w1.heap.size w1 w7 := (below_on B2 hbA).trans bb7
                rw [← evC_snoc] at hown'
                clear hgrow bb7 hbA nb n0 n1 n2 hx2 ow2 B2 y0 y1 y2 z0 z1 z2 e0 e1 e2
                go_wp2
                exact ⟨⟨i + 1, i + 1, acc ++ [(E0, E1, E2)], by simp, by rw [EL.out.1], by simp, Nat.le_refl _, hlt, by rw [EL.out.2]; exact hown', hx7, B7, HN⟩, by simp [intOf]; omega⟩
          · have hq : ((c.toNat : Int) != 10) = true := by
              have : c.toNat ≠ 10 := fun h => hc10 (UInt8.toNat_inj.1 (by rw [h]; rfl))
              simp; omega
            have hN : Hid (RdTo S n (t.drop a) acc Z ∧ 10 ∉ (t.drop a).take (i + 1 - a) ∧ acc.length ≤ 2000) := ⟨hH.out.1, by rw [take_snoc hai hc]; simp only [List.mem_append, List.mem_singleton, not_or]; exact ⟨hH.out.2.1, fun h => hc10 h.symm⟩, hac⟩
            go_wp2
            exact ⟨⟨a, i + 1, acc, rfl, rfl, by simp, by omega, hlt, ow, hx, Bw, hN⟩, by simp [intOf]; omega⟩
        · have hi1 : ¬ (i : Int) < (t.length : Int) := by omega
          obtain rfl : i = t.length := by omega
          obtain ⟨hRd, hno, _⟩ := hH.out
          have bF := below_on bw Bw
          obtain ⟨y0, y1, y2⟩ := hx.cells
          have z0 := Blk.frozen hx 0
          have z1 := Blk.frozen hx 1
          have z2 := Blk.frozen hx 2
          by_cases hat : a < t.length
          · have hi2 : (a : Int) < (t.length : Int) := by omega
            have hno2 : 10 ∉ t.drop a := by rwa [List.take_of_length_le (by simp)] at hno
            have hZ := hRd.open (by intro h; have := congrArg List.length h; simp at this; omega) hno2
            subst hZ
            have FIN : Hid (ScP _ _ _ _) := read_end (V := wr) (a := 3) (b := acc.length + 1) (sl := .slice none 0 0) (l := []) hx bF hwr.out.1 ⟨none, 0, rfl, .inl rfl⟩ rfl
            have hx3 := hx.put (.int .i64 3) (.int .i64 ((acc.length + 1 : Nat) : Int)) (.slice none 0 0)
            obtain ⟨m0, m1, m2⟩ := hx3.cells
            have ec : ((acc.length + 1 : Nat) : Int) = (acc.length : Int) + 1 := by simp
            rw [ec] at m0 m1 m2
            have F2 := FIN.out
            rw [ec] at F2
            have F3 : Hid (ScP _ _ _ _) := F2
            clear FIN F2 hx hx3 ow Bw bF hRd hno hno2 hH
            go_wp2
            exact bodyPost_ret (v := .agg #[.int .i64 3, .int .i64 ((acc.length : Int) + 1), .slice none 0 0]) (by simp [results, Tryd.results16, go_sem, m0, m1, m2]) rfl F3.out
          · have hi2 : ¬ (a : Int) < (t.length : Int) := by omega
            have hdr : t.drop a = [] := by rw [List.drop_eq_nil_iff]; omega
            rw [hdr] at hRd
            have hZ := hRd.nil
            subst hZ
            obtain ⟨ao, cap, esl⟩ : ∃ ao cap, u5 = .slice ao acc.length cap := by
              rcases ow.2 with ⟨hv, h0⟩ | ⟨g, cap, cur, hv, _⟩
              · exact ⟨_, _, by rw [h0]; exact hv⟩
              · exact ⟨_, _, hv⟩
            subst esl
            have FIN : Hid (ScP _ _ _ _) := read_end (V := wr) (a := 0) (b := 0) (l := acc) hx bF hwr.out.1 ((SlF.of_ownsRow ow (fun i hi j hj => evC_at acc i hi j hj)).wide bw.size (Nat.le_refl _)) rfl
            have hx3 := hx.put (.int .i64 0) (.int .i64 0) (.slice ao acc.length cap)
            obtain ⟨m0, m1, m2⟩ := hx3.cells
            clear hx hx3 ow Bw bF hRd hno hH
            go_wp2
            exact bodyPost_ret (v := .agg #[.int .i64 0, .int .i64 0, .slice ao acc.length cap]) (by simp [results, Tryd.results16, go_sem, m0, m1, m2]) rfl FIN.out
  · obtain rfl := (rdZ_lay hl).symm.trans HR.out
    clear HR
    obtain ⟨c, hc⟩ : ∃ c, lokZ S n F T = c := ⟨_, rfl⟩
    rw [hc] at kl hl
    clear hc
    go_enter Tryd.func16, Tryd.ntmps16
    go_upto_region 1 with fail
    rw [EW.out, ER.out]
    obtain ⟨⟨x0, x1⟩, _⟩ := HP.out W0 (Below.refl _ _)
    go_wp2_with fail
    refine kl.mono ?_
    clear kl
    rintro e w1 ⟨rfl, b1⟩
    have hx := hW.on b1
    have bw := below_on bW b1
    obtain ⟨y0, y1, y2⟩ := hx.cells
    have z0 := Blk.frozen hx 0
    have z1 := Blk.frozen hx 1
    have z2 := Blk.frozen hx 2
    have FIN : Hid _ := read_end (V := w1) (a := 1) (b := 0) (sl := .slice none 0 0) (l := []) hx bw hwr.out.1 ⟨none, 0, rfl, .inl rfl⟩ rfl
    have hx2 := hx.put (.int .i64 1) (.int .i64 0) (.slice none 0 0)
    obtain ⟨m0, m1, m2⟩ := hx2.cells
    clear hW b1 bW bw hx hx2
    go_wp2
    exact bodyPost_ret (v := .agg #[.int .i64 1, .int .i64 0, .slice none 0 0]) (by simp [results, Tryd.results16, go_sem, m0, m1, m2]) rfl FIN.out

end Go.Proofs.YtlpopfhaephfaabDoor
