import Derived.Test.YtlpopfhaephfaaaS1
namespace Go.Proofs.Ytlpopfhaephfaaa
open Go.RowKit Go.Sort

open Classical in
set_option maxHeartbeats 8000000 in
set_option maxRecDepth 100000 in
theorem specPassing_good (S : Int) (g n gp nP ga nA : Nat) (F T : Nat → Int) (P : Nat → Nat → Int) (Z : Nat → Int) (fr tt : Int) (w : World) (hL : Row w g 51 2 n (two F T)) (hP : Row w gp 103 3 nP (ints P)) (hA : Blk w ga 3 nA (fun i => .int .i64 (Z i)))
    (hV : PasV S n F T nP P nA Z fr tt) :
    Calls Try.prog 35 #[.agg #[.int .i64 S, .slice (some ⟨g, 0, none⟩) n n], .slice (some ⟨gp, 0, none⟩) nP nP, .slice (some ⟨ga, 0, none⟩) nA nA, .int .i64 fr, .int .i64 tt] w fun e w' => ∃ (v : Value) (E : List M3), e = .returned v ∧ (E.Pairwise lt3 ∧ ∀ z, z ∈ E ↔ InR nA nP P Z fr tt z) ∧ w'.ownsRow w.heap.size 45 3 v (E.map (evM P)).length (flat (E.map (evM P))) ∧ RowKit.Below w.heap.size w w' := by
  obtain ⟨h1, h2, h3, h4⟩ := hV
  obtain ⟨t1, t2, t3⟩ := stests_any S g n gp nP ga nA F T P Z w hL hP hA (by have := h2.1; omega) (by have := h3.1; omega)
  have t2 := t2 h1
  rw [h1] at t1
  simp only [decide_eq_true h2] at t2
  simp only [decide_eq_true h3] at t3
  have bP := Asc.bound (n := nP) (Z := fun i => P i 0) (fun i hi => (h2.2 i hi).1)
  have bZ := h3.2.bound
  have n1 := h2.1
  have n2 := h3.1
  have hgp := hP.lt
  have hga := hA.lt
  obtain ⟨b1, b2, b3, b4⟩ := h4
  have d1 : decide (fr ≤ 1000000) = true := by simpa using b2
  have d2 : decide (tt ≤ 1000000) = true := by simpa using b4
  have hBox : ∀ W, RowKit.Below (w.alloc (.cells #[.int .i64 S, .slice (some ⟨g, 0, none⟩) n n] 25)).heap.size (w.alloc (.cells #[.int .i64 S, .slice (some ⟨g, 0, none⟩) n n] 25)) W → RowKit.Below w.heap.size w W ∧ W.cell? ⟨w.heap.size, 0, none⟩ = some (.int .i64 S) ∧ W.cell? ⟨w.heap.size, 1, none⟩ = some (.slice (some ⟨g, 0, none⟩) n n) := fun W hb =>
    ⟨below_on (below_alloc (RowKit.Below.refl _ _) _) hb, (hb.cell (p := ⟨w.heap.size, 0, none⟩) (by first | omega | (simp; done) | (simp; omega))).trans (by simp), (hb.cell (p := ⟨w.heap.size, 1, none⟩) (by first | omega | (simp; done) | (simp; omega))).trans (by simp)⟩
  have hRP := fun W (hW : RowKit.Below w.heap.size w W) => hP.below hW hP.lt
  have hRA := fun W (hW : RowKit.Below w.heap.size w W) => hA.below hW hA.lt
  have hnn : nA * nP ≤ 200 * 120 := Nat.mul_le_mul n2 n1
  obtain ⟨i0, hi, hz0, hz1, hz2⟩ := info_parts Try.infoQ
  obtain ⟨j0, ji, jz0, jz1, jz2⟩ := info_parts Try.infoE
  clear h1 h2 h3 hL hP hA
  go_enter Try.func35, Try.ntmps35
  go_wp2_with fail
  refine (t1 _ (below_alloc (RowKit.Below.refl _ _) _)).mono ?_
  rintro e w1 ⟨rfl, B1⟩
  obtain ⟨B1', a0, a1⟩ := hBox _ B1
  go_wp2_with fail
  refine (t2 _ B1').mono ?_
  rintro e w2 ⟨rfl, hb2⟩
  have B2 := below_on B1' hb2
  clear a0 a1 hb2 B1 B1'
  go_wp2_with fail
  refine (t3 _ B2).mono ?_
  rintro e w3 ⟨rfl, hb3⟩
  have B3 := below_on B2 hb3
  clear hb3 B2 t1 t2 t3 hBox
  go_wp2
  go_loopw [11, 51] (fun v i wr => ∃ (k : Nat) (L : List M3), k ≤ nA ∧ i = .int .i64 k ∧ Gath nP P Z fr tt L k 0 ∧ wr.ownsRow w.heap.size 123 3 v L.length (flat L) ∧ RowKit.Below w.heap.size w wr) (fun _ i _ => nA - (intOf i).toNat)
  case atStart => exact ⟨0, [], Nat.zero_le _, rfl, Gath.start _ _ _ _ _, World.ownsRow_nil _ _ _ _, B3⟩
  case round =>
    obtain ⟨k, L, hk, rfl, hG, hown, hbel⟩ := hrel
    clear B3
    by_cases hlt : k < nA
    · have c0 : wr.cell? ⟨ga, k, none⟩ = some (.int .i64 (Z k)) := (hRA _ hbel).cell hlt
      have z1 := bZ k hlt
      obtain ⟨y, hy⟩ : ∃ y, Z k = y := ⟨_, rfl⟩
      have HY : Hid (Z k = y) := hy
      rw [hy] at c0 z1
      clear hy
      go_wp2
      go_loopw [11, 58] (fun v i wr => ∃ (j : Nat) (L : List M3), j ≤ nP ∧ i = .int .i64 j ∧ Gath nP P Z fr tt L k j ∧ wr.ownsRow w.heap.size 123 3 v L.length (flat L) ∧ RowKit.Below w.heap.size w wr) (fun _ i _ => nP - (intOf i).toNat)
      case atStart => exact ⟨0, L, Nat.zero_le _, rfl, hG, hown, hbel⟩
      case round =>
        clear hG hown hbel c0
        obtain ⟨j, L, hj, rfl, hG, hown, hbel⟩ := hrel
        have hs0 := hbel.size
        by_cases hlj : j < nP
        · have R := hRP _ hbel
          have c0 : wr.cell? ⟨gp, j * 3, none⟩ = some (.int .i64 (P j 0)) := R.cell0 hlj (by omega)
          have c1 : wr.cell? ⟨gp, j * 3 + 1, none⟩ = some (.int .i64 (P j 1)) := R.cell (j := 1) hlj (by omega)
          have c2 : wr.cell? ⟨gp, j * 3 + 2, none⟩ = some (.int .i64 (P j 2)) := R.cell (j := 2) hlj (by omega)
          have g6 := R.lt
          have p1 := bP j hlj
          have hlen := hG.len
          have hkn : k * nP + nP ≤ nA * nP := by have : (k + 1) * nP ≤ nA * nP := Nat.mul_le_mul_right nP hlt
                                                 rw [Nat.succ_mul] at this; exact this
          obtain ⟨x, hx⟩ : ∃ x, P j 0 = x := ⟨_, rfl⟩
          have HX : Hid (P j 0 = x) := hx
          simp only [hx] at c0 p1
          have HG : Hid (Gath nP P Z fr tt L k j) := hG
          clear R hx hG
          have hnw : ∀ o1, ∀ j' u, [Value.int .i64 (x + y), Value.int .i64 k, Value.int .i64 j][j']? = some u → ((wr.alloc o1).alloc (.cells #[.int .i64 (x + y), .int .i64 k, .int .i64 j] 123)).cell? ((⟨wr.heap.size + 1, 0, none⟩ : Addr).add j') = some u := fun o1 => by
            have := cells3_new (wr.alloc o1) (.int .i64 (x + y)) (.int .i64 k) (.int .i64 j) 123
            simp only [World.size_alloc] at this
            exact this
          by_cases hin : fr < x + y ∧ x + y ≤ tt
          · obtain ⟨q1, q2⟩ := hin
            have q3 : decide (x + y ≤ tt) = true := by simpa using q2
            have G2 := HG.out.add (by rw [HX.out, HY.out]; exact ⟨q1, q2⟩)
            have HG2 : Hid (Gath nP P Z fr tt (L ++ [item P Z k j]) k (j + 1)) := G2
            have HF : Hid (flat (L ++ [item P Z k j]) = flat L ++ [.int .i64 (x + y), .int .i64 k, .int .i64 j]) := by show flat _ = _; rw [flat_snoc]; unfold item; rw [HX.out, HY.out]
            clear G2
            go_wp2_with (first
              | (at_builtin; refine wpList_append_own _ rfl _ _ 121 rfl w.heap.size 123 i0 (.agg #[.int .i64 0, .int .i64 0, .int .i64 0]) 3 24 Try.underlying121 hi hz0 hz1 hz2 rfl (by decide) _ _ _ rfl (own_alloc (own_alloc hown _) _) ⟨wr.heap.size + 1, 0, none⟩ 1 1 [.int .i64 (x + y), .int .i64 k, .int .i64 j] rfl rfl (hnw _) (by simp [Value.oneCell']) (by unfold maxLen; omega) (by omega) (by simp; omega) ?_; intro v7 w7 hown7 hgrow7 hnil7))
            go_wp2
            have hB7 := (below_alloc (below_alloc hbel (.cells #[.int .i64 x, .int .i64 (P j 1), .int .i64 (P j 2)] 103)) (.cells #[.int .i64 (x + y), .int .i64 k, .int .i64 j] 123)).grown hgrow7 (by simp; omega) (fun j hj => (hown.lt j hj).1)
            go_roundw
            case rel => first | exact ⟨j + 1, L ++ [item P Z k j], by omega, by go_num, HG2.out, by rw [HF.out]; simpa using hown7, hB7⟩ | ((repeat apply Exists.intro); exact ⟨⟨j + 1, L ++ [item P Z k j], by omega, by go_num, HG2.out, by rw [HF.out]; simpa using hown7, hB7⟩, rfl⟩)
            case measure => simp [intOf]; omega
          · have G2 := HG.out.skip (by rw [HX.out, HY.out]; exact hin)
            have HG2 : Hid (Gath nP P Z fr tt L k (j + 1)) := G2
            clear G2
            rcases (show x + y ≤ fr ∨ (fr < x + y ∧ tt < x + y) by omega) with q1 | ⟨q1, q2⟩
            · clear hin
              go_wp2
              go_roundw
              case rel => exact ⟨u11, _, _, .int .i64 ((j + 1 : Nat) : Int), ⟨j + 1, by omega, rfl, L, HG2.out, own_alloc hown _, below_alloc hbel _⟩, rfl, rfl, rfl, by go_num⟩
              case measure => simp [intOf]; omega
            · have q3 : decide (x + y ≤ tt) = false := by simp; omega
              clear hin
              go_wp2
              go_roundw
              case rel => exact ⟨j + 1, L, by omega, by go_num, HG2.out, own_alloc hown _, below_alloc hbel _⟩
              case measure => simp [intOf]; omega
        · have hjn : j = nP := by omega
          subst hjn
          have G2 := hG.next
          have HG2 : Hid (Gath j P Z fr tt L (k + 1) 0) := G2
          clear G2 hG
          go_wp2
          go_roundw
          case rel => exact ⟨k + 1, L, by omega, by go_num, HG2.out, hown, hbel⟩
          case measure => simp [intOf]; omega
    · have hkn : k = nA := by omega
      subst hkn
      have hlen : L.length ≤ 24000 := by have := hG.len; omega
      rcases own_open hown with ⟨hv, hL0⟩ | ⟨gq, cap, f, hv, hq1, hq2, hq3, hq4, hq5⟩
      · subst hv
        subst hL0
        go_wp2
        refine wp_loop_rounds 1 ?_
        rw [rounds_succ]
        go_wp2
        refine wp_loop_rounds 1 ?_
        rw [rounds_succ]
        go_wp2
        go_ret
        exact ⟨_, [], rfl, ⟨List.Pairwise.nil, fun z => hG.done z⟩, World.ownsRow_nil _ _ _ _, hbel⟩
      · have R0 : RC wr gq cap L := ⟨f, hq4, hq5⟩
        have hord := hG.ord
        have hdone := hG.done
        subst hv
        clear hq4 hq5 hown hG
        go_wp2
        go_loopw [16] (fun q wr => ∃ (i : Nat) (C : List M3), q = .int .i64 i ∧ i ≤ L.length + 1 ∧ SoOut L C i ∧ RC wr gq cap C ∧ RowKit.Below w.heap.size w wr) (fun q _ => L.length + 1 - (intOf q).toNat)
        case atStart => exact ⟨1, L, rfl, by omega, SoOut.start L, R0, hbel⟩
        case round =>
          clear hbel R0
          obtain ⟨i, C, rfl, hi1, hS, hR, hbel⟩ := hrel
          have hCL := hS.len
          by_cases hil : i < L.length
          · have HS0 : Hid (SoOut L C i) := hS
            clear hS
            go_wp2
            go_loopw [17] (fun q wr => ∃ (k : Nat) (C : List M3), q = .int .i64 k ∧ SoIn L C i k ∧ RC wr gq cap C ∧ RowKit.Below w.heap.size w wr) (fun q _ => (intOf q).toNat)
            case atStart => exact ⟨i, C, rfl, HS0.out.enter hil, hR, hbel⟩
            case round =>
              clear hR hbel HS0 hCL
              obtain ⟨k, C, rfl, hI, hR, hbel⟩ := hrel
              have HI : Hid (SoIn L C i k) := hI
              have hki := hI.hk
              have hCl := hI.len
              clear hI
              rcases Nat.eq_zero_or_pos k with rfl | hk0
              · go_upto_region 18 with fail
                refine wp_region_quiet_below (by kernel_rfl) (by kernel_rfl) ?_
                repeat (go_big_quiet_step (fail))
                refine wpQuiet_nil ?_
                intro _ hw'
                obtain ⟨⟨dq, osq⟩, hw''⟩ := hw'
                have hBq := below_regrown wr dq osq
                subst hw''
                generalize grow (redrawn wr dq) osq = wq at *
                have R2 := hR.on hBq
                have B2 := below_on hbel hBq
                have S2 := HI.out.leave hord hil (.inl rfl)
                clear hR hbel hBq
                go_wp2
                go_roundw
                case rel => exact ⟨i + 1, C, by go_num, by omega, S2, R2, B2⟩
                case measure => simp [intOf]; omega
              · obtain ⟨k0, rfl⟩ : ∃ k0, k = k0 + 1 := ⟨k - 1, by omega⟩
                obtain ⟨b1', hb1⟩ : ∃ b, bef (at3 C (k0 + 1)) (at3 C k0) = b := ⟨_, rfl⟩
                have hcap : C.length ≤ cap := by omega
                obtain ⟨p0, p1, p2⟩ := hR.it hcap (show k0 + 1 < C.length by omega)
                obtain ⟨r0, r1, r2⟩ := hR.it hcap (show k0 < C.length by omega)
                have ce := fun d os => Calls.regrown_of (l1before_any (at3 C (k0 + 1)) (at3 C k0) (grow (redrawn wr d) os) b1' hb1)
                obtain ⟨x, hx⟩ : ∃ x, at3 C (k0 + 1) = x := ⟨_, rfl⟩
                obtain ⟨y, hy⟩ : ∃ y, at3 C k0 = y := ⟨_, rfl⟩
                have HXY : Hid (at3 C (k0 + 1) = x ∧ at3 C k0 = y) := ⟨hx, hy⟩
                rw [hx] at p0 p1 p2 ce
                rw [hy] at r0 r1 r2 ce
                have kp0 := cell_regrown p0
                have kp1 := cell_regrown p1
                have kp2 := cell_regrown p2
                have kr0 := cell_regrown r0
                have kr1 := cell_regrown r1
                have kr2 := cell_regrown r2
                have lt1 : (k0 : Int) + 1 < (L.length : Int) := by omega
                have lt2 : (k0 : Int) < (L.length : Int) := by omega
                have lt3' : (0 : Int) < (k0 : Int) + 1 := by omega
                clear hx hy
                go_upto_region 18 with fail
                refine wp_region_quiet_below (by kernel_rfl) (by kernel_rfl) ?_
                repeat (go_big_quiet_step (exact ce _ _))
                refine wpQuiet_nil ?_
                intro _ hw'
                obtain ⟨⟨dq, osq⟩, hw''⟩ := hw'
                have hBq := below_regrown wr dq osq
                subst hw''
                generalize grow (redrawn wr dq) osq = wq at *
                clear kp0 kp1 kp2 kr0 kr1 kr2 ce p0 p1 p2 r0 r1 r2
                have R2 := hR.on hBq
                have B2 := below_on hbel hBq
                clear hR hbel hBq
                cases b1'
                · have S2 := HI.out.leave hord hil (.inr hb1)
                  go_wp2
                  go_roundw
                  case rel => exact ⟨i + 1, C, by go_num, by omega, S2, R2, B2⟩
                  case measure => simp [intOf]; omega
                · have S2 := HI.out.step hil (by omega) hb1
                  have HS2 : Hid (SoIn L (swapL C (k0 + 1) k0) i k0) := S2
                  obtain ⟨p0, p1, p2⟩ := R2.it hcap (show k0 + 1 < C.length by omega)
                  obtain ⟨r0, r1, r2⟩ := R2.it hcap (show k0 < C.length by omega)
                  rw [HXY.out.1] at p0 p1 p2
                  rw [HXY.out.2] at r0 r1 r2
                  have hz := fun i => R2.frozen i
                  have gl := R2.lt
                  have gl1 : gq < wq.heap.size + 1 := by omega
                  have R3 := R2.swap (a := k0 + 1) (b := k0) (by omega) (by omega)
                  rw [HXY.out.1, HXY.out.2] at R3
                  have HR3 : Hid (RC _ gq cap (swapL C (k0 + 1) k0)) := R3
                  have B3 := (((((B2.setCell (p := ⟨gq, (k0 + 1) * 3, none⟩) hq1 (.int .i64 y.f)).setCell (p := ⟨gq, (k0 + 1) * 3 + 1, none⟩) hq1 (.int .i64 y.a)).setCell (p := ⟨gq, (k0 + 1) * 3 + 2, none⟩) hq1 (.int .i64 y.p)).setCell (p := ⟨gq, k0 * 3, none⟩) hq1 (.int .i64 x.f)).setCell (p := ⟨gq, k0 * 3 + 1, none⟩) hq1 (.int .i64 x.a)).setCell (p := ⟨gq, k0 * 3 + 2, none⟩) hq1 (.int .i64 x.p)
                  have HB3 : Hid (RowKit.Below w.heap.size w _) := B3
                  clear R3 S2 B3
                  go_wp2
                  go_roundw
                  case rel => exact ⟨k0, swapL C (k0 + 1) k0, rfl, HS2.out, (HR3.out.on (below_alloc (RowKit.Below.refl _ _) _)).on (below_alloc (RowKit.Below.refl _ _) _), below_alloc (below_alloc HB3.out _) _⟩
                  case measure => simp [intOf]
          · have hpw := hS.done (by omega)
            have hpm := hS.pm
            have hin : ∀ z, z ∈ C ↔ InR k nP P Z fr tt z := fun z => by rw [hpm.mem_iff]; exact hdone z
            clear hS hdone hord hpm
            go_wp2
            go_loopw [20, 132] (fun v q wr => ∃ k' : Nat, k' ≤ L.length ∧ q = .int .i64 k' ∧ wr.ownsRow w.heap.size 45 3 v ((C.take k').map (evM P)).length (flat ((C.take k').map (evM P))) ∧ RC wr gq cap C ∧ RowKit.Below w.heap.size w wr) (fun _ q _ => L.length - (intOf q).toNat)
            case atStart => exact ⟨0, Nat.zero_le _, rfl, by simpa [flat] using World.ownsRow_nil _ _ _ _, hR, hbel⟩
            case round =>
              clear hR hbel
              obtain ⟨c, hc, rfl, hown, hR, hbel⟩ := hrel
              by_cases hcl : c < L.length
              · obtain ⟨k', hk', i', hi', he, _, _⟩ := (hin _).1 (at3_mem (show c < C.length by omega))
                obtain ⟨p0, p1, p2⟩ := hR.it (by omega) (show c < C.length by omega)
                have ep : (at3 C c).p = ((i' : Nat) : Int) := by rw [he]; rfl
                rw [ep] at p2
                have Rr := hRP _ hbel
                have c0 : wr.cell? ⟨gp, i' * 3, none⟩ = some (.int .i64 (P i' 0)) := Rr.cell0 hi' (by omega)
                have c1 : wr.cell? ⟨gp, i' * 3 + 1, none⟩ = some (.int .i64 (P i' 1)) := Rr.cell (j := 1) hi' (by omega)
                have c2 : wr.cell? ⟨gp, i' * 3 + 2, none⟩ = some (.int .i64 (P i' 2)) := Rr.cell (j := 2) hi' (by omega)
                have g6 := Rr.lt
                have g7 : gp < wr.heap.size + 1 := by omega
                have gl := hR.lt
                have lt1 : (i' : Int) < (nP : Int) := by omega
                have hs0 := hbel.size
                have htk : C.take (c + 1) = C.take c ++ [at3 C c] := by
                  rw [List.take_succ_eq_append_getElem (show c < C.length by omega)]
                  congr 2
                  unfold at3
                  rw [List.getD_eq_getElem?_getD, List.getElem?_eq_getElem (show c < C.length by omega), Option.getD_some]
                have hlc : ((C.take c).map (evM P)).length = c := by simp; omega
                have HF : Hid (flat ((C.take (c + 1)).map (evM P)) = flat ((C.take c).map (evM P)) ++ [.int .i64 1, .int .i64 (P i' 1), .int .i64 (P i' 2)] ∧ ((C.take (c + 1)).map (evM P)).length = c + 1) := by
                  refine ⟨?_, by simp; omega⟩
                  rw [htk, List.map_append, List.map_cons, List.map_nil, flat_snoc, he]
                  rfl
                have hnw : ∀ o1 o2, ∀ j' u, [Value.int .i64 1, Value.int .i64 (P i' 1), Value.int .i64 (P i' 2)][j']? = some u → (((wr.alloc o1).alloc o2).alloc (.cells #[.int .i64 1, .int .i64 (P i' 1), .int .i64 (P i' 2)] 45)).cell? ((⟨wr.heap.size + 1 + 1, 0, none⟩ : Addr).add j') = some u := fun o1 o2 => by
                  have := cells3_new ((wr.alloc o1).alloc o2) (.int .i64 1) (.int .i64 (P i' 1)) (.int .i64 (P i' 2)) 45
                  simp only [World.size_alloc] at this
                  exact this
                obtain ⟨x, hx⟩ : ∃ x, at3 C c = x := ⟨_, rfl⟩
                rw [hx] at p0 p1
                rw [hlc] at hown
                clear he hx ep Rr htk
                go_wp2_with (first
                  | (at_builtin; refine wpList_append_own _ rfl _ _ 26 rfl w.heap.size 45 j0 (.agg #[.int .i64 0, .int .i64 0, .int .i64 0]) 3 24 Try.underlying26 ji jz0 jz1 jz2 rfl (by decide) _ _ _ rfl (own_alloc (own_alloc (own_alloc hown _) _) _) ⟨wr.heap.size + 1 + 1, 0, none⟩ 1 1 [.int .i64 1, .int .i64 (P i' 1), .int .i64 (P i' 2)] rfl rfl (hnw _ _) (by simp [Value.oneCell']) (by unfold maxLen; omega) (by omega) (by simp; omega) ?_; intro v7 w7 hown7 hgrow7 hnil7))
                go_wp2
                have R7 := (((hR.on (below_alloc (RowKit.Below.refl _ _) (.cells #[.int .i64 x.f, .int .i64 x.a, .int .i64 ((i' : Nat) : Int)] 123))).on (below_alloc (RowKit.Below.refl _ _) (.cells #[.int .i64 (P i' 0), .int .i64 (P i' 1), .int .i64 (P i' 2)] 103))).on (below_alloc (RowKit.Below.refl _ _) (.cells #[.int .i64 1, .int .i64 (P i' 1), .int .i64 (P i' 2)] 45))).grown (own_alloc (own_alloc (own_alloc hown _) _) _) hgrow7
                have B7 := (below_alloc (below_alloc (below_alloc hbel (.cells #[.int .i64 x.f, .int .i64 x.a, .int .i64 ((i' : Nat) : Int)] 123)) (.cells #[.int .i64 (P i' 0), .int .i64 (P i' 1), .int .i64 (P i' 2)] 103)) (.cells #[.int .i64 1, .int .i64 (P i' 1), .int .i64 (P i' 2)] 45)).grown hgrow7 (by simp; omega) (fun j hj => (hown.lt j hj).1)
                go_roundw
                case rel =>
                  (repeat apply Exists.intro)
                  exact ⟨⟨c + 1, by omega, by go_num, by rw [HF.out.2, HF.out.1]; exact hown7, R7, B7⟩, rfl⟩
                case measure => simp [intOf]; omega
              · go_wp2
                go_ret
                have hcn : c = C.length := by omega
                subst hcn
                rw [List.take_length] at hown
                exact ⟨_, C, rfl, ⟨hpw, hin⟩, hown, hbel⟩

end Go.Proofs.Ytlpopfhaephfaaa
