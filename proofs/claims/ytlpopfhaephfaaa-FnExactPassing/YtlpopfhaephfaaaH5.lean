import Derived.Test.YtlpopfhaephfaaaH4
namespace Go.Proofs.Ytlpopfhaephfaaa
open Go.RowKit Go.Sort

theorem Try.infoM : (Try.prog.info? 111).map (fun i => (i.zero, i.size, i.bytes)) = some (some (.agg #[.int .i64 0, .int .i64 0, .int .i64 0]), 3, 24) := by kernel_rfl

theorem own_alloc {w : World} {base e sz n : Nat} {v : Value} {xs : List Value} (h : w.ownsRow base e sz v n xs) (o : Obj) : (w.alloc o).ownsRow base e sz v n xs := h.alloc o

/-- behind an append: the slice is written out -/
theorem own_pos {w : World} {base e n : Nat} {v : Value} {xs : List Value} (h : w.ownsRow base e 3 v n xs) (hn : 0 < n) : ∃ g cap, v = .slice (some ⟨g, 0, none⟩) n cap := by
  rcases h.2 with ⟨_, h0⟩ | ⟨g, cap, cur, rfl, _⟩
  · omega
  · exact ⟨g, cap, rfl⟩

theorem cells3_new (w : World) (a b c : Value) (t : TypeId) : ∀ j u, [a, b, c][j]? = some u → (w.alloc (.cells #[a, b, c] t)).cell? ((⟨w.heap.size, 0, none⟩ : Addr).add j) = some u := by
  intro j u hj
  match j, hj with
  | 0, hj => simp at hj; subst hj; simp [Addr.add]
  | 1, hj => simp at hj; subst hj; simp [Addr.add]
  | 2, hj => simp at hj; subst hj; simp [Addr.add]

theorem heap_grown {w W w1 : World} {hb lo n : Nat} {v v' : Value} {L : List M3} {x : M3} (hw : Fr w W hb v.ownBlock) (hWh : Blk W hb 148 2 (hcell v)) (hrow : W.ownsRow lo 111 3 v L.length (flat L)) (hn : n = L.length)
    (hown : w1.ownsRow lo 111 3 v' (n + 1) (flat L ++ [.int .i64 x.f, .int .i64 x.a, .int .i64 x.p])) (hg : W.grownBy w1 v.ownBlock) :
    HeapAt (w1.setCell ⟨hb, 0, none⟩ v') hb lo v' (L ++ [x]) ∧ Fr w (w1.setCell ⟨hb, 0, none⟩ v') hb v.ownBlock := by
  have h1 := hWh.grown hg (row_ne hrow hWh (by decide))
  have h2 : w1.ownsRow lo 111 3 v' (L ++ [x]).length (flat (L ++ [x])) := by rw [flat_snoc]; simpa [← hn] using hown
  refine ⟨⟨(h1.set 0 v').congr (fun i _ => by unfold hcell; by_cases e : i = 0 <;> simp [e]), own_set h2 (row_ne h2 h1 (by decide)) _⟩, (hw.grown hg (.inl rfl)).set _⟩

set_option maxHeartbeats 2000000 in
set_option maxRecDepth 100000 in
theorem push_any (hb lo : Nat) (v : Value) (L : List M3) (x : M3) (w : World) (h : HeapAt w hb lo v L) (hlo : lo ≤ w.heap.size) (hn : L.length ≤ 1000000) (hH : HeapL L) :
    Calls Try.prog 69 #[.pointer (some ⟨hb, 0, none⟩), .agg #[.int .i64 x.f, .int .i64 x.a, .int .i64 x.p]] w fun e w' => e = .returned (.tuple #[]) ∧
      ∃ v' L', HeapAt w' hb lo v' L' ∧ HeapL L' ∧ L'.Perm (L ++ [x]) ∧ (v'.ownBlock = v.ownBlock ∨ ∃ g, v'.ownBlock = some g ∧ w.heap.size ≤ g) ∧ Fr w w' hb v.ownBlock := by
  obtain ⟨i0, hi, hz0, hz1, hz2⟩ := info_parts Try.infoM
  have hhb := h.1.lt
  have s0 : w.cell? ⟨hb, 0, none⟩ = some v := h.1.cell (i := 0) (by omega)
  have z0 := h.1.frozen 0
  obtain ⟨n, hN⟩ : ∃ n, n = L.length := ⟨_, rfl⟩
  have HN : Hid (n = L.length) := hN
  have hs1 : hb < w.heap.size + 1 := by omega
  have hs2 : hb < w.heap.size + 1 + 1 := by omega
  have hn1 : n ≤ 1000000 := by omega
  have H : Hid (HeapAt w hb lo v L) := h
  have hrow : w.ownsRow lo 111 3 v n (flat L) := by rw [hN]; exact h.2
  have hnw : ∀ j u, [Value.int .i64 x.f, Value.int .i64 x.a, Value.int .i64 x.p][j]? = some u → ((w.alloc (.cells #[.int .i64 x.f, .int .i64 x.a, .int .i64 x.p] 111)).alloc (.cells #[.int .i64 x.f, .int .i64 x.a, .int .i64 x.p] 111)).drew.cell? ((⟨w.heap.size + 1, 0, none⟩ : Addr).add j) = some u := by
    have := cells3_new (w.alloc (.cells #[.int .i64 x.f, .int .i64 x.a, .int .i64 x.p] 111)) (.int .i64 x.f) (.int .i64 x.a) (.int .i64 x.p) 111
    simp only [World.size_alloc] at this
    exact this
  have hv : ∃ ao cap, v = .slice ao n cap := by
    rcases hrow.2 with ⟨rfl, h0⟩ | ⟨g, cap, cur, rfl, _⟩
    · exact ⟨none, 0, by rw [h0]⟩
    · exact ⟨_, cap, rfl⟩
  obtain ⟨ao, cap, rfl⟩ := hv
  clear h hN
  go_enter Try.func69, Try.ntmps69
  go_upto_region 1 with fail
  go_cut [] from 6 (fun wc => ∃ v', HeapAt wc hb lo v' (L ++ [x]) ∧ (v'.ownBlock = (Value.slice ao n cap).ownBlock ∨ ∃ g, v'.ownBlock = some g ∧ w.heap.size ≤ g) ∧ Fr w wc hb (Value.slice ao n cap).ownBlock)
  case first =>
    have bW : Blk ((w.alloc (.cells #[.int .i64 x.f, .int .i64 x.a, .int .i64 x.p] 111)).alloc (.cells #[.int .i64 x.f, .int .i64 x.a, .int .i64 x.p] 111)).drew hb 148 2 (hcell (.slice ao n cap)) := ((H.out.1.alloc _).alloc _).drew
    have rW : ((w.alloc (.cells #[.int .i64 x.f, .int .i64 x.a, .int .i64 x.p] 111)).alloc (.cells #[.int .i64 x.f, .int .i64 x.a, .int .i64 x.p] 111)).drew.ownsRow lo 111 3 (.slice ao n cap) L.length (flat L) := by rw [← HN.out]; exact ((hrow.alloc _).alloc _)
    have fW : Fr w ((w.alloc (.cells #[.int .i64 x.f, .int .i64 x.a, .int .i64 x.p] 111)).alloc (.cells #[.int .i64 x.f, .int .i64 x.a, .int .i64 x.p] 111)).drew hb (Value.slice ao n cap).ownBlock := (Fr.refl _ _ _).on (below_alloc (below_alloc (Below.refl _ _) _) _).drew
    go_region_law (refine step_append_own rfl (.tmp 10) (.tmp 12) 146 rfl lo 111 i0 (.agg #[.int .i64 0, .int .i64 0, .int .i64 0]) 3 24 Try.underlying146 hi hz0 hz1 hz2 rfl (by decide) (.slice ao n cap) _ _ rfl ((hrow.alloc _).alloc _) ⟨w.heap.size + 1, 0, none⟩ 1 1 [.int .i64 x.f, .int .i64 x.a, .int .i64 x.p] rfl rfl hnw (by simp [Value.oneCell']) (by unfold maxLen; omega) (by omega) (by simp; omega) ?_; intro v' w1 hown' hgrow hloc; obtain ⟨g', cap', hv'⟩ := own_pos hown' (by omega); subst hv'; have hR := heap_grown fW bW rW HN.out hown' hgrow; have bH := bW.grown hgrow (row_ne rW bW (by decide)); have y0 := bH.cell (i := 0) (by omega); have y1 := bH.frozen 0)
    all_goals
      go_wp2_with fail
      go_meet
      case rel => exact ⟨_, hR.1, hloc.imp id (fun h => ⟨_, h, by simp; omega⟩), hR.2⟩
  case rest =>
    obtain ⟨v1, hA1, hloc1, hF1⟩ := hcut
    clear s0 z0 hs1 hs2 hrow hnw
    have hlen : (L ++ [x]).length = n + 1 := by simp [HN.out]
    obtain ⟨g, cp, fx, rfl, _, _, _, _, _, hr⟩ := hA1.open (by omega)
    have s0 := hr.s0
    rw [hlen] at s0
    clear hr
    have HU : Hid (UpL (L ++ [x]) n) := by have := UpL.start hH x; rw [← HN.out] at this; exact this
    go_wp2_with fail
    go_loopw [4] (fun q wr => ∃ (c : Nat) (L' : List M3), q = .int .i64 c ∧ c ≤ n ∧ L'.length = n + 1 ∧ HeapAt wr hb lo (.slice (some ⟨g, 0, none⟩) L'.length cp) L' ∧ UpL L' c ∧ L'.Perm (L ++ [x]) ∧ Fr w wr hb (Value.slice ao n cap).ownBlock) (fun q _ => (intOf q).toNat)
    case atStart => exact ⟨n, L ++ [x], by go_num, Nat.le_refl _, hlen, hA1, HU.out, List.Perm.refl _, hF1⟩
    case round =>
      obtain ⟨c, L', rfl, hc, hl, hA, hU, hP, hF⟩ := hrel
      clear hA1 hF1 s0
      rcases Nat.eq_zero_or_pos c with rfl | hc0
      · go_wp2
        go_end0
        exact ⟨rfl, _, L', hA, hU.done0, hP, hloc1, hF⟩
      · have hpar : ((c : Int) - 1) / 2 = ((par c : Nat) : Int) := by unfold par; omega
        have hpl : par c < c := by unfold par; omega
        have hrd := hA.read
        obtain ⟨b1, hb1⟩ : ∃ b, bef (at3 L' c) (at3 L' (par c)) = b := ⟨_, rfl⟩
        obtain ⟨p0, p1, p2⟩ := hrd.it c (by omega)
        obtain ⟨q0, q1, q2⟩ := hrd.it (par c) (by omega)
        have s0 := hrd.s0
        have s1 := hrd.s1
        have ce := fun d os => Calls.regrown_of (earlier_any (at3 L' c) (at3 L' (par c)) (grow (redrawn wr d) os) b1 hb1)
        obtain ⟨y, hy⟩ : ∃ y, at3 L' c = y := ⟨_, rfl⟩
        obtain ⟨z, hz⟩ : ∃ z, at3 L' (par c) = z := ⟨_, rfl⟩
        rw [hy] at p0 p1 p2 ce
        rw [hz] at q0 q1 q2 ce
        rw [hl] at s0
        have k0 := cell_regrown s0
        have k1 := cell_regrown s1
        have kp0 := cell_regrown p0
        have kp1 := cell_regrown p1
        have kp2 := cell_regrown p2
        have kq0 := cell_regrown q0
        have kq1 := cell_regrown q1
        have kq2 := cell_regrown q2
        have lt1 : (c : Int) < (n : Int) + 1 := by omega
        have lt2 : ((par c : Nat) : Int) < (n : Int) + 1 := by omega
        have hpt : (((c : Int) - 1) / 2).toNat = par c := by omega
        have lt3 : ((c : Int) - 1) / 2 < (n : Int) + 1 := by omega
        have lt4 : 0 ≤ ((c : Int) - 1) / 2 := by omega
        have HPar : Hid (((c : Int) - 1) / 2 = ((par c : Nat) : Int)) := hpar
        clear hrd hy hz hpar
        go_upto_region 5 with fail
        refine wp_region_quiet_below (by kernel_rfl) (by kernel_rfl) ?_
        repeat (go_big_quiet_step (exact ce _ _))
        refine wpQuiet_nil ?_
        intro _ hw'
        obtain ⟨⟨dq, osq⟩, hw''⟩ := hw'
        have hBq := below_regrown wr dq osq
        subst hw''
        generalize grow (redrawn wr dq) osq = wq at *
        clear k0 k1 kp0 kp1 kp2 kq0 kq1 kq2 ce s0 s1 p0 p1 p2 q0 q1 q2
        have hA2 := hA.on hBq
        have hF2 := hF.on hBq
        clear hA hF hBq
        cases b1
        · go_wp2
          exact bodyPost_ret (results_none rfl _ _ _) rfl ⟨rfl, _, L', hA2, hU.done hb1, hP, hloc1, hF2⟩
        · have hsw := swap_any hb lo c (par c) _ L' wq hA2 (by omega) (by omega)
          rw [← HPar.out] at hsw
          have hU2 := hU.step hc0 (by omega) hb1
          have hP2 := (swapL_perm (show c < L'.length by omega) (show par c < L'.length by omega)).trans hP
          go_wp2_with fail
          refine hsw.mono ?_
          rintro e w3 ⟨rfl, hA3, hG3⟩
          have hl3 : (swapL L' c (par c)).length = L'.length := swapL_length _ _ _
          have hF3 := hF2.grown hG3 (by
            rcases hloc1 with e | ⟨g1, e, hg1⟩
            · exact .inl e
            · refine .inr fun g2 e2 => ?_
              simp only [Value.ownBlock, Option.some.injEq] at e e2
              omega)
          clear hsw hA2 hF2 hG3
          go_wp2_with fail
          go_roundw
          case rel => exact ⟨par c, swapL L' c (par c), by rw [HPar.out], by omega, by omega, by rw [hl3]; exact hA3, hU2, hP2, hF3⟩
          case measure => simp [intOf]; omega

end Go.Proofs.Ytlpopfhaephfaaa
