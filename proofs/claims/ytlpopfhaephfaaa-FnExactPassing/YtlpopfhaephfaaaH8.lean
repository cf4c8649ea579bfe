import Derived.Test.YtlpopfhaephfaaaH7
namespace Go.Proofs.Ytlpopfhaephfaaa
open Go.RowKit Go.Sort

open Classical in
/-- the four tests ahead, each by its contract -/
theorem tests_any (S : Int) (g n gp nP ga nA : Nat) (F T : Nat → Int) (P : Nat → Nat → Int) (Z : Nat → Int) (fr tt : Int) (w : World) (hL : Row w g 51 2 n (two F T)) (hP : Row w gp 103 3 nP (ints P)) (hA : Blk w ga 3 nA (fun i => .int .i64 (Z i))) (hp : nP ≤ 1048576) (ha : nA ≤ 1048576) :
    (∀ W, RowKit.Below w.heap.size w W → Calls Try.prog 26 #[.agg #[.int .i64 S, .slice (some ⟨g, 0, none⟩) n n]] W fun e w' => e = .returned (.int .i64 (lokZ S n F T)) ∧ RowKit.Below W.heap.size W w') ∧
    (∀ W, RowKit.Below w.heap.size w W → Calls Try.prog 63 #[.agg #[.int .i64 S, .slice (some ⟨g, 0, none⟩) n n], .slice (some ⟨gp, 0, none⟩) nP nP] W fun e w' => e = .returned (.bool (decide (PostsV n nP P))) ∧ RowKit.Below W.heap.size W w') ∧
    (∀ W, RowKit.Below w.heap.size w W → Calls Try.prog 64 #[.slice (some ⟨ga, 0, none⟩) nA nA] W fun e w' => e = .returned (.bool (decide (AxlesV nA Z))) ∧ RowKit.Below W.heap.size W w') ∧
    (∀ W, Calls Try.prog 65 #[.int .i64 fr, .int .i64 tt] W fun e w' => e = .returned (.bool (decide (0 ≤ fr ∧ fr ≤ 1000000 ∧ fr ≤ tt ∧ tt ≤ 1000000))) ∧ RowKit.Below W.heap.size W w') :=
  ⟨fun W hW => implLayoutOk_any S g n F T W (hL.below hW hL.lt), fun W hW => postsOk_any S g n gp nP P W (hP.below hW hP.lt) hp, fun W hW => by
    have := axlesOk_any ga nA Z W ha (hA.below hW hA.lt)
    rw [show decide (AxlesV nA Z) = decide (nA ≤ 200 ∧ Asc nA Z) from decide_eq_decide.2 Iff.rfl]
    exact this, fun W => by
    have := stretchOk_any fr tt W
    rw [decide_eq_decide.2 (Iff.refl (0 ≤ fr ∧ fr ≤ 1000000 ∧ fr ≤ tt ∧ tt ≤ 1000000))] at this
    exact this⟩

theorem ev_nil (w : World) (B : Nat) : w.ownsRow B 45 3 (.slice none 0 0) (([] : List M3).map (evM (fun _ _ => 0))).length (flat (([] : List M3).map (evM (fun _ _ => 0)))) := World.ownsRow_nil _ _ _ _

open Classical in
set_option maxRecDepth 100000 in
set_option maxHeartbeats 2000000 in
theorem implPassing_bad (S : Int) (g n gp nP ga nA : Nat) (F T : Nat → Int) (P : Nat → Nat → Int) (Z : Nat → Int) (fr tt : Int) (w : World) (hL : Row w g 51 2 n (two F T)) (hP : Row w gp 103 3 nP (ints P)) (hA : Blk w ga 3 nA (fun i => .int .i64 (Z i))) (hp : nP ≤ 1048576) (ha : nA ≤ 1048576)
    (hV : ¬ PasV S n F T nP P nA Z fr tt) :
    Calls Try.prog 22 #[.agg #[.int .i64 S, .slice (some ⟨g, 0, none⟩) n n], .slice (some ⟨gp, 0, none⟩) nP nP, .slice (some ⟨ga, 0, none⟩) nA nA, .int .i64 fr, .int .i64 tt] w fun e w' => e = .returned (.slice none 0 0) ∧ RowKit.Below w.heap.size w w' := by
  obtain ⟨t1, t2, t3, t4⟩ := tests_any S g n gp nP ga nA F T P Z fr tt w hL hP hA hp ha
  clear hL hP hA hp ha
  have hA : ∀ W, RowKit.Below (w.alloc (.cells #[.int .i64 S, .slice (some ⟨g, 0, none⟩) n n] 25)).heap.size (w.alloc (.cells #[.int .i64 S, .slice (some ⟨g, 0, none⟩) n n] 25)) W → RowKit.Below w.heap.size w W ∧ W.cell? ⟨w.heap.size, 0, none⟩ = some (.int .i64 S) ∧ W.cell? ⟨w.heap.size, 1, none⟩ = some (.slice (some ⟨g, 0, none⟩) n n) := fun W hb =>
    ⟨below_on (below_alloc (RowKit.Below.refl _ _) _) hb, (hb.cell (p := ⟨w.heap.size, 0, none⟩) (by first | omega | (simp; done) | (simp; omega))).trans (by simp), (hb.cell (p := ⟨w.heap.size, 1, none⟩) (by first | omega | (simp; done) | (simp; omega))).trans (by simp)⟩
  by_cases h1 : lokZ S n F T = 0
  · rw [h1] at t1
    by_cases h2 : PostsV n nP P
    · simp only [decide_eq_true h2] at t2
      by_cases h3 : AxlesV nA Z
      · simp only [decide_eq_true h3] at t3
        have h4 : ¬ (0 ≤ fr ∧ fr ≤ 1000000 ∧ fr ≤ tt ∧ tt ≤ 1000000) := fun h => hV ⟨h1, h2, h3, h⟩
        simp only [decide_eq_false h4] at t4
        clear h1 h2 h3 h4 hV
        go_enter Try.func22, Try.ntmps22
        go_wp2_with fail
        refine (t1 _ (below_alloc (RowKit.Below.refl _ _) _)).mono ?_
        rintro e w1 ⟨rfl, B1⟩
        obtain ⟨B1', a0, a1⟩ := hA _ B1
        go_wp2_with fail
        refine (t2 _ B1').mono ?_
        rintro e w2 ⟨rfl, hb2⟩
        have B2 := below_on B1' hb2
        go_wp2_with fail
        refine (t3 _ B2).mono ?_
        rintro e w3 ⟨rfl, hb3⟩
        have B3 := below_on B2 hb3
        go_wp2_with fail
        refine (t4 _).mono ?_
        rintro e w4 ⟨rfl, hb4⟩
        go_wp2
        go_ret
        exact ⟨rfl, below_on B3 hb4⟩
      · simp only [decide_eq_false h3] at t3
        clear h1 h2 h3 hV t4
        go_enter Try.func22, Try.ntmps22
        go_wp2_with fail
        refine (t1 _ (below_alloc (RowKit.Below.refl _ _) _)).mono ?_
        rintro e w1 ⟨rfl, B1⟩
        obtain ⟨B1', a0, a1⟩ := hA _ B1
        go_wp2_with fail
        refine (t2 _ B1').mono ?_
        rintro e w2 ⟨rfl, hb2⟩
        have B2 := below_on B1' hb2
        go_wp2_with fail
        refine (t3 _ B2).mono ?_
        rintro e w3 ⟨rfl, hb3⟩
        go_wp2
        go_ret
        exact ⟨rfl, below_on B2 hb3⟩
    · simp only [decide_eq_false h2] at t2
      clear h1 h2 hV t3 t4
      go_enter Try.func22, Try.ntmps22
      go_wp2_with fail
      refine (t1 _ (below_alloc (RowKit.Below.refl _ _) _)).mono ?_
      rintro e w1 ⟨rfl, B1⟩
      obtain ⟨B1', a0, a1⟩ := hA _ B1
      go_wp2_with fail
      refine (t2 _ B1').mono ?_
      rintro e w2 ⟨rfl, hb2⟩
      go_wp2
      go_ret
      exact ⟨rfl, below_on B1' hb2⟩
  · have h1' : (lokZ S n F T != 0) = true := by simpa using h1
    clear h1 hV t2 t3 t4
    go_enter Try.func22, Try.ntmps22
    go_wp2_with fail
    refine (t1 _ (below_alloc (RowKit.Below.refl _ _) _)).mono ?_
    rintro e w1 ⟨rfl, B1⟩
    go_wp2
    go_ret
    exact ⟨rfl, (hA _ B1).1⟩

theorem PL.step {w wr w' : World} {hb lo nA nP : Nat} {ve v7 v v' : Value} {P : Nat → Nat → Int} {Z : Nat → Int} {fr tt : Int} {L L' L'' E : List M3} {nx : Nat → Nat} (h : PL w wr hb lo ve nA nP P Z fr tt v L E nx) (hn : 0 < L.length) (hmono : ∀ i j, i ≤ j → j < nP → P i 0 ≤ P j 0) (hp : (at3 L 0 :: L').Perm L) (htt : (at3 L 0).f ≤ tt)
    {k : Nat} (hk : k < nA) (hkn : nx k < nP) (he : at3 L 0 = item P Z k (nx k)) (hA : HeapAt w' hb lo v' L'') (hh : HeapL L'')
    (hL : (nx k + 1 < nP ∧ L''.Perm (L' ++ [item P Z k (nx k + 1)])) ∨ (nP ≤ nx k + 1 ∧ L''.Perm L'))
    (hev : w'.ownsRow w.heap.size 45 3 v7 (E.length + 1) (flat (E.map (evM P)) ++ [.int .i64 1, .int .i64 (P (nx k) 1), .int .i64 (P (nx k) 2)])) (hb' : RowKit.Below w.heap.size w w') :
    PL w w' hb lo v7 nA nP P Z fr tt v' L'' (E ++ [at3 L 0]) (fun j => if j = k then nx k + 1 else nx j) := by
  have e1 : evM P (at3 L 0) = ⟨1, P (nx k) 1, P (nx k) 2⟩ := by rw [he]; rfl
  refine ⟨h.mg.step hn hmono hp htt hk hkn he hh hL, hA, ?_, ?_, ?_, hb'⟩
  · have l1 := hp.length_eq
    have := h.ll
    rcases hL with ⟨_, b⟩ | ⟨_, b⟩
    · have := b.length_eq; simp at *; omega
    · have := b.length_eq; simp at *; omega
  · rw [List.map_append, List.map_cons, List.map_nil, flat_snoc, e1]
    simpa using hev
  · have := sumR_step (n := nA) (k := k) (f := fun j => nP - nx j) (g := fun j => nP - (if j = k then nx k + 1 else nx j)) hk (by simp; omega) (fun j hj => by simp [hj])
    have h2 := h.sm
    simp at *
    omega

theorem heap_kept {w w' : World} {hb lo base e sz n : Nat} {v ve : Value} {L : List M3} {xs : List Value} (hA : HeapAt w hb lo v L) (h : w.ownsRow base e sz ve n xs) (hg : w.grownBy w' ve.ownBlock) (h1 : e ≠ 111) (h2 : e ≠ 148) : HeapAt w' hb lo v L := by
  refine ⟨hA.1.grown hg (row_ne h hA.1 (fun x => h2 x.symm)), hA.2.1, ?_⟩
  rcases hA.2.2 with h0 | ⟨g, cap, cur, rfl, hb1, hh, r⟩
  · exact .inl h0
  · refine .inr ⟨g, cap, cur, rfl, hb1, ?_, r⟩
    rw [hg.block g (Array.getElem?_eq_some_iff.1 hh).1 ?_]
    · exact hh
    · intro e1
      rcases h.2 with ⟨rfl, _⟩ | ⟨g', cap', cur', rfl, _, hh', _⟩
      · simp [Value.ownBlock] at e1
      · simp only [Value.ownBlock, Option.some.injEq] at e1
        subst e1
        rw [hh] at hh'
        simp only [Option.some.injEq, Obj.cells.injEq] at hh'
        exact h1 hh'.2.1.symm

open Classical in
set_option maxRecDepth 100000 in
set_option maxHeartbeats 4000000 in
theorem implPassing_good (S : Int) (g n gp nP ga nA : Nat) (F T : Nat → Int) (P : Nat → Nat → Int) (Z : Nat → Int) (fr tt : Int) (w : World) (hL : Row w g 51 2 n (two F T)) (hP : Row w gp 103 3 nP (ints P)) (hA : Blk w ga 3 nA (fun i => .int .i64 (Z i)))
    (hV : PasV S n F T nP P nA Z fr tt) :
    Calls Try.prog 22 #[.agg #[.int .i64 S, .slice (some ⟨g, 0, none⟩) n n], .slice (some ⟨gp, 0, none⟩) nP nP, .slice (some ⟨ga, 0, none⟩) nA nA, .int .i64 fr, .int .i64 tt] w fun e w' => ∃ (v : Value) (E : List M3), e = .returned v ∧ (E.Pairwise lt3 ∧ ∀ z, z ∈ E ↔ InR nA nP P Z fr tt z) ∧ E.length ≤ 24000 ∧ w'.ownsRow w.heap.size 45 3 v (E.map (evM P)).length (flat (E.map (evM P))) ∧ RowKit.Below w.heap.size w w' := by
  obtain ⟨h1, h2, h3, h4⟩ := hV
  obtain ⟨t1, t2, t3, t4⟩ := tests_any S g n gp nP ga nA F T P Z fr tt w hL hP hA (by have := h2.1; omega) (by have := h3.1; omega)
  rw [h1] at t1
  simp only [decide_eq_true h2] at t2
  simp only [decide_eq_true h3] at t3
  simp only [decide_eq_true h4] at t4
  have hmono := Asc.mono (n := nP) (Z := fun i => P i 0) (fun i hi => (h2.2 i hi).1)
  have bP := Asc.bound (n := nP) (Z := fun i => P i 0) (fun i hi => (h2.2 i hi).1)
  have bZ := h3.2.bound
  have n1 := h2.1
  have n2 := h3.1
  have hpn := hP.lt
  have hBox : ∀ W, RowKit.Below (w.alloc (.cells #[.int .i64 S, .slice (some ⟨g, 0, none⟩) n n] 25)).heap.size (w.alloc (.cells #[.int .i64 S, .slice (some ⟨g, 0, none⟩) n n] 25)) W → RowKit.Below w.heap.size w W ∧ W.cell? ⟨w.heap.size, 0, none⟩ = some (.int .i64 S) ∧ W.cell? ⟨w.heap.size, 1, none⟩ = some (.slice (some ⟨g, 0, none⟩) n n) := fun W hb =>
    ⟨below_on (below_alloc (RowKit.Below.refl _ _) _) hb, (hb.cell (p := ⟨w.heap.size, 0, none⟩) (by first | omega | (simp; done) | (simp; omega))).trans (by simp), (hb.cell (p := ⟨w.heap.size, 1, none⟩) (by first | omega | (simp; done) | (simp; omega))).trans (by simp)⟩
  have hFM := fun W (hW : RowKit.Below w.heap.size w W) => firstMeetings_any gp ga nP nA P Z fr W (hP.below hW hP.lt) (hA.below hW hA.lt) n1 n2 bP bZ
  have hM := fun W (hW : RowKit.Below w.heap.size w W) k i (hk : k < nA) (hi : i < nP) => meet_any gp ga nP nA k i P Z W (hP.below hW hP.lt) (hA.below hW hA.lt) hk hi (bP i hi).1 (bP i hi).2 (bZ k hk).1 (bZ k hk).2
  have hR := fun W (hW : RowKit.Below w.heap.size w W) => hP.below hW hP.lt
  obtain ⟨i0, hi, hz0, hz1, hz2⟩ := info_parts Try.infoE
  clear h1 h2 h3 h4 hL hP hA
  go_enter Try.func22, Try.ntmps22
  go_wp2_with fail
  refine (t1 _ (below_alloc (RowKit.Below.refl _ _) _)).mono ?_
  rintro e w1 ⟨rfl, B1⟩
  obtain ⟨B1', a0, a1⟩ := hBox _ B1
  go_wp2_with fail
  refine (t2 _ B1').mono ?_
  rintro e w2 ⟨rfl, hb2⟩
  have B2 := below_on B1' hb2
  clear a0 a1 hb2 B1 B1'
  go_wp2_with fail
  refine (t3 _ B2).mono ?_
  rintro e w3 ⟨rfl, hb3⟩
  have B3 := below_on B2 hb3
  clear hb3 B2
  go_wp2_with fail
  refine (t4 _).mono ?_
  rintro e w4 ⟨rfl, hb4⟩
  have B4 := below_on B3 hb4
  clear hb4 B3 t1 t2 t3 t4 hBox
  go_wp2_with fail
  refine (hFM _ B4).mono ?_
  rintro e w5 ⟨v5, L5, rfl, FM5, hb5⟩
  have B5 := below_on B4 hb5
  have hs4 := B4.size
  have P5 : PL w w5 w4.heap.size w4.heap.size (.slice none 0 0) nA nP P Z fr tt v5 L5 [] (fun k => fst P nP fr (Z k)) :=
    ⟨Mg.start FM5.hp FM5.nd FM5.lm, FM5.at_, FM5.len, World.ownsRow_nil _ _ _ _, by
      have := sumR_le (n := nA) (m := nP) (f := fun k => nP - fst P nP fr (Z k)) (fun k _ => by omega)
      simpa using this, B5⟩
  clear FM5 hb5 hFM B4 B5
  go_wp2_with fail
  go_loopw [11] (fun ve wr => ∃ (v : Value) (L E : List M3) (nx : Nat → Nat), PL w wr w4.heap.size w4.heap.size ve nA nP P Z fr tt v L E nx) (fun ve _ => nA * nP - lenOf ve)
  case atStart => exact ⟨v5, L5, [], _, P5⟩
  case round =>
    obtain ⟨v, L, E, nx, hPL⟩ := hrel
    clear P5
    have hsz := size_any _ _ _ _ wr hPL.hp
    have hE0 : E.length ≤ 24000 := by have := hPL.sm; have : nA * nP ≤ 200 * 120 := Nat.mul_le_mul n2 n1; omega
    rcases Nat.eq_zero_or_pos L.length with hl0 | hlp
    · have hL0 : L = [] := List.length_eq_zero_iff.1 hl0
      subst hL0
      go_wp2_with fail
      refine hsz.mono ?_
      rintro e w6 ⟨rfl, rfl⟩
      go_wp2
      go_ret
      exact ⟨_, E, rfl, hPL.mg.done_empty, hE0, hPL.ev, hPL.bl⟩
    · have hpop := pop_any _ _ _ _ wr hPL.hp hlp (by have := hPL.ll; omega) hPL.mg.hp
      obtain ⟨k, hk, hkn, he⟩ := (hPL.mg.lm _).1 (at3_mem hlp)
      obtain ⟨x, hx⟩ : ∃ x, (at3 L 0).f = x := ⟨_, rfl⟩
      have ea : (at3 L 0).a = (k : Int) := by rw [he]; rfl
      have ep : (at3 L 0).p = ((nx k : Nat) : Int) := by rw [he]; rfl
      simp only [hx, ea, ep] at hpop
      have hlI : (0 : Int) < (L.length : Int) := by omega
      have HPL : Hid (PL w wr w4.heap.size w4.heap.size u11 nA nP P Z fr tt v L E nx) := hPL
      have HX : Hid ((at3 L 0).f = x) := hx
      have HE : Hid (at3 L 0 = item P Z k (nx k)) := he
      clear hPL hx ea ep he
      go_wp2_with fail
      refine hsz.mono ?_
      rintro e w6 ⟨rfl, hw6⟩
      rw [hw6]
      clear hsz hw6 w6
      go_wp2_with fail
      refine hpop.mono ?_
      rintro e w6 ⟨rfl, v6, L6, hA6, hH6, hPm, hvo, hFr⟩
      have hsW : w4.heap.size ≤ wr.heap.size := Nat.le_of_lt HPL.out.hp.1.lt
      have B6 : RowKit.Below w.heap.size w w6 := Fr.below HPL.out.bl hFr HPL.out.bl.size (by omega) (fun g hg => by have := (HPL.out.hp.2.lt g hg).1; omega)
      have ev6 := own_fr HPL.out.ev HPL.out.hp hFr (by decide) (by decide)
      have s6 := hFr.size
      have R6 := hR _ B6
      have c0 : w6.cell? ⟨gp, nx k * 3, none⟩ = some (.int .i64 (P (nx k) 0)) := R6.cell0 hkn (by omega)
      have c1 : w6.cell? ⟨gp, nx k * 3 + 1, none⟩ = some (.int .i64 (P (nx k) 1)) := R6.cell (j := 1) hkn (by omega)
      have c2 : w6.cell? ⟨gp, nx k * 3 + 2, none⟩ = some (.int .i64 (P (nx k) 2)) := R6.cell (j := 2) hkn (by omega)
      have g6 := R6.lt
      have g7 : gp < w6.heap.size + 1 := by omega
      clear hpop R6
      by_cases hfar : tt < x
      · go_wp2
        go_ret
        exact ⟨_, E, rfl, HPL.out.mg.done_far hmono (by rw [HX.out]; exact hfar), hE0, own_alloc ev6 _, below_alloc B6 _⟩
      · have hEL : (E.map (evM P)).length = E.length := by simp
        have lt1 : ((nx k : Nat) : Int) < (nP : Int) := by omega
        have hnw : ∀ o1 o2, ∀ j u, [Value.int .i64 1, Value.int .i64 (P (nx k) 1), Value.int .i64 (P (nx k) 2)][j]? = some u → (((w6.alloc o1).alloc o2).alloc (.cells #[.int .i64 1, .int .i64 (P (nx k) 1), .int .i64 (P (nx k) 2)] 45)).cell? ((⟨w6.heap.size + 1 + 1, 0, none⟩ : Addr).add j) = some u := fun o1 o2 => by
          have := cells3_new ((w6.alloc o1).alloc o2) (.int .i64 1) (.int .i64 (P (nx k) 1)) (.int .i64 (P (nx k) 2)) 45
          simp only [World.size_alloc] at this
          exact this
        have hM7 : ∀ w7, (((w6.alloc (.cells #[.int .i64 x, .int .i64 k, .int .i64 ((nx k : Nat) : Int)] 111)).alloc (.cells #[.int .i64 (P (nx k) 0), .int .i64 (P (nx k) 1), .int .i64 (P (nx k) 2)] 103)).alloc (.cells #[.int .i64 1, .int .i64 (P (nx k) 1), .int .i64 (P (nx k) 2)] 45)).grownBy w7 u11.ownBlock →
            w7.cell? ⟨w6.heap.size, 1, none⟩ = some (.int .i64 k) ∧ w7.cell? ⟨w6.heap.size, 2, none⟩ = some (.int .i64 ((nx k : Nat) : Int)) := fun w7 hg => by
          have bM := ((Blk.new w6 #[.int .i64 x, .int .i64 k, .int .i64 ((nx k : Nat) : Int)] 111 (topcell ⟨x, k, ((nx k : Nat) : Int)⟩) (fun i hi => by match i, hi with | 0, _ => rfl | 1, _ => rfl | 2, _ => rfl)).alloc (.cells #[.int .i64 (P (nx k) 0), .int .i64 (P (nx k) 1), .int .i64 (P (nx k) 2)] 103)).alloc (.cells #[.int .i64 1, .int .i64 (P (nx k) 1), .int .i64 (P (nx k) 2)] 45)
          have bM7 := bM.grown hg (row_ne (own_alloc (own_alloc (own_alloc ev6 _) _) _) bM (by decide))
          exact ⟨bM7.cell (i := 1) (by simp), bM7.cell (i := 2) (by simp)⟩
        go_wp2_with (first
          | (at_builtin; refine wpList_append_own _ rfl _ _ 26 rfl w.heap.size 45 i0 (.agg #[.int .i64 0, .int .i64 0, .int .i64 0]) 3 24 Try.underlying26 hi hz0 hz1 hz2 rfl (by decide) _ _ _ rfl (own_alloc (own_alloc (own_alloc ev6 _) _) _) ⟨w6.heap.size + 1 + 1, 0, none⟩ 1 1 [.int .i64 1, .int .i64 (P (nx k) 1), .int .i64 (P (nx k) 2)] rfl rfl (hnw _ _) (by simp [Value.oneCell']) (by unfold maxLen; omega) (by omega) (by have := B6.size; simp; omega) ?_; intro v7 w7 hown7 hgrow7 hnil7; obtain ⟨m1, m2⟩ := hM7 w7 hgrow7))
        · have hlt : nx k + 1 < nP := by have : ((nx k : Nat) : Int) + 1 < (nP : Int) := by assumption
                                         omega
          have A7 := heap_kept (hA6.on (below_alloc (below_alloc (below_alloc (RowKit.Below.refl _ _) (.cells #[.int .i64 x, .int .i64 k, .int .i64 ((nx k : Nat) : Int)] 111)) (.cells #[.int .i64 (P (nx k) 0), .int .i64 (P (nx k) 1), .int .i64 (P (nx k) 2)] 103)) (.cells #[.int .i64 1, .int .i64 (P (nx k) 1), .int .i64 (P (nx k) 2)] 45))) (own_alloc (own_alloc (own_alloc ev6 _) _) _) hgrow7 (by decide) (by decide)
          have B7 := (below_alloc (below_alloc (below_alloc B6 (.cells #[.int .i64 x, .int .i64 k, .int .i64 ((nx k : Nat) : Int)] 111)) (.cells #[.int .i64 (P (nx k) 0), .int .i64 (P (nx k) 1), .int .i64 (P (nx k) 2)] 103)) (.cells #[.int .i64 1, .int .i64 (P (nx k) 1), .int .i64 (P (nx k) 2)] 45)).grown hgrow7 (by have := B6.size; simp; omega) (fun j hj => (ev6.lt j hj).1)
          have hme := hM w7 B7 k (nx k + 1) hk hlt
          have ec : (((nx k + 1 : Nat) : Int)) = ((nx k : Nat) : Int) + 1 := by omega
          rw [ec] at hme
          refine hme.mono ?_
          rintro e w8 ⟨rfl, hb8⟩
          have A8 := A7.on hb8
          have B8 := below_on B7 hb8
          have s8 : w4.heap.size ≤ w8.heap.size := Nat.le_of_lt A8.1.lt
          have hpu := push_any _ _ _ L6 ⟨P (nx k + 1) 0 + Z k, k, ((nx k : Nat) : Int) + 1⟩ w8 A8 s8 (by have := HPL.out.ll; have := hPm.length_eq; simp at this; omega) hH6
          have ev8 := own_below hown7 hb8
          go_wp2_with fail
          refine hpu.mono ?_
          rintro e w9 ⟨rfl, v9, L9, A9, H9, P9, loc9, F9⟩
          have ev9 := own_fr ev8 A8 F9 (by decide) (by decide)
          have B9 := Fr.below B8 F9 B8.size (by omega) (fun g hg => by have := (A8.2.lt g hg).1; omega)
          have PL9 := PL.step HPL.out hlp hmono hPm (by rw [HX.out]; omega) hk hkn HE.out A9 H9 (.inl ⟨hlt, by unfold item; rw [ec]; exact P9⟩) (by rw [← hEL]; exact ev9) B9
          have l9 := own_len ev9
          have l6 := own_len ev6
          have sm9 := PL9.sm
          clear hpu hme
          go_wp2_with fail
          go_roundw
          case rel => exact ⟨v9, L9, _, _, PL9⟩
          case measure => rw [l9, l6]; simp at sm9 ⊢; omega
        · have hlt : ¬ nx k + 1 < nP := by have : (nP : Int) ≤ ((nx k : Nat) : Int) + 1 := by assumption
                                           omega
          have A7 := heap_kept (hA6.on (below_alloc (below_alloc (below_alloc (RowKit.Below.refl _ _) (.cells #[.int .i64 x, .int .i64 k, .int .i64 ((nx k : Nat) : Int)] 111)) (.cells #[.int .i64 (P (nx k) 0), .int .i64 (P (nx k) 1), .int .i64 (P (nx k) 2)] 103)) (.cells #[.int .i64 1, .int .i64 (P (nx k) 1), .int .i64 (P (nx k) 2)] 45))) (own_alloc (own_alloc (own_alloc ev6 _) _) _) hgrow7 (by decide) (by decide)
          have B7 := (below_alloc (below_alloc (below_alloc B6 (.cells #[.int .i64 x, .int .i64 k, .int .i64 ((nx k : Nat) : Int)] 111)) (.cells #[.int .i64 (P (nx k) 0), .int .i64 (P (nx k) 1), .int .i64 (P (nx k) 2)] 103)) (.cells #[.int .i64 1, .int .i64 (P (nx k) 1), .int .i64 (P (nx k) 2)] 45)).grown hgrow7 (by have := B6.size; simp; omega) (fun j hj => (ev6.lt j hj).1)
          have PL9 := PL.step HPL.out hlp hmono hPm (by rw [HX.out]; omega) hk hkn HE.out A7 hH6 (.inr ⟨by omega, List.Perm.refl _⟩) (by rw [← hEL]; exact hown7) B7
          have l9 := own_len hown7
          have l6 := own_len ev6
          have sm9 := PL9.sm
          go_roundw
          case rel => exact ⟨v6, L6, _, _, PL9⟩
          case measure => rw [l9, l6]; simp at sm9 ⊢; omega

end Go.Proofs.Ytlpopfhaephfaaa
