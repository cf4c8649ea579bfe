import Derived.Test.YtlpopfhaephfaabDoorTS6
namespace Go.Proofs.YtlpopfhaephfaabDoor
open Go.RowKit Go.Maps

theorem rdZ_lay {S : Int} {n : Nat} {F T : Nat → Int} {t : List UInt8} (h : ¬ lokZ S n F T = 0) : rdZ S n F T t = (1, 0, []) := by unfold rdZ; rw [if_neg h]
theorem rdZ_long {S : Int} {n : Nat} {F T : Nat → Int} {t : List UInt8} (h : lokZ S n F T = 0) (h2 : 20000 < t.length) : rdZ S n F T t = (2, 0, []) := by unfold rdZ; rw [if_pos h, if_neg (by omega)]
theorem rdZ_scan {S : Int} {n : Nat} {F T : Nat → Int} {t : List UInt8} (h : lokZ S n F T = 0) (h2 : t.length ≤ 20000) : rdZ S n F T t = rdO (rdL S n (t.length + 1) t []) := by
  unfold rdZ rdO; rw [if_pos h, if_pos h2]
  cases rdL S n (t.length + 1) t [] <;> rfl

/-- An answer that is laid into its own block. -/
theorem read_end {w V W : World} {r : Nat} {x y z : Value} {a : Int} {b : Nat} {sl : Value} {l : List (Int × Int × Int)} (hr : Box3 W r 40 x y z) (hb : Below w.heap.size w W) (hw : w.heap.size ≤ r)
    (hs : SlF W 51 3 w.heap.size W.heap.size sl l.length (evs (evL l))) (_hV : V = V) :
    ScP w (((W.setCell ⟨r, 0, none⟩ (.int .i64 a)).setCell ⟨r, 1, none⟩ (.int .i64 (b : Int))).setCell ⟨r, 2, none⟩ sl) (a, b, l) (.returned (.agg #[.int .i64 a, .int .i64 (b : Int), sl])) := by
  refine ⟨_, rfl, ⟨sl, rfl, ?_⟩, ((hb.setCell hw _).setCell hw _).setCell hw _⟩
  have := hs.turned (Turned.of_grown (E := (· = 40)) (lo := r) (hi := r + 1) (but_trans (but_trans (but_set W r 0 (.int .i64 a)) (but_set _ r 1 (.int .i64 (b : Int)))) (but_set _ r 2 sl)) (Nat.le_refl _) (Nat.lt_succ_self _) rfl hr) (.inl (by decide))
  simpa using this

set_option maxRecDepth 100000 in
set_option maxHeartbeats 2000000 in
theorem implRead_any (S : Int) (g n : Nat) (F T : Nat → Int) (t : List UInt8) (w : World) (hrow : Row w g 81 2 n (two F T)) (hL : LayR w) (hlen : t.length ≤ 1048576) :
    Calls Tryd.prog 17 #[.agg #[.int .i64 S, .slice (some ⟨g, 0, none⟩) n n], .string ⟨t.toArray⟩] w fun e w' => ScP w w' (rdZ S n F T t) e := by
  obtain ⟨R, hR⟩ : ∃ R, rdZ S n F T t = R := ⟨_, rfl⟩
  rw [hR]
  have HR : Hid _ := hR
  clear hR
  obtain ⟨W0, eW⟩ : ∃ W0, (w.alloc (.cells #[.int .i64 S, .slice (some ⟨g, 0, none⟩) n n] 31)).alloc (.cells #[.int .i64 0, .int .i64 0, .slice none 0 0] 40) = W0 := ⟨_, rfl⟩
  have bW : Below w.heap.size w W0 := by rw [← eW]; exact (by repeat (first | exact Below.refl _ _ | assumption | refine below_alloc ?_ _ | refine Below.setCell ?_ (by first | omega | (simp; done) | (simp; omega)) _ | refine Below.alloc ?_ (by first | omega | (simp; done) | (simp; omega)) _ | refine Below.drew ?_))
  have hP : ∀ W, Below W0.heap.size W0 W → W.cell? ⟨w.heap.size, 0, none⟩ = some (.int .i64 S) ∧ W.cell? ⟨w.heap.size, 1, none⟩ = some (.slice (some ⟨g, 0, none⟩) n n) := by
    have c0 : W0.cell? ⟨w.heap.size, 0, none⟩ = some (.int .i64 S) := by rw [← eW]; simp
    have c1 : W0.cell? ⟨w.heap.size, 1, none⟩ = some (.slice (some ⟨g, 0, none⟩) n n) := by rw [← eW]; simp
    exact fun W hb => ⟨by rw [hb.cell (block_lt_of_cell c0)]; exact c0, by rw [hb.cell (block_lt_of_cell c1)]; exact c1⟩
  obtain ⟨r, er⟩ : ∃ r, w.heap.size + 1 = r := ⟨_, rfl⟩
  have hW : Box3 W0 r 40 (.int .i64 0) (.int .i64 0) (.slice none 0 0) := by
    rw [← eW, ← er]
    have := Box3.lay (w.alloc (.cells #[.int .i64 S, .slice (some ⟨g, 0, none⟩) n n] 31)) (.int .i64 0) (.int .i64 0) (.slice none 0 0) 40
    rwa [World.size_alloc] at this
  have hwr : Hid (w.heap.size ≤ r) := by rw [← er]; exact Nat.le_succ _
  have kl := implLayoutOk_any S g n F T W0 (hrow.on bW)
  have EW : Hid _ := eW
  have ER : Hid _ := er
  have HP : Hid _ := hP
  have lL := hL.on bW
  clear eW er hP hrow
  by_cases hl : lokZ S n F T = 0
  · obtain ⟨r1, r2, r3⟩ := lok_range hl
    rw [hl] at kl
    go_enter Tryd.func17, Tryd.ntmps17
    go_upto_region 1 with fail
    rw [EW.out, ER.out]
    obtain ⟨x0, x1⟩ := HP.out W0 (Below.refl _ _)
    go_wp2_with fail
    refine kl.mono ?_
    clear kl
    rintro e w1 ⟨rfl, b1⟩
    have hx := hW.on b1
    have bw := below_on bW b1
    obtain ⟨x0, x1⟩ := HP.out w1 b1
    obtain ⟨y0, y1, y2⟩ := hx.cells
    have z0 := Blk.frozen hx 0
    have z1 := Blk.frozen hx 1
    have z2 := Blk.frozen hx 2
    by_cases hlong : 20000 < t.length
    · have hi : (20000 : Int) < (t.length : Int) := by omega
      obtain rfl := (rdZ_long hl hlong).symm.trans HR.out
      have FIN : Hid _ := read_end (V := w1) (a := 2) (b := 0) (sl := .slice none 0 0) (l := []) hx bw hwr.out ⟨none, 0, rfl, .inl rfl⟩ rfl
      have hx2 := hx.put (.int .i64 2) (.int .i64 0) (.slice none 0 0)
      obtain ⟨m0, m1, m2⟩ := hx2.cells
      clear hW b1 bW bw hx hx2 lL
      go_wp2
      exact bodyPost_ret (v := .agg #[.int .i64 2, .int .i64 0, .slice none 0 0]) (by simp [results, Tryd.results17, go_sem, m0, m1, m2]) rfl FIN.out
    · have hi : ¬ (20000 : Int) < (t.length : Int) := by omega
      have hR3 := (rdZ_scan (t := t) hl (by omega)).symm.trans HR.out
      have ks := scan_any S g n t w1 r3 (lL.on b1) (by omega)
      rw [hR3] at ks
      clear hW bW hR3 HR
      obtain ⟨A, B, l⟩ := R
      go_wp2_with fail
      refine ks.mono ?_
      clear ks
      rintro e w2 ⟨v, rfl, ⟨sl, rfl, hs⟩, b2⟩
      simp only at hs
      have hx2 := hx.on b2
      have bw2 := below_on bw b2
      obtain ⟨ao, cap, esl⟩ : ∃ ao cap, sl = .slice ao l.length cap := by
        obtain ⟨ao, cap, h, _⟩ := hs
        exact ⟨ao, cap, h⟩
      subst esl
      have FIN : Hid (ScP _ _ _ _) := read_end (V := w1) (a := A) (b := B) (l := l) hx2 bw2 hwr.out (hs.wide bw.size (Nat.le_refl _)) rfl
      have hx3 := hx2.put (.int .i64 A) (.int .i64 (B : Int)) (.slice ao l.length cap)
      obtain ⟨m0, m1, m2⟩ := hx3.cells
      obtain ⟨y0, y1, y2⟩ := hx2.cells
      have z0 := Blk.frozen hx2 0
      have z1 := Blk.frozen hx2 1
      have z2 := Blk.frozen hx2 2
      clear hs hx hx2 hx3 bw bw2 b1 b2 lL
      go_wp2
      exact bodyPost_ret (v := .agg #[.int .i64 A, .int .i64 (B : Int), .slice ao l.length cap]) (by simp [results, Tryd.results17, go_sem, m0, m1, m2]) rfl FIN.out
  · obtain rfl := (rdZ_lay hl).symm.trans HR.out
    clear HR
    obtain ⟨c, hc⟩ : ∃ c, lokZ S n F T = c := ⟨_, rfl⟩
    rw [hc] at kl hl
    clear hc
    go_enter Tryd.func17, Tryd.ntmps17
    go_upto_region 1 with fail
    rw [EW.out, ER.out]
    obtain ⟨x0, x1⟩ := HP.out W0 (Below.refl _ _)
    go_wp2_with fail
    refine kl.mono ?_
    clear kl
    rintro e w1 ⟨rfl, b1⟩
    have hx := hW.on b1
    have bw := below_on bW b1
    obtain ⟨y0, y1, y2⟩ := hx.cells
    have z0 := Blk.frozen hx 0
    have z1 := Blk.frozen hx 1
    have z2 := Blk.frozen hx 2
    have FIN : Hid _ := read_end (V := w1) (a := 1) (b := 0) (sl := .slice none 0 0) (l := []) hx bw hwr.out ⟨none, 0, rfl, .inl rfl⟩ rfl
    have hx2 := hx.put (.int .i64 1) (.int .i64 0) (.slice none 0 0)
    obtain ⟨m0, m1, m2⟩ := hx2.cells
    clear hW b1 bW bw hx hx2 lL
    go_wp2
    exact bodyPost_ret (v := .agg #[.int .i64 1, .int .i64 0, .slice none 0 0]) (by simp [results, Tryd.results17, go_sem, m0, m1, m2]) rfl FIN.out

end Go.Proofs.YtlpopfhaephfaabDoor
