import Derived.Test.YtlpopfhaephfaabGreatDoorQT
import Derived.Test.YtlpopfhaephfaabGreatDoorQS
import Derived.Lib.QuietBelow
import Derived.BigQuiet
import Derived.Deep.Cut
namespace Go.Proofs.YtlpopfhaephfaabGreatDoor
open Go.RowKit Go.Maps

theorem rdZ_lay {S : Int} {n : Nat} {F T : Nat → Int} {t : List UInt8} (h : ¬ lokZ S n F T = 0) : rdZ S n F T t = (1, 0, []) := by unfold rdZ; rw [if_neg h]
theorem rdZ_long {S : Int} {n : Nat} {F T : Nat → Int} {t : List UInt8} (h : lokZ S n F T = 0) (h2 : 20000 < t.length) : rdZ S n F T t = (2, 0, []) := by unfold rdZ; rw [if_pos h, if_neg (by omega)]
theorem rdZ_scan {S : Int} {n : Nat} {F T : Nat → Int} {t : List UInt8} (h : lokZ S n F T = 0) (h2 : t.length ≤ 20000) : rdZ S n F T t = rdO (rdL S n (t.length + 1) t []) := by
  unfold rdZ rdO; rw [if_pos h, if_pos h2]
  cases rdL S n (t.length + 1) t [] <;> rfl

/-- An answer that is laid into its own block. -/
theorem read_end {w V W : World} {r : Nat} {x y z : Value} {a : Int} {b : Nat} {sl : Value} {l : List (Int × Int × Int)} (hr : Box3 W r 36 x y z) (hb : Below w.heap.size w W) (hw : w.heap.size ≤ r)
    (hs : SlF W 64 3 w.heap.size W.heap.size sl l.length (evs (evL l))) (_hV : V = V) :
    ScP w (((W.setCell ⟨r, 0, none⟩ (.int .i64 a)).setCell ⟨r, 1, none⟩ (.int .i64 (b : Int))).setCell ⟨r, 2, none⟩ sl) (a, b, l) (.returned (.agg #[.int .i64 a, .int .i64 (b : Int), sl])) := by
  refine ⟨_, rfl, ⟨sl, rfl, ?_⟩, ((hb.setCell hw _).setCell hw _).setCell hw _⟩
  have := hs.turned (Turned.of_grown (E := (· = 36)) (lo := r) (hi := r + 1) (but_trans (but_trans (but_set W r 0 (.int .i64 a)) (but_set _ r 1 (.int .i64 (b : Int)))) (but_set _ r 2 sl)) (Nat.le_refl _) (Nat.lt_succ_self _) rfl hr) (.inl (by decide))
  simpa using this

set_option maxRecDepth 100000 in
set_option maxHeartbeats 2000000 in
theorem implRead_any (S : Int) (g n : Nat) (F T : Nat → Int) (t : List UInt8) (w : World) (hrow : Row w g 71 2 n (two F T)) (hL : LayR w) (hlen : t.length ≤ 1048576) :
    Calls Tryz.prog 14 #[.agg #[.int .i64 S, .slice (some ⟨g, 0, none⟩) n n], .string ⟨t.toArray⟩] w fun e w' => ScP w w' (rdZ S n F T t) e := by
  obtain ⟨R, hR⟩ : ∃ R, rdZ S n F T t = R := ⟨_, rfl⟩
  rw [hR]
  have HR : Hid _ := hR
  clear hR
  obtain ⟨W0, eW⟩ : ∃ W0, (w.alloc (.cells #[.int .i64 S, .slice (some ⟨g, 0, none⟩) n n] 29)).alloc (.cells #[.int .i64 0, .int .i64 0, .slice none 0 0] 36) = W0 := ⟨_, rfl⟩
  have bW : Below w.heap.size w W0 := by rw [← eW]; exact (by repeat (first | exact Below.refl _ _ | assumption | refine below_alloc ?_ _ | refine Below.setCell ?_ (by first | omega | (simp; done) | (simp; omega)) _ | refine Below.alloc ?_ (by first | omega | (simp; done) | (simp; omega)) _ | refine Below.drew ?_))
  have hP : ∀ W, Below W0.heap.size W0 W → W.cell? ⟨w.heap.size, 0, none⟩ = some (.int .i64 S) ∧ W.cell? ⟨w.heap.size, 1, none⟩ = some (.slice (some ⟨g, 0, none⟩) n n) := by
    have c0 : W0.cell? ⟨w.heap.size, 0, none⟩ = some (.int .i64 S) := by rw [← eW]; simp
    have c1 : W0.cell? ⟨w.heap.size, 1, none⟩ = some (.slice (some ⟨g, 0, none⟩) n n) := by rw [← eW]; simp
    exact fun W hb => ⟨by rw [hb.cell (block_lt_of_cell c0)]; exact c0, by rw [hb.cell (block_lt_of_cell c1)]; exact c1⟩
  obtain ⟨r, er⟩ : ∃ r, w.heap.size + 1 = r := ⟨_, rfl⟩
  have hW : Box3 W0 r 36 (.int .i64 0) (.int .i64 0) (.slice none 0 0) := by
    rw [← eW, ← er]
    have := Box3.lay (w.alloc (.cells #[.int .i64 S, .slice (some ⟨g, 0, none⟩) n n] 29)) (.int .i64 0) (.int .i64 0) (.slice none 0 0) 36
    rwa [World.size_alloc] at this
  have hwr : Hid (w.heap.size ≤ r) := by rw [← er]; exact Nat.le_succ _
  have kl := implLayoutOk_any S g n F T W0 (hrow.on bW)
  have EW : Hid _ := eW
  have ER : Hid _ := er
  have HP : Hid _ := hP
  have lL := hL.on bW
  clear eW er hP hrow
  by_cases hl : lokZ S n F T = 0
  · obtain ⟨r1, r2, r3⟩ := lok_range hl
    rw [hl] at kl
    go_enter Tryz.func14, Tryz.ntmps14
    go_upto_region 1 with fail
    rw [EW.out, ER.out]
    obtain ⟨x0, x1⟩ := HP.out W0 (Below.refl _ _)
    go_wp2_with fail
    refine kl.mono ?_
    clear kl
    rintro e w1 ⟨rfl, b1⟩
    have hx := hW.on b1
    have bw := below_on bW b1
    obtain ⟨x0, x1⟩ := HP.out w1 b1
    obtain ⟨y0, y1, y2⟩ := hx.cells
    have z0 := Blk.frozen hx 0
    have z1 := Blk.frozen hx 1
    have z2 := Blk.frozen hx 2
    by_cases hlong : 20000 < t.length
    · have hi : (20000 : Int) < (t.length : Int) := by omega
      obtain rfl := (rdZ_long hl hlong).symm.trans HR.out
      have FIN : Hid _ := read_end (V := w1) (a := 2) (b := 0) (sl := .slice none 0 0) (l := []) hx bw hwr.out ⟨none, 0, rfl, .inl rfl⟩ rfl
      have hx2 := hx.put (.int .i64 2) (.int .i64 0) (.slice none 0 0)
      obtain ⟨m0, m1, m2⟩ := hx2.cells
      clear hW b1 bW bw hx hx2 lL
      go_wp2
      exact bodyPost_ret (v := .agg #[.int .i64 2, .int .i64 0, .slice none 0 0]) (by simp [results, Tryz.results14, go_sem, m0, m1, m2]) rfl FIN.out
    · have hi : ¬ (20000 : Int) < (t.length : Int) := by omega
      have hR3 := (rdZ_scan (t := t) hl (by omega)).symm.trans HR.out
      have ks := scan_any S g n t w1 r3 (lL.on b1) (by omega)
      rw [hR3] at ks
      clear hW bW hR3 HR
      obtain ⟨A, B, l⟩ := R
      go_wp2_with fail
      refine ks.mono ?_
      clear ks
      rintro e w2 ⟨v, rfl, ⟨sl, rfl, hs⟩, b2⟩
      simp only at hs
      have hx2 := hx.on b2
      have bw2 := below_on bw b2
      obtain ⟨ao, cap, esl⟩ : ∃ ao cap, sl = .slice ao l.length cap := by
        obtain ⟨ao, cap, h, _⟩ := hs
        exact ⟨ao, cap, h⟩
      subst esl
      have FIN : Hid (ScP _ _ _ _) := read_end (V := w1) (a := A) (b := B) (l := l) hx2 bw2 hwr.out (hs.wide bw.size (Nat.le_refl _)) rfl
      have hx3 := hx2.put (.int .i64 A) (.int .i64 (B : Int)) (.slice ao l.length cap)
      obtain ⟨m0, m1, m2⟩ := hx3.cells
      obtain ⟨y0, y1, y2⟩ := hx2.cells
      have z0 := Blk.frozen hx2 0
      have z1 := Blk.frozen hx2 1
      have z2 := Blk.frozen hx2 2
      clear hs hx hx2 hx3 bw bw2 b1 b2 lL
      go_wp2
      exact bodyPost_ret (v := .agg #[.int .i64 A, .int .i64 (B : Int), .slice ao l.length cap]) (by simp [results, Tryz.results14, go_sem, m0, m1, m2]) rfl FIN.out
  · obtain rfl := (rdZ_lay hl).symm.trans HR.out
    clear HR
    obtain ⟨c, hc⟩ : ∃ c, lokZ S n F T = c := ⟨_, rfl⟩
    rw [hc] at kl hl
    clear hc
    go_enter Tryz.func14, Tryz.ntmps14
    go_upto_region 1 with fail
    rw [EW.out, ER.out]
    obtain ⟨x0, x1⟩ := HP.out W0 (Below.refl _ _)
    go_wp2_with fail
    refine kl.mono ?_
    clear kl
    rintro e w1 ⟨rfl, b1⟩
    have hx := hW.on b1
    have bw := below_on bW b1
    obtain ⟨y0, y1, y2⟩ := hx.cells
    have z0 := Blk.frozen hx 0
    have z1 := Blk.frozen hx 1
    have z2 := Blk.frozen hx 2
    have FIN : Hid _ := read_end (V := w1) (a := 1) (b := 0) (sl := .slice none 0 0) (l := []) hx bw hwr.out ⟨none, 0, rfl, .inl rfl⟩ rfl
    have hx2 := hx.put (.int .i64 1) (.int .i64 0) (.slice none 0 0)
    obtain ⟨m0, m1, m2⟩ := hx2.cells
    clear hW b1 bW bw hx hx2 lL
    go_wp2
    exact bodyPost_ret (v := .agg #[.int .i64 1, .int .i64 0, .slice none 0 0]) (by simp [results, Tryz.results14, go_sem, m0, m1, m2]) rfl FIN.out

end Go.Proofs.YtlpopfhaephfaabGreatDoor

namespace Go.Proofs.YtlpopfhaephfaabGreatDoor
open Go.RowKit

set_option maxRecDepth 100000 in
theorem l4decimal_any (n : Int) (h0 : 0 ≤ n) (h1 : n ≤ 1000000) (w : World) :
    Calls Tryz.prog 11 #[.int .i64 n] w fun e w' => e = .returned (.string ⟨(Lib.itoa n).toArray⟩) ∧ Below w.heap.size w w' := by
  rcases (show n = 0 ∨ 0 < n by omega) with rfl | hp
  · rw [show Lib.itoa 0 = [48] from by decide +kernel]
    go_enter Tryz.func11, Tryz.ntmps11
    go_wp2
    go_ret
    exact ⟨rfl, Below.refl _ _⟩
  · obtain ⟨u, rfl⟩ : ∃ u : Nat, n = (u : Int) := ⟨n.toNat, by omega⟩
    have hu : 0 < u := by omega
    have e0 : Lib.itoa (u : Int) = decD u := itoa_dec hu
    have hlen := Lib.itoa_length_le (u : Int) (by omega) (by omega)
    rw [e0] at hlen ⊢
    have n0 : ¬ ((u : Int) = 0) := by omega
    have n1 : ¬ ((u : Int) < 0) := by omega
    have hlen : Hid ((decD u).length ≤ 21) := hlen
    clear e0 hu hp h0
    go_enter Tryz.func11, Tryz.ntmps11
    go_wp2
    go_loopw [0, 4] (fun x o wr => ∃ (k : Nat) (l : List UInt8), x = .int .i64 (k : Int) ∧ o = .string ⟨l.toArray⟩ ∧ k ≤ u ∧ decD k ++ l = decD u ∧ Below w.heap.size w wr) (fun x _ _ => (intOf x).toNat)
    case atStart => exact ⟨u, [], rfl, rfl, Nat.le_refl _, by simp, Below.refl _ _⟩
    case round =>
      obtain ⟨k, l, rfl, rfl, hk, hl, hb⟩ := hrel
      rename World => wr
      have hll : l.length ≤ 21 := by have := congrArg List.length hl; have := hlen.out; simp at *; omega
      rcases Nat.eq_zero_or_pos k with rfl | hkp
      · have hz : ¬ (0 : Int) < 0 := by omega
        have hl : Hid _ := hl
        go_wp2
        go_ret
        have e1 := hl.out
        simp only [decD, if_true, List.nil_append] at e1
        exact ⟨by rw [e1]; rfl, hb⟩
      · have hz : (0 : Int) < (k : Int) := by omega
        obtain ⟨c, hc⟩ : ∃ c, UInt8.ofNat (48 + k % 10) = c := ⟨_, rfl⟩
        have hcn : (c.toNat : Int) = 48 + (k : Int) % 10 := by
          rw [← hc, UInt8.toNat_ofNat']
          omega
        have hcv : (convert 40 9 (.slice (some ⟨wr.heap.size, 0, none⟩) 1 1)).run Tryz.prog (wr.alloc (.cells #[.int .u8 (48 + (k : Int) % 10)] 5)) = .ok (.string ⟨[c].toArray⟩) (wr.alloc (.cells #[.int .u8 (48 + (k : Int) % 10)] 5)) :=
          run_convert_bytes_back _ _ _ 5 ⟨wr.heap.size, 0, none⟩ 1 [c] Tryz.underlying40 Tryz.underlying5 Tryz.underlying9 (fun j hj => by
            obtain rfl : j = 0 := by simpa using hj
            show (wr.alloc _).cell? ⟨wr.heap.size, 0 + 0, none⟩ = _
            simp [hcn])
        have hadd : ∀ W : World, (Op.stringOp .add ⟨[c].toArray⟩ ⟨l.toArray⟩).run Tryz.prog W = .ok (.string ⟨(c :: l).toArray⟩) W := fun W => run_string_add_lists W [c] l (by simp) (by omega)
        have hl2 : Hid (decD (k / 10) ++ c :: l = decD u) := by
          have := decD_step hkp
          rw [this, List.append_assoc, hc] at hl
          exact hl
        have hbb : Below w.heap.size w (wr.alloc (.cells #[.int .u8 (48 + (k : Int) % 10)] 5)) := below_alloc hb _
        clear hl hc hcn
        go_wp2
        exact ⟨⟨k / 10, c :: l, by simp, rfl, by omega, hl2.out, hbb⟩, by simp [intOf]; omega⟩

/-- The words' cells. -/
def wordsA : Array Value := #[.string ⟨#[]⟩, .string ⟨#[112, 97, 115, 115]⟩, .string ⟨#[103, 104, 111, 115, 116]⟩, .string ⟨#[100, 101, 97, 100]⟩, .string ⟨#[97, 108, 105, 118, 101]⟩, .string ⟨#[114, 101, 115, 101, 116]⟩]

theorem wordsA_at {o : Nat} (h : o < 6) : wordsA[o]? = some (.string ⟨(wordB (o : Int)).toArray⟩) := by
  rcases (show o = 0 ∨ o = 1 ∨ o = 2 ∨ o = 3 ∨ o = 4 ∨ o = 5 by omega) with rfl | rfl | rfl | rfl | rfl | rfl <;> rfl

theorem l4words_any (w : World) : Calls Tryz.prog 37 #[] w fun e w' => e = .returned (.slice (some ⟨w.heap.size, 0, none⟩) 6 6) ∧ w' = w.alloc (.cells wordsA 9) := by
  go_enter Tryz.func37, Tryz.ntmps37
  go_wp2
  go_ret
  exact ⟨rfl, rfl⟩

set_option maxRecDepth 100000 in
set_option maxHeartbeats 1000000 in
theorem l4line_any (op f d : Int) (o1 : 1 ≤ op) (o2 : op ≤ 5) (f0 : 0 ≤ f) (f1 : f ≤ 1000000) (hd : d = 1 ∨ d = -1 ∨ d = 0) (w : World) :
    Calls Tryz.prog 39 #[.agg #[.int .i64 op, .int .i64 f, .int .i64 d]] w fun e w' => e = .returned (.string ⟨(lineB op f d).toArray⟩) ∧ Below w.heap.size w w' := by
  obtain ⟨o, rfl⟩ : ∃ o : Nat, op = (o : Int) := ⟨op.toNat, by omega⟩
  obtain ⟨wb, hwb⟩ : ∃ wb, wordB (o : Int) = wb := ⟨_, rfl⟩
  obtain ⟨nb, hnb⟩ : ∃ nb, Lib.itoa f = nb := ⟨_, rfl⟩
  have lw : wb.length ≤ 5 := by rw [← hwb]; exact wordB_length _
  have ln : nb.length ≤ 21 := by rw [← hnb]; exact Lib.itoa_length_le f (by omega) (by omega)
  obtain ⟨s1, hs1⟩ : ∃ s1, wb ++ [32] = s1 := ⟨_, rfl⟩
  obtain ⟨s2, hs2⟩ : ∃ s2, s1 ++ nb = s2 := ⟨_, rfl⟩
  obtain ⟨s3, hs3⟩ : ∃ s3, s2 ++ signB d = s3 := ⟨_, rfl⟩
  have e0 : lineB (o : Int) f d = s3 := by rw [← hs3, ← hs2, ← hs1]; unfold lineB; rw [hwb, hnb]; simp
  have l1 : s1.length ≤ 6 := by rw [← hs1]; simp; omega
  have l2 : s2.length ≤ 27 := by rw [← hs2]; simp; omega
  obtain ⟨W, hW⟩ : ∃ W, (w.alloc (.cells #[.int .i64 (o : Int), .int .i64 f, .int .i64 d] 64)).alloc (.cells wordsA 9) = W := ⟨_, rfl⟩
  have bW : Below w.heap.size w W := by rw [← hW]; exact below_alloc (below_alloc (Below.refl _ _) _) _
  have c0 : W.cell? ⟨w.heap.size, 0, none⟩ = some (.int .i64 (o : Int)) := by rw [← hW]; simp
  have c1 : W.cell? ⟨w.heap.size, 1, none⟩ = some (.int .i64 f) := by rw [← hW]; simp
  have c2 : W.cell? ⟨w.heap.size, 2, none⟩ = some (.int .i64 d) := by rw [← hW]; simp
  have cw : W.cell? ⟨w.heap.size + 1, o, none⟩ = some (.string ⟨wb.toArray⟩) := by
    rw [← hW, ← hwb]
    have := wordsA_at (o := o) (by omega)
    simp [this]
  have kc := fun dd os => Calls.regrown_of (l4decimal_any f f0 f1 (Sort.grow (redrawn W dd) os))
  rw [hnb] at kc
  have k0 := cell_regrown c0
  have k1 := cell_regrown c1
  have kw := cell_regrown cw
  have hw6 : (o : Int) < 6 := by omega
  have hadd1 : ∀ X : World, (Op.stringOp .add ⟨wb.toArray⟩ ⟨#[32]⟩).run Tryz.prog X = .ok (.string ⟨s1.toArray⟩) X := fun X => by rw [← hs1]; exact run_string_add_lists X wb [32] (by omega) (by simp)
  have hadd2 : ∀ X : World, (Op.stringOp .add ⟨s1.toArray⟩ ⟨nb.toArray⟩).run Tryz.prog X = .ok (.string ⟨s2.toArray⟩) X := fun X => by rw [← hs2]; exact run_string_add_lists X s1 nb (by omega) (by omega)
  rw [e0]
  have HW : Hid _ := hW
  have HS : Hid _ := hs3
  clear hW hwb hnb o2 e0 hs1 hs2 hs3
  go_enter Tryz.func39, Tryz.ntmps39
  go_wp2_with fail
  refine (l4words_any _).mono ?_
  rintro e w1 ⟨rfl, rfl⟩
  go_upto_region 2 with fail
  rw [HW.out]
  refine wp_region_quiet_below (by kernel_rfl) (by kernel_rfl) ?_
  repeat (go_big_quiet_step (first | with_reducible exact kc _ _))
  refine wpQuiet_nil ?_
  intro _ hw'
  obtain ⟨⟨dq, osq⟩, hw''⟩ := hw'
  have hBq := below_on bW (below_regrown W dq osq)
  have j2 := cell_regrown c2 dq osq
  subst hw''
  clear kc k0 k1 kw c0 c1 c2 cw HW bW
  generalize Sort.grow (redrawn W dq) osq = wq at *
  rcases hd with rfl | rfl | rfl
  · have hs : s2 ++ [32, 43] = s3 := HS.out
    have hadd3 : ∀ X : World, (Op.stringOp .add ⟨s2.toArray⟩ ⟨#[32, 43]⟩).run Tryz.prog X = .ok (.string ⟨s3.toArray⟩) X := fun X => by rw [← hs]; exact run_string_add_lists X s2 [32, 43] (by omega) (by simp)
    clear hs
    go_wp2
    go_ret
    exact ⟨rfl, hBq⟩
  · have hs : s2 ++ [32, 45] = s3 := HS.out
    have hadd3 : ∀ X : World, (Op.stringOp .add ⟨s2.toArray⟩ ⟨#[32, 45]⟩).run Tryz.prog X = .ok (.string ⟨s3.toArray⟩) X := fun X => by rw [← hs]; exact run_string_add_lists X s2 [32, 45] (by omega) (by simp)
    clear hs
    go_wp2
    go_ret
    exact ⟨rfl, hBq⟩
  · have hs : s2 ++ [] = s3 := HS.out
    rw [List.append_nil] at hs
    subst hs
    go_wp2
    go_ret
    exact ⟨rfl, hBq⟩

end Go.Proofs.YtlpopfhaephfaabGreatDoor

namespace Go.Proofs.YtlpopfhaephfaabGreatDoor
open Go.RowKit

theorem evB_of {S : Int} {n : Nat} {op f d : Int} (h : evB S n op f d = true) : f < (n : Int) ∨ f < S := by
  unfold evB at h
  repeat' split at h
  all_goals simp at h
  all_goals omega

theorem Box3.putv {w : World} {b : Nat} {e : TypeId} {x y z : Value} (h : Box3 w b e x y z) (x' y' z' : Value) : Box3 (((w.setCell ⟨b, 0, none⟩ x').setCell ⟨b, 1, none⟩ y').setCell ⟨b, 2, none⟩ z') b e x' y' z' :=
  (((Blk.set h 0 x').set 1 y').set 2 z').congr fun i hi => by
    match i, hi with
    | 0, _ => rfl
    | 1, _ => rfl
    | 2, _ => rfl

/-- What the model finds of a line. -/
def leV (M : Option (Int × Int × Int)) : Value :=
  match M with
  | some (op, f, d) => .tuple #[.agg #[.int .i64 op, .int .i64 f, .int .i64 d], .bool true]
  | none => .tuple #[.agg #[.int .i64 0, .int .i64 0, .int .i64 0], .bool false]

set_option maxRecDepth 100000 in
set_option maxHeartbeats 4000000 in
theorem l4event_any (S : Int) (g n : Nat) (F T : Nat → Int) (line : List UInt8) (w : World) (hrow : Row w g 71 2 n (two F T)) (hl : lokZ S n F T = 0) :
    Calls Tryz.prog 22 #[.agg #[.int .i64 S, .slice (some ⟨g, 0, none⟩) n n], .string ⟨line.toArray⟩] w fun e w' => e = .returned (leV (parB S n line)) ∧ Below w.heap.size w w' := by
  obtain ⟨r1, r2, r3⟩ := lok_range hl
  obtain ⟨M, hM⟩ : ∃ M, parB S n line = M := ⟨_, rfl⟩
  have hsome : ∀ op f d, M = some (op, f, d) → evB S n op f d = true ∧ lineB op f d = line := fun op f d h => parB_some (hM.trans h)
  have hback : ∀ op f d, evB S n op f d = true → lineB op f d = line → M = some (op, f, d) := fun op f d h1 h2 => by
    rw [← hM, ← h2]; exact parB_line h1 r3 r2
  rw [hM]
  obtain ⟨V, eV⟩ : ∃ V, (w.alloc (.cells #[.int .i64 S, .slice (some ⟨g, 0, none⟩) n n] 29)).alloc (.cells #[.int .i64 0, .int .i64 0, .int .i64 0] 64) = V := ⟨_, rfl⟩
  have bV : Below w.heap.size w V := by rw [← eV]; exact (by repeat (first | exact Below.refl _ _ | assumption | refine below_alloc ?_ _ | refine Below.setCell ?_ (by first | omega | (simp; done) | (simp; omega)) _ | refine Below.alloc ?_ (by first | omega | (simp; done) | (simp; omega)) _ | refine Below.drew ?_))
  have hP : ∀ W, Below V.heap.size V W → (W.cell? ⟨w.heap.size, 0, none⟩ = some (.int .i64 S) ∧ W.cell? ⟨w.heap.size, 1, none⟩ = some (.slice (some ⟨g, 0, none⟩) n n)) ∧ Row W g 71 2 n (two F T) := by
    have c0 : V.cell? ⟨w.heap.size, 0, none⟩ = some (.int .i64 S) := by rw [← eV]; simp
    have c1 : V.cell? ⟨w.heap.size, 1, none⟩ = some (.slice (some ⟨g, 0, none⟩) n n) := by rw [← eV]; simp
    exact fun W hb => ⟨⟨by rw [hb.cell (block_lt_of_cell c0)]; exact c0, by rw [hb.cell (block_lt_of_cell c1)]; exact c1⟩, hrow.on (below_on bV hb)⟩
  obtain ⟨r, er⟩ : ∃ r, w.heap.size + 1 = r := ⟨_, rfl⟩
  have hR : Box3 V r 64 (.int .i64 0) (.int .i64 0) (.int .i64 0) := by
    rw [← eV, ← er]
    have := Box3.lay (w.alloc (.cells #[.int .i64 S, .slice (some ⟨g, 0, none⟩) n n] 29)) (.int .i64 0) (.int .i64 0) (.int .i64 0) 64
    rwa [World.size_alloc] at this
  obtain ⟨most, em⟩ : ∃ most : Int, most = if (n : Int) < S then S else (n : Int) := ⟨_, rfl⟩
  have hmost : most ≤ 120 ∧ (n : Int) ≤ most ∧ S ≤ most := by rw [em]; split <;> omega
  have hwr : Hid (w.heap.size < r ∧ r < V.heap.size) := ⟨by rw [← er]; omega, Blk.lt hR⟩
  have EV : Hid _ := eV
  have ER : Hid _ := er
  have HP : Hid _ := hP
  have HS : Hid _ := hsome
  have HB : Hid _ := hback
  clear eV er hP hsome hback hM hrow
  go_enter Tryz.func22, Tryz.ntmps22
  go_upto_region 1 with fail
  rw [EV.out, ER.out]
  obtain ⟨⟨x0, x1⟩, _⟩ := HP.out V (Below.refl _ _)
  rcases (show (most = S ∧ (n : Int) < S) ∨ (most = (n : Int) ∧ ¬ (n : Int) < S) by rw [em]; split <;> omega) with ⟨em', hc⟩ | ⟨em', hc⟩
  all_goals
    have EM : Hid _ := em'
    clear em em'
    go_wp2
    clear x0 x1
    go_loopw [7] (fun i wr => ∃ o : Nat, 1 ≤ o ∧ o ≤ 6 ∧ i = .int .i64 (o : Int) ∧ Box3 wr r 64 (.int .i64 0) (.int .i64 0) (.int .i64 0) ∧ Below V.heap.size V wr ∧ Hid (∀ op f d, M = some (op, f, d) → (o : Int) ≤ op)) (fun i _ => 6 - (intOf i).toNat)
    case atStart => exact ⟨1, by omega, by omega, rfl, hR, Below.refl _ _, fun op f d h => (evB_range (HS.out op f d h).1 r3 r2).1.1⟩
    case round =>
      obtain ⟨o, h1, h6, rfl, hb, Bw, hH⟩ := hrel
      by_cases ho : o ≤ 5
      · have hi1 : (o : Int) ≤ 5 := by omega
        obtain ⟨wb, hwb⟩ : ∃ wb, wordB (o : Int) = wb := ⟨_, rfl⟩
        have lw : wb.length ≤ 5 := by rw [← hwb]; exact wordB_length _
        obtain ⟨s1, hs1⟩ : ∃ s1, wb ++ [32] = s1 := ⟨_, rfl⟩
        have l1 : s1.length ≤ 6 := by rw [← hs1]; simp; omega
        have hadd1 : ∀ X : World, (Op.stringOp .add ⟨wb.toArray⟩ ⟨#[32]⟩).run Tryz.prog X = .ok (.string ⟨s1.toArray⟩) X := fun X => by rw [← hs1]; exact run_string_add_lists X wb [32] (by omega) (by simp)
        have cw : (wr.alloc (.cells wordsA 9)).cell? ⟨wr.heap.size, o, none⟩ = some (.string ⟨wb.toArray⟩) := by
          rw [← hwb]
          have := wordsA_at (o := o) (by omega)
          simp [this]
        have hw6 : (o : Int) < 6 := by omega
        have hpre : Hid (∀ f d, M = some ((o : Int), f, d) → s1.length ≤ line.length ∧ line.take s1.length = s1) := fun f d h => by
          have := (HS.out _ f d h).2
          have e : line = s1 ++ (Lib.itoa f ++ signB d) := by rw [← this, ← hs1, ← hwb]; simp [lineB]
          rw [e]
          simp
        have bW := below_alloc Bw (.cells wordsA 9)
        have hbW := hb.alloc (.cells wordsA 9)
        clear hs1 hwb hb Bw
        go_wp2_with fail
        refine (l4words_any _).mono ?_
        rintro e w1 ⟨rfl, rfl⟩
        by_cases hlt : line.length < s1.length
        · have hi2 : (line.length : Int) < (s1.length : Int) := by omega
          have hN : Hid (∀ op f d, M = some (op, f, d) → ((o + 1 : Nat) : Int) ≤ op) := fun op f d h => by
            have h3 := hH.out op f d h
            by_cases h4 : op = (o : Int)
            · subst h4
              have := (hpre.out f d h).1
              omega
            · omega
          go_wp2
          exact ⟨⟨o + 1, by omega, by omega, by simp, hbW, bW, hN⟩, by simp [intOf]; omega⟩
        · have hi2 : ¬ (line.length : Int) < (s1.length : Int) := by omega
          have hex : ((⟨line.toArray⟩ : ByteArray).extract 0 s1.length).toList = line.take s1.length := by rw [ByteArray.toList_eq, Lib.extract_from_zero]
          by_cases htk : line.take s1.length = s1
          · have hq : (line.take s1.length == s1) = true := by simpa using htk
            clear hpre htk
            go_wp2
            clear hex hq cw hadd1
            go_loopw [10] (fun i wr => ∃ fv : Nat, i = .int .i64 (fv : Int) ∧ Box3 wr r 64 (.int .i64 0) (.int .i64 0) (.int .i64 0) ∧ Below V.heap.size V wr ∧ Hid (∀ op f d, M = some (op, f, d) → (o : Int) ≤ op ∧ (op = (o : Int) → (fv : Int) ≤ f))) (fun i _ => most.toNat - (intOf i).toNat)
            case atStart => exact ⟨0, rfl, hbW, bW, fun op f d h => ⟨hH.out op f d h, fun _ => (evB_range (HS.out op f d h).1 r3 r2).2.1.1⟩⟩
            case round =>
              clear hbW bW hH
              obtain ⟨fv, rfl, hb, Bw, hH⟩ := hrel
              by_cases hf : (fv : Int) < most
              · have hf2 := hf
                rw [EM.out] at hf2
                have hfm : fv < 120 := by omega
                go_wp2
                go_loopw [11] (fun i wr => ∃ dv : Int, -1 ≤ dv ∧ dv ≤ 2 ∧ i = .int .i64 dv ∧ Box3 wr r 64 (.int .i64 0) (.int .i64 0) (.int .i64 0) ∧ Below V.heap.size V wr ∧ Hid (∀ op f d, M = some (op, f, d) → (o : Int) ≤ op ∧ (op = (o : Int) → (fv : Int) ≤ f ∧ (f = (fv : Int) → dv ≤ d)))) (fun i _ => (2 - intOf i).toNat)
                case atStart => exact ⟨-1, by omega, by omega, rfl, hb, Bw, fun op f d h => ⟨(hH.out op f d h).1, fun h2 => ⟨(hH.out op f d h).2 h2, fun _ => by have := (evB_range (HS.out op f d h).1 r3 r2).2.2; omega⟩⟩⟩
                case round =>
                  clear hb Bw hH
                  obtain ⟨dv, d1, d2, rfl, hb, Bw, hH⟩ := hrel
                  by_cases hd : dv ≤ 1
                  · obtain ⟨⟨x0, x1⟩, ro⟩ := HP.out wr Bw
                    have ke := specEventOk_any S (o : Int) (fv : Int) dv g n F T _ (ro.alloc (.cells #[.int .i64 (o : Int), .int .i64 (fv : Int), .int .i64 dv] 64))
                    have eE : evOk S n F T (o : Int) (fv : Int) dv = evB S n (o : Int) (fv : Int) dv := by unfold evOk; rw [hl]; simp
                    rw [eE] at ke
                    have bA := below_alloc (Below.refl wr.heap.size wr) (.cells #[.int .i64 (o : Int), .int .i64 (fv : Int), .int .i64 dv] 64)
                    have eA := Box3.lay wr (.int .i64 (o : Int)) (.int .i64 (fv : Int)) (.int .i64 dv) 64
                    have lw0 : w.heap.size < wr.heap.size := by have := Bw.size; have := hwr.out; omega
                    clear eE ro
                    cases hv : evB S n (o : Int) (fv : Int) dv with
                    | false =>
                      rw [hv] at ke
                      have hN : Hid (∀ op f d, M = some (op, f, d) → (o : Int) ≤ op ∧ (op = (o : Int) → (fv : Int) ≤ f ∧ (f = (fv : Int) → dv + 1 ≤ d))) := fun op f d h => by
                        have h3 := hH.out op f d h
                        refine ⟨h3.1, fun h4 => ⟨(h3.2 h4).1, fun h5 => ?_⟩⟩
                        have h6 := (h3.2 h4).2 h5
                        by_cases h7 : d = dv
                        · subst h7; subst h5; subst h4
                          have := (HS.out _ _ _ h).1
                          rw [hv] at this
                          cases this
                        · omega
                      clear hv hH
                      go_wp2_with fail
                      refine ke.mono ?_
                      clear ke
                      rintro e w4 ⟨rfl, b4⟩
                      have hb4 := hb.on (below_on bA b4)
                      have B4 := below_on Bw (below_on bA b4)
                      clear hb Bw bA b4 eA
                      go_wp2
                      exact ⟨⟨dv + 1, by omega, by omega, rfl, hb4, B4, hN⟩, by simp [intOf]; omega⟩
                    | true =>
                      rw [hv] at ke
                      have kl := fun W => l4line_any (o : Int) (fv : Int) dv (by omega) (by omega) (by omega) (by omega) (by omega) W
                      by_cases heq : lineB (o : Int) (fv : Int) dv = line
                      · have hMs := HB.out _ _ _ hv heq
                        subst hMs
                        rw [heq] at kl
                        clear hv hH heq HS HB
                        go_wp2_with fail
                        refine ke.mono ?_
                        clear ke
                        rintro e w4 ⟨rfl, b4⟩
                        obtain ⟨a0, a1, a2⟩ := (eA.on b4).cells
                        go_wp2_with fail
                        refine (kl _).mono ?_
                        clear kl
                        rintro e w5 ⟨rfl, b5⟩
                        have B5 := below_on bA (below_on b4 b5)
                        have hb5 := hb.on B5
                        obtain ⟨a0, a1, a2⟩ := ((eA.on b4).on b5).cells
                        obtain ⟨y0, y1, y2⟩ := hb5.cells
                        have z0 := Blk.frozen hb5 0
                        have z1 := Blk.frozen hb5 1
                        have z2 := Blk.frozen hb5 2
                        have hx2 := Box3.putv hb5 (.int .i64 (o : Int)) (.int .i64 (fv : Int)) (.int .i64 dv)
                        obtain ⟨m0, m1, m2⟩ := hx2.cells
                        have FIN := below_on bV (below_on Bw B5)
                        have F2 : Hid (Below w.heap.size w (((w5.setCell ⟨r, 0, none⟩ (.int .i64 (o : Int))).setCell ⟨r, 1, none⟩ (.int .i64 (fv : Int))).setCell ⟨r, 2, none⟩ (.int .i64 dv))) := ((FIN.setCell (Nat.le_of_lt hwr.out.1) _).setCell (Nat.le_of_lt hwr.out.1) _).setCell (Nat.le_of_lt hwr.out.1) _
                        have hne : ¬ wr.heap.size = r := by have := hwr.out; have := Bw.size; omega
                        clear hx2 hb5 hb Bw FIN bA b4 b5 B5 eA
                        go_wp2
                        exact bodyPost_ret (v := .tuple #[.agg #[.int .i64 (o : Int), .int .i64 (fv : Int), .int .i64 dv], .bool true]) (by simp [results, Tryz.results22, go_sem, m0, m1, m2]) rfl ⟨rfl, F2.out⟩
                      · have hN : Hid (∀ op f d, M = some (op, f, d) → (o : Int) ≤ op ∧ (op = (o : Int) → (fv : Int) ≤ f ∧ (f = (fv : Int) → dv + 1 ≤ d))) := fun op f d h => by
                          have h3 := hH.out op f d h
                          refine ⟨h3.1, fun h4 => ⟨(h3.2 h4).1, fun h5 => ?_⟩⟩
                          have h6 := (h3.2 h4).2 h5
                          by_cases h7 : d = dv
                          · subst h7; subst h5; subst h4
                            exact absurd (HS.out _ _ _ h).2 heq
                          · omega
                        obtain ⟨L, eL⟩ : ∃ L, lineB (o : Int) (fv : Int) dv = L := ⟨_, rfl⟩
                        rw [eL] at kl heq
                        have hq2 : (L == line) = false := by simpa using heq
                        clear hv hH heq eL
                        go_wp2_with fail
                        refine ke.mono ?_
                        clear ke
                        rintro e w4 ⟨rfl, b4⟩
                        obtain ⟨a0, a1, a2⟩ := (eA.on b4).cells
                        go_wp2_with fail
                        refine (kl _).mono ?_
                        clear kl
                        rintro e w5 ⟨rfl, b5⟩
                        have B5 := below_on bA (below_on b4 b5)
                        have hb5 := hb.on B5
                        have BB := below_on Bw B5
                        clear hb Bw bA b4 b5 B5 eA a0 a1 a2
                        go_wp2
                        exact ⟨⟨dv + 1, by omega, by omega, rfl, hb5, BB, hN⟩, by simp [intOf]; omega⟩
                  · have hN : Hid (∀ op f d, M = some (op, f, d) → (o : Int) ≤ op ∧ (op = (o : Int) → ((fv + 1 : Nat) : Int) ≤ f)) := fun op f d h => by
                      have h3 := hH.out op f d h
                      refine ⟨h3.1, fun h4 => ?_⟩
                      have h5 := h3.2 h4
                      by_cases h6 : f = (fv : Int)
                      · have := h5.2 h6
                        have := (evB_range (HS.out op f d h).1 r3 r2).2.2
                        omega
                      · omega
                    go_wp2
                    exact ⟨⟨fv + 1, by simp, hb, Bw, hN⟩, by simp [intOf]; omega⟩
              · have hf2 := hf
                rw [EM.out] at hf2
                have hN : Hid (∀ op f d, M = some (op, f, d) → ((o + 1 : Nat) : Int) ≤ op) := fun op f d h => by
                  have h3 := hH.out op f d h
                  by_cases h4 : op = (o : Int)
                  · have h5 := h3.2 h4
                    have h6 := evB_of (HS.out op f d h).1
                    omega
                  · omega
                go_wp2
                exact ⟨⟨o + 1, by omega, by omega, by simp, hb, Bw, hN⟩, by simp [intOf]; omega⟩
          · have hq : (line.take s1.length == s1) = false := by simpa using htk
            have hN : Hid (∀ op f d, M = some (op, f, d) → ((o + 1 : Nat) : Int) ≤ op) := fun op f d h => by
              have h3 := hH.out op f d h
              by_cases h4 : op = (o : Int)
              · subst h4
                exact absurd (hpre.out f d h).2 htk
              · omega
            clear hpre htk hH
            go_wp2
            exact ⟨⟨o + 1, by omega, by omega, by simp, hbW, bW, hN⟩, by simp [intOf]; omega⟩
      · have hi1 : ¬ (o : Int) ≤ 5 := by omega
        have hNone : M = none := by
          cases hM : M with
          | none => rfl
          | some e =>
            obtain ⟨op, f, d⟩ := e
            have h3 := hH.out op f d hM
            have := (evB_range (HS.out op f d hM).1 r3 r2).1
            omega
        subst hNone
        have FIN := below_on bV Bw
        obtain ⟨y0, y1, y2⟩ := hb.cells
        have z0 := Blk.frozen hb 0
        have z1 := Blk.frozen hb 1
        have z2 := Blk.frozen hb 2
        have hx2 := Box3.putv hb (.int .i64 0) (.int .i64 0) (.int .i64 0)
        obtain ⟨m0, m1, m2⟩ := hx2.cells
        have F2 : Hid (Below w.heap.size w (((wr.setCell ⟨r, 0, none⟩ (.int .i64 0)).setCell ⟨r, 1, none⟩ (.int .i64 0)).setCell ⟨r, 2, none⟩ (.int .i64 0))) := ((FIN.setCell (Nat.le_of_lt hwr.out.1) _).setCell (Nat.le_of_lt hwr.out.1) _).setCell (Nat.le_of_lt hwr.out.1) _
        clear hx2 hb Bw hH FIN
        go_wp2
        exact bodyPost_ret (v := .tuple #[.agg #[.int .i64 0, .int .i64 0, .int .i64 0], .bool false]) (by simp [results, Tryz.results22, go_sem, m0, m1, m2]) rfl ⟨rfl, F2.out⟩

end Go.Proofs.YtlpopfhaephfaabGreatDoor

namespace Go.Proofs.YtlpopfhaephfaabGreatDoor
open Go.RowKit

theorem drop_line {t : List UInt8} {a i : Nat} {c : UInt8} (h : a ≤ i) (hc : t[i]? = some c) : t.drop a = (t.drop a).take (i - a) ++ c :: t.drop (i + 1) := by
  have hi : i < t.length := (List.getElem?_eq_some_iff.1 hc).1
  have e1 : (t.drop a).drop (i - a) = c :: t.drop (i + 1) := by
    rw [List.drop_drop, show a + (i - a) = i by omega, List.drop_eq_getElem_cons hi]
    congr 1
    rw [List.getElem?_eq_getElem hi] at hc
    exact Option.some.inj hc
  rw [← e1, List.take_append_drop]

theorem take_snoc {t : List UInt8} {a i : Nat} {c : UInt8} (h : a ≤ i) (hc : t[i]? = some c) : (t.drop a).take (i + 1 - a) = (t.drop a).take (i - a) ++ [c] := by
  rw [show i + 1 - a = (i - a) + 1 by omega, List.take_add_one]
  congr 1
  rw [List.getElem?_drop, show a + (i - a) = i by omega, hc]
  rfl

set_option maxRecDepth 100000 in
set_option maxHeartbeats 4000000 in
theorem specRead_any (S : Int) (g n : Nat) (F T : Nat → Int) (t : List UInt8) (w : World) (hrow : Row w g 71 2 n (two F T)) (hlen : t.length ≤ 1048576) :
    Calls Tryz.prog 10 #[.agg #[.int .i64 S, .slice (some ⟨g, 0, none⟩) n n], .string ⟨t.toArray⟩] w fun e w' => ScP w w' (rdZ S n F T t) e := by
  obtain ⟨R, hR⟩ : ∃ R, rdZ S n F T t = R := ⟨_, rfl⟩
  rw [hR]
  have HR : Hid _ := hR
  clear hR
  obtain ⟨W0, eW⟩ : ∃ W0, (w.alloc (.cells #[.int .i64 S, .slice (some ⟨g, 0, none⟩) n n] 29)).alloc (.cells #[.int .i64 0, .int .i64 0, .slice none 0 0] 36) = W0 := ⟨_, rfl⟩
  have bW : Below w.heap.size w W0 := by rw [← eW]; exact (by repeat (first | exact Below.refl _ _ | assumption | refine below_alloc ?_ _ | refine Below.setCell ?_ (by first | omega | (simp; done) | (simp; omega)) _ | refine Below.alloc ?_ (by first | omega | (simp; done) | (simp; omega)) _ | refine Below.drew ?_))
  have hP : ∀ W, Below W0.heap.size W0 W → (W.cell? ⟨w.heap.size, 0, none⟩ = some (.int .i64 S) ∧ W.cell? ⟨w.heap.size, 1, none⟩ = some (.slice (some ⟨g, 0, none⟩) n n)) ∧ Row W g 71 2 n (two F T) := by
    have c0 : W0.cell? ⟨w.heap.size, 0, none⟩ = some (.int .i64 S) := by rw [← eW]; simp
    have c1 : W0.cell? ⟨w.heap.size, 1, none⟩ = some (.slice (some ⟨g, 0, none⟩) n n) := by rw [← eW]; simp
    exact fun W hb => ⟨⟨by rw [hb.cell (block_lt_of_cell c0)]; exact c0, by rw [hb.cell (block_lt_of_cell c1)]; exact c1⟩, hrow.on (below_on bW hb)⟩
  obtain ⟨r, er⟩ : ∃ r, w.heap.size + 1 = r := ⟨_, rfl⟩
  have hW : Box3 W0 r 36 (.int .i64 0) (.int .i64 0) (.slice none 0 0) := by
    rw [← eW, ← er]
    have := Box3.lay (w.alloc (.cells #[.int .i64 S, .slice (some ⟨g, 0, none⟩) n n] 29)) (.int .i64 0) (.int .i64 0) (.slice none 0 0) 36
    rwa [World.size_alloc] at this
  have hwr : Hid (w.heap.size ≤ r ∧ r < W0.heap.size) := ⟨by rw [← er]; exact Nat.le_succ _, Blk.lt hW⟩
  have kl := specLayoutOk_any S g n F T W0 (hrow.on bW)
  have EW : Hid _ := eW
  have ER : Hid _ := er
  have HP : Hid _ := hP
  clear eW er hP hrow
  by_cases hl : lokZ S n F T = 0
  · obtain ⟨r1, r2, r3⟩ := lok_range hl
    rw [hl] at kl
    go_enter Tryz.func10, Tryz.ntmps10
    go_upto_region 1 with fail
    rw [EW.out, ER.out]
    obtain ⟨⟨x0, x1⟩, _⟩ := HP.out W0 (Below.refl _ _)
    go_wp2_with fail
    refine kl.mono ?_
    clear kl
    rintro e w1 ⟨rfl, b1⟩
    have hx := hW.on b1
    have bw := below_on bW b1
    by_cases hlong : 20000 < t.length
    · have hi : (20000 : Int) < (t.length : Int) := by omega
      obtain rfl := (rdZ_long hl hlong).symm.trans HR.out
      obtain ⟨y0, y1, y2⟩ := hx.cells
      have z0 := Blk.frozen hx 0
      have z1 := Blk.frozen hx 1
      have z2 := Blk.frozen hx 2
      have FIN : Hid _ := read_end (V := w1) (a := 2) (b := 0) (sl := .slice none 0 0) (l := []) hx bw hwr.out.1 ⟨none, 0, rfl, .inl rfl⟩ rfl
      have hx2 := hx.put (.int .i64 2) (.int .i64 0) (.slice none 0 0)
      obtain ⟨m0, m1, m2⟩ := hx2.cells
      clear hW b1 bW bw hx hx2
      go_wp2
      exact bodyPost_ret (v := .agg #[.int .i64 2, .int .i64 0, .slice none 0 0]) (by simp [results, Tryz.results10, go_sem, m0, m1, m2]) rfl FIN.out
    · have hi : ¬ (20000 : Int) < (t.length : Int) := by omega
      obtain ⟨Z, eZ⟩ : ∃ Z, rdL S n (t.length + 1) t [] = Z := ⟨_, rfl⟩
      have hR3 := (rdZ_scan (t := t) hl (by omega)).symm.trans HR.out
      rw [eZ] at hR3
      have rd0 : Hid (RdTo S n t [] Z) := ⟨t.length + 1, Nat.lt_succ_self _, eZ⟩
      subst hR3
      obtain ⟨i0, hi0, hz0, hz1, hz2⟩ := info_parts Tryz.infoEv
      have HX : Hid (Below W0.heap.size W0 w1) := b1
      clear HR eZ hW bW b1 x0 x1
      go_wp2
      go_loopw [5, 6, 7, 8] (fun q5 q6 q7 q8 wr => ∃ (a i : Nat) (acc : List (Int × Int × Int)), q6 = .int .i64 (a : Int) ∧ q7 = .int .i64 (acc.length : Int) ∧ q8 = .int .i64 (i : Int) ∧ a ≤ i ∧ i ≤ t.length ∧ wr.ownsRow w1.heap.size 64 3 q5 acc.length (evC acc) ∧ Box3 wr r 36 (.int .i64 0) (.int .i64 0) (.slice none 0 0) ∧ Below w1.heap.size w1 wr ∧ Hid (RdTo S n (t.drop a) acc Z ∧ 10 ∉ (t.drop a).take (i - a) ∧ acc.length ≤ 2000)) (fun _ _ _ q8 _ => t.length - (intOf q8).toNat)
      case atStart => exact ⟨0, 0, [], rfl, rfl, rfl, Nat.le_refl _, Nat.zero_le _, World.ownsRow_nil _ _ _ _, hx, Below.refl _ _, ⟨by simpa using rd0.out, by simp, by simp⟩⟩
      case round =>
        clear hx rd0
        obtain ⟨a, i, acc, rfl, rfl, rfl, hai, hil, ow, hx, Bw, hH⟩ := hrel
        have hac : acc.length ≤ 2000 := hH.out.2.2
        by_cases hlt : i < t.length
        · have hi1 : (i : Int) < (t.length : Int) := by omega
          obtain ⟨c, hc⟩ : ∃ c, t[i]? = some c := ⟨t[i], List.getElem?_eq_getElem hlt⟩
          have hsz : i < (⟨t.toArray⟩ : ByteArray).size := by rw [str_size]; exact hlt
          have hg : (⟨t.toArray⟩ : ByteArray)[i]'hsz = c := by
            have h2 : t[i] = c := by rw [List.getElem?_eq_getElem hlt] at hc; exact Option.some.inj hc
            exact h2
          obtain ⟨y0, y1, y2⟩ := hx.cells
          by_cases hc10 : c = 10
          · subst hc10
            obtain ⟨hRd, hno, _⟩ := hH.out
            obtain ⟨p, hp⟩ : ∃ p, (t.drop a).take (i - a) = p := ⟨_, rfl⟩
            have hdl := drop_line hai hc
            rw [hp] at hno hdl
            rw [hdl] at hRd
            have hsl : (⟨t.toArray⟩ : ByteArray).extract a i = ⟨p.toArray⟩ := by
              rw [← hp]
              refine WideShapes.bytes_inj ?_
              rw [Lib.extract_data]
            have hq : (((10 : UInt8).toNat : Int) != 10) = false := by decide
            have hai1 : (a : Int) ≤ (i : Int) := by omega
            have hQ : ∀ W, Below wr.heap.size wr W → W.cell? ⟨w.heap.size, 0, none⟩ = some (.int .i64 S) ∧ W.cell? ⟨w.heap.size, 1, none⟩ = some (.slice (some ⟨g, 0, none⟩) n n) := fun W hb => (HP.out W (below_on HX.out (below_on Bw hb))).1
            have HQ : Hid _ := hQ
            have ke := fun W (hb : Below wr.heap.size wr W) => l4event_any S g n F T p W (HP.out W (below_on HX.out (below_on Bw hb))).2 hl
            obtain ⟨M, hM⟩ : ∃ M, parB S n p = M := ⟨_, rfl⟩
            rw [hM] at ke
            obtain ⟨E0, E1, E2, ok, hlv, hME⟩ : ∃ (E0 E1 E2 : Int) (ok : Bool), leV M = .tuple #[.agg #[.int .i64 E0, .int .i64 E1, .int .i64 E2], .bool ok] ∧ ((ok = true ∧ M = some (E0, E1, E2)) ∨ (ok = false ∧ M = none)) := by
              cases M with
              | none => exact ⟨0, 0, 0, false, rfl, .inr ⟨rfl, rfl⟩⟩
              | some e => obtain ⟨x, y, z⟩ := e; exact ⟨x, y, z, true, rfl, .inl ⟨rfl, rfl⟩⟩
            rw [hlv] at ke
            have KE : Hid _ := ke
            clear hQ hp hc
            go_upto_region 13 with fail
            go_cut [9, 10] from 31 to 54 (fun v9 v10 wc => ∃ qe, v9 = .pointer (some ⟨qe, 0, none⟩) ∧ v10 = .bool ok ∧ wr.heap.size ≤ qe ∧ Box3 wc qe 64 (.int .i64 E0) (.int .i64 E1) (.int .i64 E2) ∧ Below wr.heap.size wr wc)
            case first =>
              have ke := KE.out
              refine wp_region_any (by kernel_rfl) ?_
              refine InC.any (C := fun W => Below wr.heap.size wr W) _ _ _ _ ?_
              have C0 : Below wr.heap.size wr wr.drew := (Below.refl _ _).drew
              refine InC.take (i := 0) (v := .agg #[.int .i64 S, .slice (some ⟨g, 0, none⟩) n n]) rfl (by kernel_rfl) (by kernel_rfl) (by kernel_rfl) (fun _ _ _ h => h) C0 (Or.inl ⟨by rfl, ?_⟩) ?_
              · intro W hW
                obtain ⟨x0, x1⟩ := HQ.out W hW
                go_simp
              refine InC.take (i := 1) (v := .string ⟨t.toArray⟩) rfl (by kernel_rfl) (by kernel_rfl) (by kernel_rfl) (fun _ _ _ h => h) C0 (Or.inl ⟨by rfl, ?_⟩) ?_
              · intro W hW
                go_simp
              refine InC.take (i := 2) (v := .int .i64 (a : Int)) rfl (by kernel_rfl) (by kernel_rfl) (by kernel_rfl) (fun _ _ _ h => h) C0 (Or.inl ⟨by rfl, ?_⟩) ?_
              · intro W hW
                go_simp
              refine InC.take (i := 3) (v := .int .i64 (i : Int)) rfl (by kernel_rfl) (by kernel_rfl) (by kernel_rfl) (fun _ _ _ h => h) C0 (Or.inl ⟨by rfl, ?_⟩) ?_
              · intro W hW
                go_simp
              refine InC.take (i := 4) (v := .string ⟨p.toArray⟩) rfl (by kernel_rfl) (by kernel_rfl) (by kernel_rfl) (fun _ _ _ h => h) C0 (Or.inl ⟨by rfl, ?_⟩) ?_
              · intro W hW
                go_simp
              have CA : Below wr.heap.size wr (wr.alloc (.cells #[.int .i64 0, .int .i64 0, .int .i64 0] 64)).drew := (below_alloc (Below.refl _ _) _).drew
              have qA : Box3 (wr.alloc (.cells #[.int .i64 0, .int .i64 0, .int .i64 0] 64)).drew wr.heap.size 64 (.int .i64 0) (.int .i64 0) (.int .i64 0) := Box3.lay _ _ _ _ _
              refine InC.next2 (i := 5) (j := 9) (by kernel_rfl) (InC.one rfl fun K hK => ?_) (InC.one rfl fun K hK => ?_)
              · go_simp
                refine (ke _ C0).mono ?_
                rintro e w6 ⟨rfl, b6⟩
                have CB := below_on C0 b6
                refine hK _ _ CB ?_
                clear hK K
                refine InC.take (i := 6) (v := .tuple #[.agg #[.int .i64 E0, .int .i64 E1, .int .i64 E2], .bool ok]) rfl (by kernel_rfl) (by kernel_rfl) (by kernel_rfl) (fun _ _ _ h => h) CB (Or.inl ⟨by rfl, ?_⟩) ?_
                · intro W hW
                  go_simp
                refine InC.take (i := 7) (v := .agg #[.int .i64 E0, .int .i64 E1, .int .i64 E2]) rfl (by kernel_rfl) (by kernel_rfl) (by kernel_rfl) (fun _ _ _ h => h) CB (Or.inl ⟨by rfl, ?_⟩) ?_
                · intro W hW
                  go_simp
                refine InC.take (i := 8) (v := .bool ok) rfl (by kernel_rfl) (by kernel_rfl) (by kernel_rfl) (fun _ _ _ h => h) CB (Or.inl ⟨by rfl, ?_⟩) ?_
                · intro W hW
                  go_simp
                refine InC.next1 (i := 9) (by kernel_rfl) (InC.one rfl fun K hK => ?_)
                go_simp
                refine hK _ _ (below_alloc CB _) ?_
                clear hK K
                refine InC.next1 (i := 10) (by kernel_rfl) (InC.one rfl fun K hK => ?_)
                go_simp
                refine hK _ _ (below_alloc CB _) ?_
                clear hK K
                refine InC.next1 (i := 11) (by kernel_rfl) (InC.one rfl fun K hK => ?_)
                go_simp
                refine hK _ _ (below_alloc CB _) ?_
                clear hK K
                refine InC.done (by kernel_rfl) ?_
                go_wp2_with fail
                go_meet
                case rel => exact ⟨_, rfl, rfl, CB.size, Box3.lay _ _ _ _ _, below_alloc CB _⟩
              · skip
                go_simp
                refine hK _ _ CA ?_
                clear hK K
                refine InC.next1 (i := 5) (by kernel_rfl) (InC.one rfl fun K hK => ?_)
                go_simp
                refine (ke _ CA).mono ?_
                rintro e w6 ⟨rfl, b6⟩
                have CB := below_on CA b6
                have q6 := qA.on b6
                obtain ⟨e0, e1, e2⟩ := q6.cells
                have f0 := Blk.frozen q6 0
                have f1 := Blk.frozen q6 1
                have f2 := Blk.frozen q6 2
                refine hK _ _ CB ?_
                clear hK K
                refine InC.take (i := 6) (v := .tuple #[.agg #[.int .i64 E0, .int .i64 E1, .int .i64 E2], .bool ok]) rfl (by kernel_rfl) (by kernel_rfl) (by kernel_rfl) (fun _ _ _ h => h) CB (Or.inl ⟨by rfl, ?_⟩) ?_
                · intro W hW
                  go_simp
                refine InC.take (i := 7) (v := .agg #[.int .i64 E0, .int .i64 E1, .int .i64 E2]) rfl (by kernel_rfl) (by kernel_rfl) (by kernel_rfl) (fun _ _ _ h => h) CB (Or.inl ⟨by rfl, ?_⟩) ?_
                · intro W hW
                  go_simp
                refine InC.take (i := 8) (v := .bool ok) rfl (by kernel_rfl) (by kernel_rfl) (by kernel_rfl) (fun _ _ _ h => h) CB (Or.inl ⟨by rfl, ?_⟩) ?_
                · intro W hW
                  go_simp
                refine InC.next1 (i := 10) (by kernel_rfl) (InC.one rfl fun K hK => ?_)
                go_simp
                have CE : Below wr.heap.size wr (((w6.setCell ⟨wr.heap.size, 0, none⟩ (.int .i64 E0)).setCell ⟨wr.heap.size, 1, none⟩ (.int .i64 E1)).setCell ⟨wr.heap.size, 2, none⟩ (.int .i64 E2)) := ((CB.setCell (Nat.le_refl _) _).setCell (Nat.le_refl _) _).setCell (Nat.le_refl _) _
                refine hK _ _ CE ?_
                clear hK K
                refine InC.next1 (i := 11) (by kernel_rfl) (InC.one rfl fun K hK => ?_)
                go_simp
                refine hK _ _ CE ?_
                clear hK K
                refine InC.done (by kernel_rfl) ?_
                go_wp2_with fail
                go_meet
                case rel => exact ⟨_, rfl, rfl, Nat.le_refl _, q6.put _ _ _, CE⟩
            case rest =>
              obtain ⟨qe, rfl, rfl, hqe, bq, bwc⟩ := hcut
              rename World => wc
              have hx2 := hx.on bwc
              have ow2 := own_on ow bwc
              have B2 := below_on Bw bwc
              have bF := below_on bw B2
              obtain ⟨y0, y1, y2⟩ := hx2.cells
              have z0 := Blk.frozen hx2 0
              have z1 := Blk.frozen hx2 1
              have z2 := Blk.frozen hx2 2
              obtain ⟨e0, e1, e2⟩ := bq.cells
              obtain ⟨ao, cap, esl⟩ : ∃ ao cap, u5 = .slice ao acc.length cap := by
                rcases ow.2 with ⟨hv, h0⟩ | ⟨g, cap, cur, hv, _⟩
                · exact ⟨_, _, by rw [h0]; exact hv⟩
                · exact ⟨_, _, hv⟩
              subst esl
              by_cases hbad : ok = false ∨ acc.length = 2000
              · have hZ : Z = .inl (acc.length + 1) := by
                  rcases hME with ⟨h1, h2⟩ | ⟨h1, h2⟩
                  · rcases hbad with h3 | h3
                    · rw [h1] at h3; cases h3
                    · exact hRd.many (by simp) (by omega)
                  · exact hRd.bad hno (hM.trans h2)
                subst hZ
                have FIN : Hid (ScP _ _ _ _) := read_end (V := wc) (a := 3) (b := acc.length + 1) (sl := .slice none 0 0) (l := []) hx2 bF hwr.out.1 ⟨none, 0, rfl, .inl rfl⟩ rfl
                have hx3 := hx2.put (.int .i64 3) (.int .i64 ((acc.length + 1 : Nat) : Int)) (.slice none 0 0)
                obtain ⟨m0, m1, m2⟩ := hx3.cells
                have ec : ((acc.length + 1 : Nat) : Int) = (acc.length : Int) + 1 := by simp
                rw [ec] at m0 m1 m2
                have F2 := FIN.out
                rw [ec] at F2
                have F3 : Hid (ScP _ _ _ _) := F2
                rcases (show ok = false ∨ (ok = true ∧ (acc.length : Int) = 2000) by cases ok <;> simp at hbad ⊢ <;> omega) with rfl | ⟨rfl, h2000⟩
                · clear FIN F2 hx hx2 hx3 ow ow2 Bw B2 bF bwc bq hRd hME KE HQ hbad
                  go_wp2
                  exact bodyPost_ret (v := .agg #[.int .i64 3, .int .i64 ((acc.length : Int) + 1), .slice none 0 0]) (by simp [results, Tryz.results10, go_sem, m0, m1, m2]) rfl F3.out
                · have hq2 : ((acc.length : Int) == 2000) = true := by simpa using h2000
                  clear FIN F2 hx hx2 hx3 ow ow2 Bw B2 bF bwc bq hRd hME KE HQ hbad h2000
                  go_wp2
                  exact bodyPost_ret (v := .agg #[.int .i64 3, .int .i64 ((acc.length : Int) + 1), .slice none 0 0]) (by simp [results, Tryz.results10, go_sem, m0, m1, m2]) rfl F3.out
              · obtain ⟨rfl, hMs⟩ : ok = true ∧ M = some (E0, E1, E2) := by
                  rcases hME with h | ⟨h1, _⟩
                  · exact h
                  · exact absurd (.inl h1) hbad
                have hne : ¬ (acc.length : Int) = 2000 := by
                  intro h
                  exact hbad (.inr (by omega))
                have hq2 : ((acc.length : Int) == 2000) = false := by simpa using hne
                have hR2 := hRd.step hno (hM.trans hMs) (by omega)
                have HN : Hid (RdTo S n (t.drop (i + 1)) (acc ++ [(E0, E1, E2)]) Z ∧ 10 ∉ (t.drop (i + 1)).take (i + 1 - (i + 1)) ∧ (acc ++ [(E0, E1, E2)]).length ≤ 2000) := ⟨hR2, by simp, by simp; omega⟩
                have EL : Hid (((acc ++ [(E0, E1, E2)]).length : Int) = (acc.length : Int) + 1 ∧ (acc ++ [(E0, E1, E2)]).length = acc.length + 1) := ⟨by simp, by simp⟩
                have hbA := below_alloc (Below.refl wc.heap.size wc) (.cells #[.int .i64 E0, .int .i64 E1, .int .i64 E2] 64)
                have nb := Box3.lay wc (.int .i64 E0) (.int .i64 E1) (.int .i64 E2) 64
                obtain ⟨n0, n1, n2⟩ := nb.cells
                have z5 : w1.heap.size ≤ wc.heap.size := B2.size
                clear hRd hR2 hME hbad hne KE HQ hx ow Bw bF bwc bq
                go_wp2_with (at_builtin; refine wpList_append_own _ rfl _ _ 34 rfl w1.heap.size 64 i0 (.agg #[.int .i64 0, .int .i64 0, .int .i64 0]) 3 24 Tryz.underlying34 hi0 hz0 hz1 hz2 rfl (by decide) _ _ _ rfl (own_on ow2 hbA) ⟨wc.heap.size, 0, none⟩ 1 1 [.int .i64 E0, .int .i64 E1, .int .i64 E2] rfl rfl ?c1 ?c2 ?c3 ?c4 ?c5 ?_)
                case c1 =>
                  intro j u hj
                  match j, hj with
                  | 0, hj => simp at hj; subst hj; exact n0
                  | 1, hj => simp at hj; subst hj; exact n1
                  | 2, hj => simp at hj; subst hj; exact n2
                case c2 =>
                  intro u hu
                  simp at hu
                  rcases hu with rfl | rfl | rfl <;> rfl
                case c3 => unfold maxLen; omega
                case c4 => omega
                case c5 => exact Nat.le_trans z5 hbA.size
                intro v' w7 hown' hgrow _
                have bb7 : Below w1.heap.size (wc.alloc (.cells #[.int .i64 E0, .int .i64 E1, .int .i64 E2] 64)) w7 := (Below.refl _ _).grown hgrow (Nat.le_trans z5 hbA.size) (fun x hx => (ow2.lt x hx).1)
                have hx7 : Box3 w7 r 36 (.int .i64 0) (.int .i64 0) (.slice none 0 0) := Blk.below (hx2.on hbA) bb7 (by have := hwr.out.2; have := HX.out.size; omega)
                have B7 : Below w1.heap.size w1 w7 := (below_on B2 hbA).trans bb7
                rw [← evC_snoc] at hown'
                clear hgrow bb7 hbA nb n0 n1 n2 hx2 ow2 B2 y0 y1 y2 z0 z1 z2 e0 e1 e2
                go_wp2
                exact ⟨⟨i + 1, i + 1, acc ++ [(E0, E1, E2)], by simp, by rw [EL.out.1], by simp, Nat.le_refl _, hlt, by rw [EL.out.2]; exact hown', hx7, B7, HN⟩, by simp [intOf]; omega⟩
          · have hq : ((c.toNat : Int) != 10) = true := by
              have : c.toNat ≠ 10 := fun h => hc10 (UInt8.toNat_inj.1 (by rw [h]; rfl))
              simp; omega
            have hN : Hid (RdTo S n (t.drop a) acc Z ∧ 10 ∉ (t.drop a).take (i + 1 - a) ∧ acc.length ≤ 2000) := ⟨hH.out.1, by rw [take_snoc hai hc]; simp only [List.mem_append, List.mem_singleton, not_or]; exact ⟨hH.out.2.1, fun h => hc10 h.symm⟩, hac⟩
            go_wp2
            exact ⟨⟨a, i + 1, acc, rfl, rfl, by simp, by omega, hlt, ow, hx, Bw, hN⟩, by simp [intOf]; omega⟩
        · have hi1 : ¬ (i : Int) < (t.length : Int) := by omega
          obtain rfl : i = t.length := by omega
          obtain ⟨hRd, hno, _⟩ := hH.out
          have bF := below_on bw Bw
          obtain ⟨y0, y1, y2⟩ := hx.cells
          have z0 := Blk.frozen hx 0
          have z1 := Blk.frozen hx 1
          have z2 := Blk.frozen hx 2
          by_cases hat : a < t.length
          · have hi2 : (a : Int) < (t.length : Int) := by omega
            have hno2 : 10 ∉ t.drop a := by rwa [List.take_of_length_le (by simp)] at hno
            have hZ := hRd.open (by intro h; have := congrArg List.length h; simp at this; omega) hno2
            subst hZ
            have FIN : Hid (ScP _ _ _ _) := read_end (V := wr) (a := 3) (b := acc.length + 1) (sl := .slice none 0 0) (l := []) hx bF hwr.out.1 ⟨none, 0, rfl, .inl rfl⟩ rfl
            have hx3 := hx.put (.int .i64 3) (.int .i64 ((acc.length + 1 : Nat) : Int)) (.slice none 0 0)
            obtain ⟨m0, m1, m2⟩ := hx3.cells
            have ec : ((acc.length + 1 : Nat) : Int) = (acc.length : Int) + 1 := by simp
            rw [ec] at m0 m1 m2
            have F2 := FIN.out
            rw [ec] at F2
            have F3 : Hid (ScP _ _ _ _) := F2
            clear FIN F2 hx hx3 ow Bw bF hRd hno hno2 hH
            go_wp2
            exact bodyPost_ret (v := .agg #[.int .i64 3, .int .i64 ((acc.length : Int) + 1), .slice none 0 0]) (by simp [results, Tryz.results10, go_sem, m0, m1, m2]) rfl F3.out
          · have hi2 : ¬ (a : Int) < (t.length : Int) := by omega
            have hdr : t.drop a = [] := by rw [List.drop_eq_nil_iff]; omega
            rw [hdr] at hRd
            have hZ := hRd.nil
            subst hZ
            obtain ⟨ao, cap, esl⟩ : ∃ ao cap, u5 = .slice ao acc.length cap := by
              rcases ow.2 with ⟨hv, h0⟩ | ⟨g, cap, cur, hv, _⟩
              · exact ⟨_, _, by rw [h0]; exact hv⟩
              · exact ⟨_, _, hv⟩
            subst esl
            have FIN : Hid (ScP _ _ _ _) := read_end (V := wr) (a := 0) (b := 0) (l := acc) hx bF hwr.out.1 ((SlF.of_ownsRow ow (fun i hi j hj => evC_at acc i hi j hj)).wide bw.size (Nat.le_refl _)) rfl
            have hx3 := hx.put (.int .i64 0) (.int .i64 0) (.slice ao acc.length cap)
            obtain ⟨m0, m1, m2⟩ := hx3.cells
            clear hx hx3 ow Bw bF hRd hno hH
            go_wp2
            exact bodyPost_ret (v := .agg #[.int .i64 0, .int .i64 0, .slice ao acc.length cap]) (by simp [results, Tryz.results10, go_sem, m0, m1, m2]) rfl FIN.out
  · obtain rfl := (rdZ_lay hl).symm.trans HR.out
    clear HR
    obtain ⟨c, hc⟩ : ∃ c, lokZ S n F T = c := ⟨_, rfl⟩
    rw [hc] at kl hl
    clear hc
    go_enter Tryz.func10, Tryz.ntmps10
    go_upto_region 1 with fail
    rw [EW.out, ER.out]
    obtain ⟨⟨x0, x1⟩, _⟩ := HP.out W0 (Below.refl _ _)
    go_wp2_with fail
    refine kl.mono ?_
    clear kl
    rintro e w1 ⟨rfl, b1⟩
    have hx := hW.on b1
    have bw := below_on bW b1
    obtain ⟨y0, y1, y2⟩ := hx.cells
    have z0 := Blk.frozen hx 0
    have z1 := Blk.frozen hx 1
    have z2 := Blk.frozen hx 2
    have FIN : Hid _ := read_end (V := w1) (a := 1) (b := 0) (sl := .slice none 0 0) (l := []) hx bw hwr.out.1 ⟨none, 0, rfl, .inl rfl⟩ rfl
    have hx2 := hx.put (.int .i64 1) (.int .i64 0) (.slice none 0 0)
    obtain ⟨m0, m1, m2⟩ := hx2.cells
    clear hW b1 bW bw hx hx2
    go_wp2
    exact bodyPost_ret (v := .agg #[.int .i64 1, .int .i64 0, .slice none 0 0]) (by simp [results, Tryz.results10, go_sem, m0, m1, m2]) rfl FIN.out

end Go.Proofs.YtlpopfhaephfaabGreatDoor
