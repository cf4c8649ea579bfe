import Derived.Test.YtlpopfhaephfaaaW2
import Derived.Test.YtlpopfhaephfaaaGrp
import Derived.Deep.DeepCutAuto
namespace Go.Proofs.Ytlpopfhaephfaaa
open Go.RowKit Go.Maps

/-- the counters among the first k of which s is a side -/
def zsAt (F T : Nat → Int) (k : Nat) (s : Int) : List Int := ((List.range k).filter (fun i => decide (F i = s) || decide (T i = s))).map Int.ofNat

theorem zsAt_succ (F T : Nat → Int) (k : Nat) (s : Int) : zsAt F T (k + 1) s = if F k = s ∨ T k = s then zsAt F T k s ++ [(k : Int)] else zsAt F T k s := by
  unfold zsAt
  rw [List.range_succ, List.filter_append]
  by_cases h : F k = s ∨ T k = s
  · have : (decide (F k = s) || decide (T k = s)) = true := by simpa using h
    simp [h, this]
  · have : (decide (F k = s) || decide (T k = s)) = false := by simpa using h
    simp [h, this]

theorem zsAt_len (F T : Nat → Int) (k : Nat) (s : Int) : (zsAt F T k s).length ≤ k := by
  unfold zsAt
  have := List.length_filter_le (fun i => decide (F i = s) || decide (T i = s)) (List.range k)
  simpa using this

/-- behind the first of a round's two stores -/
theorem zs_first (F T : Nat → Int) (k : Nat) (h : F k ≠ T k) (s : Int) :
    (if s = T k then (if T k = F k then zsAt F T k (F k) ++ [(k : Int)] else zsAt F T k (T k)) ++ [(k : Int)] else if s = F k then zsAt F T k (F k) ++ [(k : Int)] else zsAt F T k s) = zsAt F T (k + 1) s := by
  rw [zsAt_succ]
  by_cases h1 : s = T k
  · subst h1
    rw [if_pos rfl, if_neg (fun x => h x.symm), if_pos (Or.inr rfl)]
  · rw [if_neg h1]
    by_cases h2 : s = F k
    · subst h2; rw [if_pos rfl, if_pos (Or.inl rfl)]
    · rw [if_neg h2, if_neg]
      rintro (x | x)
      · exact h2 x.symm
      · exact h1 x.symm

theorem zs_close {w : World} {B k : Nat} {F T : Nat → Int} {f t : Int} (hn : F k ≠ T k) (hf : F k = f) (ht : T k = t) (h : Grp w B (2 * k + 1 + 1) (fun x => if x = t then (if t = f then zsAt F T k f ++ [(k : Int)] else zsAt F T k t) ++ [(k : Int)] else if x = f then zsAt F T k f ++ [(k : Int)] else zsAt F T k x)) :
    Grp w B (2 * (k + 1)) (zsAt F T (k + 1)) := by
  subst hf ht
  exact h.congr (zs_first F T k hn)

theorem grp_end {w W w1 w2 : World} {B c m : Nat} {v : Value} {zs : List Int} {fC : Nat → Value} (hb : Below w.heap.size w W) (oi : W.ownsInts (B + 1) 3 .i64 v zs) (g1 : W.grownBy w1 v.ownBlock) (g2 : w1.grownBy w2 (some B)) (hB : w.heap.size ≤ B)
    (hc : Blk W c 51 m fC) (hcB : B ≠ c) : Below w.heap.size w w2 ∧ W.heap.size ≤ w2.heap.size ∧ Blk w2 c 51 m fC :=
  ⟨hb.groups oi g1 g2 hb.size (by omega) hB, Nat.le_trans g1.size g2.size, (hc.grown g1 (own_ne oi hc (by decide))).grown g2 (by simpa using hcB)⟩

theorem grown_alloc_drew (w : World) (o : Obj) (row : Option Nat) : w.drew.grownBy (w.alloc o).drew row := World.grownBy_alloc w.drew o row

set_option maxHeartbeats 2000000 in
set_option maxRecDepth 100000 in
theorem bySide_any (S : Int) (g n : Nat) (F T : Nat → Int) (w : World) (hrow : Row w g 51 2 n (two F T)) (hn : n ≤ 120) (hwF : ∀ i, i < n → (Lit.int .i64 (F i)).wf = true) (hwT : ∀ i, i < n → (Lit.int .i64 (T i)).wf = true) (hne : ∀ i, i < n → F i ≠ T i) :
    Calls Try.prog 53 #[.agg #[.int .i64 S, .slice (some ⟨g, 0, none⟩) n n]] w fun e w' => ∃ B, e = .returned (.map (some B)) ∧ w.heap.size ≤ B ∧ Grp w' B (2 * n) (zsAt F T n) ∧ Below w.heap.size w w' := by
  have hg := hrow.lt
  have hmm := @run_makeMap Try.prog
  obtain ⟨i0, hi, hz0, hz1, hz2⟩ := info_parts Try.infoI
  go_enter Try.func53, Try.ntmps53
  go_wp2
  go_loopw [10] (fun i wr => ∃ k : Nat, k ≤ n ∧ i = .int .i64 k ∧ Below w.heap.size w wr ∧ w.heap.size + 2 ≤ wr.heap.size ∧ Grp wr (w.heap.size + 1) (2 * k) (zsAt F T k)) (fun i _ => n - (intOf i).toNat)
  case atStart => exact ⟨0, Nat.zero_le _, rfl, (by repeat (first | exact Below.refl _ _ | assumption | refine below_alloc ?_ _ | refine Below.setCell ?_ (by first | omega | (simp; done) | (simp; omega)) _ | refine Below.alloc ?_ (by first | omega | (simp; done) | (simp; omega)) _ | refine Below.drew ?_)), by simp, by have := Grp.made (w.alloc (.cells #[.int .i64 S, .slice (some ⟨g, 0, none⟩) n n] 25)); rw [show zsAt F T 0 = fun _ => [] from rfl]; simpa using this⟩
  case round =>
    obtain ⟨k, hk, rfl, hbel, hsz, hgrp⟩ := hrel
    by_cases hlt : k < n
    · obtain ⟨f, hf⟩ : ∃ f, F k = f := ⟨_, rfl⟩
      obtain ⟨t, ht⟩ : ∃ t, T k = t := ⟨_, rfl⟩
      have R := hrow.below hbel hg
      have c0 : wr.cell? ⟨g, k * 2, none⟩ = some (.int .i64 f) := by rw [R.cell0 hlt (by omega)]; simp [two, hf]
      have c1 : wr.cell? ⟨g, k * 2 + 1, none⟩ = some (.int .i64 t) := by rw [R.cell (j := 1) hlt (by omega)]; simp [two, ht]
      have hwf : (Lit.int .i64 f).wf = true := by rw [← hf]; exact hwF k hlt
      have hwt : (Lit.int .i64 t).wf = true := by rw [← ht]; exact hwT k hlt
      have HN : Hid (F k ≠ T k) := hne k hlt
      have HF : Hid (F k = f) := hf
      have HT : Hid (T k = t) := ht
      have HB : Hid (Below w.heap.size w wr) := hbel
      have HG : Hid (Grp wr (w.heap.size + 1) (2 * k) (zsAt F T k)) := hgrp
      clear hf ht R hrow hbel hgrp hwF hwT hne
      have hn2 : (k : Int) < (n : Int) := by omega
      go_upto_region 5 with fail
      go_cut [] (fun wc => Below w.heap.size w wc ∧ wr.heap.size < wc.heap.size ∧ Blk wc wr.heap.size 51 2 (fun j => .int .i64 (if j = 0 then f else t)) ∧ Grp wc (w.heap.size + 1) (2 * k + 1) (fun x => if x = f then zsAt F T k f ++ [(k : Int)] else zsAt F T k x))
      case first =>
        obtain ⟨C, hC⟩ : ∃ C, C = Obj.cells #[.int .i64 f, .int .i64 t] 51 := ⟨_, rfl⟩
        have bC : Blk (wr.alloc C) wr.heap.size 51 2 (fun j => .int .i64 (if j = 0 then f else t)) := by rw [hC]; exact Blk.new wr #[.int .i64 f, .int .i64 t] _ _ (fun i hi => by match i, hi with | 0, _ => rfl | 1, _ => rfl)
        obtain ⟨vA, runA, oiA, lA, backA⟩ := (HG.out.alloc C).drew.look (by unfold maxLen; omega) f hwf
        obtain ⟨vB, runB, oiB, lB, backB⟩ := ((HG.out.alloc C).alloc (.cells #[.int .i64 k] 3)).drew.look (by unfold maxLen; omega) f hwf
        have bA : Below w.heap.size w (wr.alloc C).drew := (below_alloc HB.out C).drew
        have bB : Below w.heap.size w ((wr.alloc C).alloc (.cells #[.int .i64 k] 3)).drew := (below_alloc (below_alloc HB.out C) _).drew
        subst hC
        have wk : (Lit.int .i64 (k : Int)).wf = true := WalkArith.wf_i64 (by omega)
        have hnw : ∀ j u, [Value.int .i64 k][j]? = some u → ((wr.alloc (.cells #[.int .i64 f, .int .i64 t] 51)).alloc (.cells #[.int .i64 k] 3)).drew.cell? ((⟨wr.heap.size + 1, 0, none⟩ : Addr).add j) = some u := by
          have := cell_one_new (wr.alloc (.cells #[.int .i64 f, .int .i64 t] 51)) (.int .i64 k) 3
          simp only [World.size_alloc] at this
          exact this
        have bCA := bC.drew
        have bCB := (bC.alloc (.cells #[.int .i64 k] 3)).drew
        go_region_law (first
          | (refine step_append_own rfl (.tmp 21) (.tmp 23) 48 rfl (w.heap.size + 1 + 1) 3 i0 (.int .i64 0) 1 8 Try.underlying48 hi hz0 hz1 hz2 rfl (by decide) vA _ _ rfl (oiA.1.alloc (.cells #[.int .i64 k] 3)) ⟨wr.heap.size + 1, 0, none⟩ 1 1 [.int .i64 k] rfl rfl hnw (ints_oneCell .i64 [(k : Int)]) (by unfold maxLen; omega) (by omega) (by simp; omega) ?_; intro v' w1 hown' hgrow hloc; have gA := (grown_alloc_drew (wr.alloc (.cells #[.int .i64 f, .int .i64 t] 51)) (.cells #[.int .i64 k] 3) _).trans hgrow; obtain ⟨w2, hup, hg2, hgr2⟩ := backA w1 v' _ gA (oiA.appended hown' wk) (by simp; omega) (hloc.imp id (fun h => ⟨_, h, by simp⟩)); have c17 : w1.cell? ⟨wr.heap.size, 0, none⟩ = some (.int .i64 f) := (bCA.grown gA (own_ne oiA bCA (by decide))).cell (i := 0) (by omega); have R := grp_end bA oiA gA hgr2 (by omega) bCA (by omega))
          | (refine step_append_own rfl (.tmp 21) (.tmp 23) 48 rfl (w.heap.size + 1 + 1) 3 i0 (.int .i64 0) 1 8 Try.underlying48 hi hz0 hz1 hz2 rfl (by decide) vB _ _ rfl oiB.1 ⟨wr.heap.size + 1, 0, none⟩ 1 1 [.int .i64 k] rfl rfl hnw (ints_oneCell .i64 [(k : Int)]) (by unfold maxLen; omega) (by omega) (by simp; omega) ?_; intro v' w1 hown' hgrow hloc; have gA := hgrow; obtain ⟨w2, hup, hg2, hgr2⟩ := backB w1 v' _ gA (oiB.appended hown' wk) (by simp; omega) (hloc.imp id (fun h => ⟨_, h, by simp⟩)); have c17 : w1.cell? ⟨wr.heap.size, 0, none⟩ = some (.int .i64 f) := (bCB.grown gA (own_ne oiB bCB (by decide))).cell (i := 0) (by omega); have R := grp_end bB oiB gA hgr2 (by omega) bCB (by omega)))
        all_goals
          clear runA runB backA backB
          go_wp2_with fail
          go_meet
          case rel => exact ⟨R.1, by have := R.2.1; simp at this; omega, R.2.2, hg2⟩
      case rest =>
        obtain ⟨bc, hsc, bC, gc⟩ := hcut
        have e0 : wc.cell? ⟨wr.heap.size, 1, none⟩ = some (.int .i64 t) := bC.cell (i := 1) (by omega)
        obtain ⟨vA, runA, oiA, lA, backA⟩ := gc.drew.look (by unfold maxLen; omega) t hwt
        obtain ⟨vB, runB, oiB, lB, backB⟩ := (gc.alloc (.cells #[.int .i64 k] 3)).drew.look (by unfold maxLen; omega) t hwt
        have bA : Below w.heap.size w wc.drew := bc.drew
        have bB : Below w.heap.size w (wc.alloc (.cells #[.int .i64 k] 3)).drew := (below_alloc bc _).drew
        have wk : (Lit.int .i64 (k : Int)).wf = true := WalkArith.wf_i64 (by omega)
        have hnw : ∀ j u, [Value.int .i64 k][j]? = some u → (wc.alloc (.cells #[.int .i64 k] 3)).drew.cell? ((⟨wc.heap.size, 0, none⟩ : Addr).add j) = some u := cell_one_new wc (.int .i64 k) 3
        have bCA := bC.drew
        have bCB := (bC.alloc (.cells #[.int .i64 k] 3)).drew
        clear bc gc bC
        go_wp2_with fail
        go_region_law (first
          | (refine step_append_own rfl (.tmp 31) (.tmp 33) 48 rfl (w.heap.size + 1 + 1) 3 i0 (.int .i64 0) 1 8 Try.underlying48 hi hz0 hz1 hz2 rfl (by decide) vA _ _ rfl (oiA.1.alloc (.cells #[.int .i64 k] 3)) ⟨wc.heap.size, 0, none⟩ 1 1 [.int .i64 k] rfl rfl hnw (ints_oneCell .i64 [(k : Int)]) (by unfold maxLen; omega) (by omega) (by simp; omega) ?_; intro v' w1 hown' hgrow hloc; have gA := (grown_alloc_drew wc (.cells #[.int .i64 k] 3) _).trans hgrow; obtain ⟨w2, hup, hg2, hgr2⟩ := backA w1 v' _ gA (oiA.appended hown' wk) (by simp; omega) (hloc.imp id (fun h => ⟨_, h, by simp⟩)); have c17 : w1.cell? ⟨wr.heap.size, 1, none⟩ = some (.int .i64 t) := (bCA.grown gA (own_ne oiA bCA (by decide))).cell (i := 1) (by omega); have R := grp_end bA oiA gA hgr2 (by omega) bCA (by omega))
          | (refine step_append_own rfl (.tmp 31) (.tmp 33) 48 rfl (w.heap.size + 1 + 1) 3 i0 (.int .i64 0) 1 8 Try.underlying48 hi hz0 hz1 hz2 rfl (by decide) vB _ _ rfl oiB.1 ⟨wc.heap.size, 0, none⟩ 1 1 [.int .i64 k] rfl rfl hnw (ints_oneCell .i64 [(k : Int)]) (by unfold maxLen; omega) (by omega) (by simp; omega) ?_; intro v' w1 hown' hgrow hloc; have gA := hgrow; obtain ⟨w2, hup, hg2, hgr2⟩ := backB w1 v' _ gA (oiB.appended hown' wk) (by simp; omega) (hloc.imp id (fun h => ⟨_, h, by simp⟩)); have c17 : w1.cell? ⟨wr.heap.size, 1, none⟩ = some (.int .i64 t) := (bCB.grown gA (own_ne oiB bCB (by decide))).cell (i := 1) (by omega); have R := grp_end bB oiB gA hgr2 (by omega) bCB (by omega)))
        all_goals
          clear runA runB backA backB
          go_wp2_with fail
          go_roundw
          case rel =>
            exact ⟨k + 1, by omega, by go_num, R.1, by have := R.2.1; simp at this; omega, zs_close HN.out HF.out HT.out hg2⟩
          case measure => simp [intOf]; omega
    · go_wp2
      go_ret
      have : k = n := by omega
      subst this
      exact ⟨_, rfl, (by first | omega | (simp; done) | (simp; omega)), hgrp, hbel⟩

end Go.Proofs.Ytlpopfhaephfaaa
