import Derived.Test.YtlpopfhaephfaabSO1
namespace Go.Proofs.Ytlpopfhaephfaab
open Go.RowKit Go.Maps Go.WideElems Go.MapKept

theorem ownsInts_stay {w w' : World} {base e : Nat} {q : IntKind} {v : Value} {zs : List Int} (hI : ∀ (g : Nat) (cur : Array Value), w.heap[g]? = some (Obj.cells cur e (0, 0)) → w'.heap[g]? = w.heap[g]?) (h : w.ownsInts base e q v zs) : w'.ownsInts base e q v zs := by
  refine ⟨⟨h.1.1, ?_⟩, h.2⟩
  rcases h.1.2 with h1 | ⟨g, cap, cur, h1, h2, h3, r⟩
  · exact .inl h1
  · exact .inr ⟨g, cap, cur, h1, h2, (hI g cur h3).trans h3, r⟩

theorem Grp.stay {w w' : World} {B n : Nat} {Z : Int → List Int} (h : Grp w B n Z) (hB : ∀ es c, w.heap[B]? = some (Obj.map es c) → w'.heap[B]? = w.heap[B]?) (hI : ∀ (g : Nat) (cur : Array Value), w.heap[g]? = some (Obj.cells cur 3 (0, 0)) → w'.heap[g]? = w.heap[g]?) : Grp w' B n Z := by
  obtain ⟨D, h1, h2⟩ := h
  refine ⟨D, ?_, h2⟩
  obtain ⟨es, clock, hb, F, hs, rfl, hbb, hlen, hap⟩ := h1
  have hst : ∀ x ∈ es.toList, ∀ z, rowElem (H := Unit) w (B + 1) 3 .i64 x.val = some z → rowElem w' (B + 1) 3 .i64 x.val = some z := fun x hx z hz => by
    obtain ⟨zs, ho, rfl⟩ := rowElem_inv hz
    exact rowElem_mk (ownsInts_stay hI ho)
  obtain ⟨F1, hmap, _⟩ := F.stay hst
  refine ⟨es, clock, (hB es clock hb).trans hb, F1, hs, by rw [hmap], hbb, fun x hx zs ho => ?_, hap⟩
  obtain ⟨y, hy⟩ := F.reads x hx
  obtain ⟨z, hz, _⟩ := rd_val hy
  obtain ⟨zs0, ho0, _⟩ := rowElem_inv hz
  rw [ho.unique (ownsInts_stay hI ho0)]
  exact hlen x hx zs0 ho0

theorem Grp.turned {w w' : World} {B n : Nat} {Z : Int → List Int} {E : Nat → Prop} {lo hi : Nat} (h : Grp w B n Z) (ht : Turned w w' E lo hi) (hE : ¬ E 3) : Grp w' B n Z := by
  refine h.stay (fun es c hb => ?_) (fun g cur hg => ?_)
  · rcases ht.block B (Array.getElem?_eq_some_iff.1 hb).1 with h' | ⟨_, _, e, m, f, _, xs, a1, _⟩
    · exact h'
    · rw [hb] at a1; cases a1
  · rcases ht.block g (Array.getElem?_eq_some_iff.1 hg).1 with h' | ⟨_, _, e, m, f, hE', xs, a1, _⟩
    · exact h'
    · rw [hg] at a1
      simp only [Option.some.injEq, Obj.cells.injEq] at a1
      rw [← a1.2.1] at hE'
      exact absurd hE' hE

theorem Grp.on {w w' : World} {B n : Nat} {Z : Int → List Int} (h : Grp w B n Z) (hb : Below w.heap.size w w') : Grp w' B n Z := h.turned (E := fun _ => False) (Turned.of_below (lo := 0) (hi := 0) hb) (fun x => x)

set_option maxHeartbeats 1000000 in
theorem isDead_any (S : Int) (g n B lo hi : Nat) (ok : Bool) (a1 a2 : Option Addr) (ns c1 c2 m : Nat) (D : Nat → Bool) (w : World) (hm : m < n) (hd : SlF w 4 1 lo hi (.slice a2 n c2) n (bools D)) :
    Calls Try.prog 98 #[.agg #[.int .i64 S, .slice (some ⟨g, 0, none⟩) n n, .map (some B), .bool ok, .slice a1 ns c1, .slice a2 n c2], .int .i64 m] w fun e w' => e = .returned (.bool (D m)) ∧ Below w.heap.size w w' := by
  obtain ⟨ao, cap, he, hd0⟩ := hd
  cases he
  rcases hd0 with hd0 | ⟨gd, md, fd, rfl, _, _, d2, d3, d4⟩
  · omega
  have c0 := one d3 d2 hm d4
  have hm' : (m : Int) < (n : Int) := by omega
  have hl := d3.lt
  clear d3 d4
  go_enter Try.func98, Try.ntmps98
  go_wp2
  go_ret
  exact ⟨rfl, (by repeat (first | exact Below.refl _ _ | assumption | refine below_alloc ?_ _ | refine Below.setCell ?_ (by first | omega | (simp; done) | (simp; omega)) _ | refine Below.alloc ?_ (by first | omega | (simp; done) | (simp; omega)) _ | refine Below.drew ?_))⟩

set_option maxHeartbeats 1000000 in
theorem indexFunc_any (S s : Int) (g n B lo hi base : Nat) (F T : Nat → Int) (ok : Bool) (a1 a2 : Option Addr) (ns c1 c2 : Nat) (D : Nat → Bool) (v : Value) (w : World) (hn : n ≤ 120) (hz : SlF w 3 1 base w.heap.size v (zsAt F T n s).length (ints (zsAt F T n s))) (hd : SlF w 4 1 lo hi (.slice a2 n c2) n (bools D)) :
    Calls Try.prog 108 #[v, .func (.func 98) #[.agg #[.int .i64 S, .slice (some ⟨g, 0, none⟩) n n, .map (some B), .bool ok, .slice a1 ns c1, .slice a2 n c2]] #[]] w fun e w' => ∃ r : Int, e = .returned (.int .i64 r) ∧ decide (0 ≤ r) = deadB n F T D s ∧ Below w.heap.size w w' := by
  have hlen := zsAt_len F T n s
  obtain ⟨az, cz, rfl, hz0⟩ := hz
  go_enter Try.func108, Try.ntmps108
  go_wp2
  go_loopw [8] (fun i wr => ∃ k : Nat, k ≤ (zsAt F T n s).length ∧ i = .int .i64 k ∧ Below w.heap.size w wr ∧ ∀ j, j < k → D ((zsAt F T n s).getD j 0).toNat = false) (fun i _ => (zsAt F T n s).length - (intOf i).toNat)
  case atStart => exact ⟨0, Nat.zero_le _, rfl, Below.refl _ _, fun j hj => by omega⟩
  case round =>
    obtain ⟨k, hk, rfl, hbel, hgood⟩ := hrel
    by_cases hlt : k < (zsAt F T n s).length
    · rcases hz0 with hz0 | ⟨gz, mz, fz, rfl, _, _, z2, z3, z4⟩
      · omega
      obtain ⟨m, hm, em⟩ := zs_get hlt
      have c0 := oneI (z3.on hbel) z2 hlt z4
      rw [em] at c0
      have cd := fun W (hW : Below w.heap.size w W) => isDead_any S g n B lo hi ok a1 a2 ns c1 c2 m D W hm (hd.on hW)
      have hk' : (k : Int) < ((zsAt F T n s).length : Int) := by omega
      have HG : Hid (∀ j, j < k → D ((zsAt F T n s).getD j 0).toNat = false) := hgood
      have HM : Hid ((zsAt F T n s).getD k 0 = (m : Int)) := em
      clear z3 z4 hgood em hd
      go_wp2_with fail
      by_cases hdm : D m = true
      · have ed : Hid (deadB n F T D s = true) := dead_yes hlt HM.out hdm
        refine (cd _ hbel).mono ?_
        rw [hdm]
        rintro e w2 ⟨rfl, hb2⟩
        go_wp2
        go_ret
        exact ⟨(k : Int), rfl, by rw [ed.out]; simp, below_on hbel hb2⟩
      · have hdm' : D m = false := by simpa using hdm
        refine (cd _ hbel).mono ?_
        rw [hdm']
        rintro e w2 ⟨rfl, hb2⟩
        go_wp2
        go_roundw
        case rel =>
          refine ⟨k + 1, by omega, by go_num, below_on hbel hb2, fun j hj => ?_⟩
          rcases (show j < k ∨ j = k by omega) with h | rfl
          · exact HG.out j h
          · rw [HM.out]; simpa using hdm'
        case measure => simp [intOf]; omega
    · have ed : Hid (deadB n F T D s = false) := dead_no (fun j hj => hgood j (by omega))
      go_wp2
      go_ret
      exact ⟨-1, rfl, by rw [ed.out]; rfl, hbel⟩

set_option maxHeartbeats 1000000 in
theorem containsFunc_any (S s : Int) (g n B lo hi base : Nat) (F T : Nat → Int) (ok : Bool) (a1 a2 : Option Addr) (ns c1 c2 : Nat) (D : Nat → Bool) (v : Value) (w : World) (hn : n ≤ 120) (hz : SlF w 3 1 base w.heap.size v (zsAt F T n s).length (ints (zsAt F T n s))) (hd : SlF w 4 1 lo hi (.slice a2 n c2) n (bools D)) :
    Calls Try.prog 97 #[v, .func (.func 98) #[.agg #[.int .i64 S, .slice (some ⟨g, 0, none⟩) n n, .map (some B), .bool ok, .slice a1 ns c1, .slice a2 n c2]] #[]] w fun e w' => e = .returned (.bool (deadB n F T D s)) ∧ Below w.heap.size w w' := by
  go_enter Try.func97, Try.ntmps97
  go_wp2_with fail
  refine (indexFunc_any S s g n B lo hi base F T ok a1 a2 ns c1 c2 D v w hn hz hd).mono ?_
  rintro e w1 ⟨r, rfl, hr, hb1⟩
  have HR : Hid (decide (0 ≤ r) = deadB n F T D s) := hr
  clear hr
  go_wp2
  go_ret
  exact ⟨by rw [← HR.out]; rfl, hb1⟩

set_option maxHeartbeats 1000000 in
theorem deadAround_any (S s : Int) (g n B lo hi : Nat) (F T : Nat → Int) (ok : Bool) (a1 a2 : Option Addr) (ns c1 c2 : Nat) (D : Nat → Bool) (w : World) (hn : n ≤ 120) (h0 : 0 ≤ s) (h1 : s < 60) (hg : Grp w B (2 * n) (zsAt F T n)) (hd : SlF w 4 1 lo hi (.slice a2 n c2) n (bools D)) :
    Calls Try.prog 70 #[.agg #[.int .i64 S, .slice (some ⟨g, 0, none⟩) n n, .map (some B), .bool ok, .slice a1 ns c1, .slice a2 n c2], .int .i64 s] w fun e w' => e = .returned (.bool (deadB n F T D s)) ∧ Below w.heap.size w w' := by
  have wS : (Lit.int .i64 s).wf = true := WalkArith.wf_i64 (by omega)
  obtain ⟨v, hrun, hoi, _, _⟩ := (hg.alloc (.cells #[.int .i64 S, .slice (some ⟨g, 0, none⟩) n n, .map (some B), .bool ok, .slice a1 ns c1, .slice a2 n c2] 101)).look (by unfold maxLen; omega) s wS
  have hz := SlF.of_owns hoi
  have hd' := hd.alloc (.cells #[.int .i64 S, .slice (some ⟨g, 0, none⟩) n n, .map (some B), .bool ok, .slice a1 ns c1, .slice a2 n c2] 101)
  clear hoi hg hd
  go_enter Try.func70, Try.ntmps70
  go_wp2_with fail
  refine (containsFunc_any S s g n B lo hi _ F T ok a1 a2 ns c1 c2 D v _ hn hz hd').mono ?_
  rintro e w1 ⟨rfl, hb1⟩
  go_wp2
  go_ret
  exact ⟨rfl, below_on (show Below w.heap.size w _ from (by repeat (first | exact Below.refl _ _ | assumption | refine below_alloc ?_ _ | refine Below.setCell ?_ (by first | omega | (simp; done) | (simp; omega)) _ | refine Below.alloc ?_ (by first | omega | (simp; done) | (simp; omega)) _ | refine Below.drew ?_))) hb1⟩

end Go.Proofs.Ytlpopfhaephfaab
