import Derived.Test.YtlpopfhaephfaaaP5
namespace Go.Proofs.Ytlpopfhaephfaaa
open Go.RowKit Go.Sort

theorem IntF.of_row {w : World} {base : Nat} {v : Value} {zs : List Int} (h : w.ownsRow base 3 1 v zs.length (zs.map (Value.int .i64))) : IntF w base v zs.length (fun i => zs.getD i 0) := by
  rcases h.2 with ⟨rfl, h0⟩ | ⟨g, cap, cur, rfl, hb, hh, hn, hm, hs, ht⟩
  · exact ⟨none, 0, by rw [h0], .inl h0⟩
  · refine ⟨_, cap, rfl, .inr ⟨g, cap, fun i => cur.toList.getD i (.int .i64 0), rfl, hb, hn, ⟨cur, hh, by simpa using hs, fun i hi => ?_⟩, fun i hi => ?_⟩⟩
    · have : i < cur.size := by rw [hs]; omega
      simp [this]
    · have e : (cur.toList.take (zs.length * 1))[i]? = (zs.map (Value.int .i64))[i]? := by rw [ht]
      rw [List.getElem?_take_of_lt (by omega)] at e
      simp only [List.getElem?_map, List.getElem?_eq_getElem hi, Option.map_some] at e
      simp [List.getD, e, List.getElem?_eq_getElem hi]

theorem own_below {w w' : World} {base e sz n : Nat} {v : Value} {xs : List Value} (h : w.ownsRow base e sz v n xs) (hB : Below w.heap.size w w') : w'.ownsRow base e sz v n xs := by
  refine ⟨h.1, ?_⟩
  rcases h.2 with h1 | ⟨g, cap, cur, h1, h2, h3, r⟩
  · exact .inl h1
  · exact .inr ⟨g, cap, cur, h1, h2, (hB.block g (Array.getElem?_eq_some_iff.1 h3).1).trans h3, r⟩

def atsTo (P : Nat → Nat → Int) (k : Nat) : List Int := (List.range k).map (fun i => P i 0)
theorem atsTo_len (P : Nat → Nat → Int) (k : Nat) : (atsTo P k).length = k := by simp [atsTo]
theorem atsTo_succ (P : Nat → Nat → Int) (k : Nat) : (atsTo P (k + 1)).map (Value.int .i64) = (atsTo P k).map (Value.int .i64) ++ [.int .i64 (P k 0)] := by simp [atsTo, List.range_succ]
theorem atsTo_at (P : Nat → Nat → Int) {k i : Nat} (h : i < k) : (atsTo P k).getD i 0 = P i 0 := by simp [atsTo, h]

theorem Asc.congr {n : Nat} {Z Z' : Nat → Int} (h : Asc n Z) (e : ∀ i, i < n → Z i = Z' i) : Asc n Z' := fun i hi => by
  have := h i hi
  unfold okAt prevZ at *
  rw [e i hi] at this
  by_cases h0 : i = 0
  · simpa [h0] using this
  · simp only [h0, if_false] at this ⊢
    rw [e (i - 1) (by omega)] at this
    exact this

open Classical in
set_option maxRecDepth 100000 in
set_option maxHeartbeats 2000000 in
theorem postsOk_any (S : Int) (g n gp nP : Nat) (P : Nat → Nat → Int) (w : World) (hP : Row w gp 103 3 nP (ints P)) (hp : nP ≤ 1048576) :
    Calls Try.prog 63 #[.agg #[.int .i64 S, .slice (some ⟨g, 0, none⟩) n n], .slice (some ⟨gp, 0, none⟩) nP nP] w fun e w' => e = .returned (.bool (decide (PostsV n nP P))) ∧ Below w.heap.size w w' := by
  have hgp := hP.lt
  obtain ⟨i0, hi, hz0, hz1, hz2⟩ := info_parts Try.infoI
  by_cases hbig : (nP : Int) ≤ 120
  · have hnp : nP ≤ 120 := by omega
    go_enter Try.func63, Try.ntmps63
    go_wp2_with (first
      | (at_make; refine wpList_make_own _ rfl _ _ 48 rfl (w.heap.size + 1) 3 i0 (.int .i64 0) 1 Try.underlying48 hi hz0 hz1 .i64 .i64 _ nP rfl rfl rfl (by rw [hz2]; omega) (by unfold maxLen; omega) (by simp) ?_; intro w1 hown1 hgrow1))
    have B1 : Below (w.heap.size + 1) (w.alloc (.cells #[.int .i64 S, .slice (some ⟨g, 0, none⟩) n n] 25)) w1 := (Below.refl _ _).grown hgrow1 (by first | omega | (simp; done) | (simp; omega)) (fun k hk => by simp at hk)
    go_loopw [5, 16] (fun v i wr => ∃ k : Nat, k ≤ nP ∧ i = .int .i64 k ∧ Below (w.heap.size + 1) (w.alloc (.cells #[.int .i64 S, .slice (some ⟨g, 0, none⟩) n n] 25)) wr ∧ wr.ownsRow (w.heap.size + 1) 3 1 v k ((atsTo P k).map (Value.int .i64)) ∧ ∀ i, i < k → (0 ≤ P i 1 ∧ P i 1 < (n : Int)) ∧ (P i 2 = 1 ∨ P i 2 = -1)) (fun _ i _ => nP - (intOf i).toNat)
    case atStart => exact ⟨0, Nat.zero_le _, rfl, B1, by simpa [atsTo] using hown1, fun i hi => by omega⟩
    case round =>
      obtain ⟨k, hk, rfl, hbel, hown, hgood⟩ := hrel
      clear B1 hown1 hgrow1
      have HG : Hid (∀ i, i < k → (0 ≤ P i 1 ∧ P i 1 < (n : Int)) ∧ (P i 2 = 1 ∨ P i 2 = -1)) := hgood
      have hB : Below w.heap.size w wr := (show Below w.heap.size w _ from (by repeat (first | exact Below.refl _ _ | assumption | refine below_alloc ?_ _ | refine Below.setCell ?_ (by first | omega | (simp; done) | (simp; omega)) _ | refine Below.alloc ?_ (by first | omega | (simp; done) | (simp; omega)) _ | refine Below.drew ?_))).trans (hbel.mono (by first | omega | (simp; done) | (simp; omega)))
      have HB : Hid (Below w.heap.size w wr) := hB
      have HBel : Hid (Below (w.heap.size + 1) (w.alloc (.cells #[.int .i64 S, .slice (some ⟨g, 0, none⟩) n n] 25)) wr) := hbel
      have hsz : w.heap.size < wr.heap.size := by have := hbel.size; simp at this; omega
      have cL0 : wr.cell? ⟨w.heap.size, 0, none⟩ = some (.int .i64 S) := (hbel.cell (p := ⟨w.heap.size, 0, none⟩) (by first | omega | (simp; done) | (simp; omega))).trans (by simp)
      have cL1 : wr.cell? ⟨w.heap.size, 1, none⟩ = some (.slice (some ⟨g, 0, none⟩) n n) := (hbel.cell (p := ⟨w.heap.size, 1, none⟩) (by first | omega | (simp; done) | (simp; omega))).trans (by simp)
      clear hgood
      by_cases hlt : k < nP
      · have R := hP.below hB hgp
        have c0 : wr.cell? ⟨gp, k * 3, none⟩ = some (.int .i64 (P k 0)) := R.cell0 hlt (by omega)
        have c1 : wr.cell? ⟨gp, k * 3 + 1, none⟩ = some (.int .i64 (P k 1)) := R.cell (j := 1) hlt (by omega)
        have c2 : wr.cell? ⟨gp, k * 3 + 2, none⟩ = some (.int .i64 (P k 2)) := R.cell (j := 2) hlt (by omega)
        have hgl : gp < wr.heap.size := R.lt
        have HA : Hid ((atsTo P (k + 1)).map (Value.int .i64) = (atsTo P k).map (Value.int .i64) ++ [.int .i64 (P k 0)]) := atsTo_succ P k
        obtain ⟨x, hx⟩ : ∃ x, P k 0 = x := ⟨_, rfl⟩
        obtain ⟨y, hy⟩ : ∃ y, P k 1 = y := ⟨_, rfl⟩
        obtain ⟨z, hz⟩ : ∃ z, P k 2 = z := ⟨_, rfl⟩
        have HX : Hid (P k 0 = x ∧ P k 1 = y ∧ P k 2 = z) := ⟨hx, hy, hz⟩
        rw [hx] at c0 HA
        rw [hy] at c1
        rw [hz] at c2
        clear hP R hx hy hz hbel hB
        have bad : ¬ (0 ≤ y ∧ y < (n : Int) ∧ (z = 1 ∨ z = -1)) → Hid (decide (PostsV n nP P) = false) := fun hb => by
          refine decide_eq_false fun hA => hb ?_
          have := hA.2 k hlt
          unfold postOk at this
          simp only [HX.out.2.1, HX.out.2.2] at this
          omega
        by_cases h1 : 0 ≤ y ∧ y < (n : Int)
        · have hc1 := fun w => counterOk_any S y g n w true (by simp [h1])
          by_cases h2 : z = 1 ∨ z = -1
          · have hc2 := fun w => dirOk_any z w true (by simp [h2])
            clear bad
            go_wp2_with fail
            refine (hc1 _).mono ?_
            rintro e w2 ⟨rfl, hb2⟩
            have d0 : w2.cell? ⟨wr.heap.size, 0, none⟩ = some (.int .i64 x) := (hb2.cell (p := ⟨wr.heap.size, 0, none⟩) (by first | omega | (simp; done) | (simp; omega))).trans (by simp)
            have d2 : w2.cell? ⟨wr.heap.size, 2, none⟩ = some (.int .i64 z) := (hb2.cell (p := ⟨wr.heap.size, 2, none⟩) (by first | omega | (simp; done) | (simp; omega))).trans (by simp)
            have l2 : wr.heap.size < w2.heap.size := by have := hb2.size; simp at this; omega
            have own2 := own_below (hown.alloc (.cells #[.int .i64 x, .int .i64 y, .int .i64 z] 103)) hb2
            have B2 := (HBel.out.alloc (o := .cells #[.int .i64 x, .int .i64 y, .int .i64 z] 103) (by first | omega | (simp; done) | (simp; omega))).trans (hb2.mono (by first | omega | (simp; done) | (simp; omega)))
            clear hc1 hb2
            go_wp2_with fail
            refine (hc2 _).mono ?_
            rintro e w3 ⟨rfl, hb3⟩
            have d0 : w3.cell? ⟨wr.heap.size, 0, none⟩ = some (.int .i64 x) := (hb3.cell (p := ⟨wr.heap.size, 0, none⟩) l2).trans d0
            have own3 := own_below own2 hb3
            have B3 := B2.trans (hb3.mono (by have := l2; omega))
            have hs3 := hb3.size
            have hnw := cell_one_new w3 (.int .i64 x) 3
            clear hc2 hb3 own2 B2 d2
            go_wp2_with (first
              | (at_builtin; refine wpList_append_own _ rfl _ _ 48 rfl (w.heap.size + 1) 3 i0 (.int .i64 0) 1 8 Try.underlying48 hi hz0 hz1 hz2 rfl (by decide) _ _ _ rfl (own3.alloc _) ⟨w3.heap.size, 0, none⟩ 1 1 [.int .i64 x] rfl rfl hnw (ints_oneCell .i64 [x]) (by unfold maxLen; omega) (by omega) (by simp; omega) ?_; intro v' w4 hown' hgrow hnil))
            go_wp2
            go_roundw
            case rel =>
              refine ⟨k + 1, by omega, by go_num, (B3.alloc (by omega) _).grown hgrow (by simp; omega) (fun j hj => (own3.lt j hj).1), by rw [HA.out]; exact hown', fun i hi => ?_⟩
              rcases (show i < k ∨ i = k by omega) with h' | rfl
              · exact HG.out i h'
              · rw [HX.out.2.1, HX.out.2.2]; exact ⟨h1, h2⟩
            case measure => simp [intOf]; omega
          · have hc2 := fun w => dirOk_any z w false (by simp [h2])
            have HN := bad (fun h => h2 h.2.2)
            clear bad
            go_wp2_with fail
            refine (hc1 _).mono ?_
            rintro e w2 ⟨rfl, hb2⟩
            have d2 : w2.cell? ⟨wr.heap.size, 2, none⟩ = some (.int .i64 z) := (hb2.cell (p := ⟨wr.heap.size, 2, none⟩) (by first | omega | (simp; done) | (simp; omega))).trans (by simp)
            have B2 := below_on (below_alloc HB.out (.cells #[.int .i64 x, .int .i64 y, .int .i64 z] 103)) hb2
            clear hc1 hb2
            go_wp2_with fail
            refine (hc2 _).mono ?_
            rintro e w3 ⟨rfl, hb3⟩
            go_wp2
            go_ret
            exact ⟨by rw [HN.out]; rfl, below_on B2 hb3⟩
        · have hc1 := fun w => counterOk_any S y g n w false (by simpa using h1)
          have HN := bad (fun h => h1 ⟨h.1, h.2.1⟩)
          clear bad
          go_wp2_with fail
          refine (hc1 _).mono ?_
          rintro e w2 ⟨rfl, hb2⟩
          go_wp2
          go_ret
          exact ⟨by rw [HN.out]; rfl, below_on (below_alloc HB.out _) hb2⟩
      · have hkn : k = nP := by omega
        subst hkn
        have hF := IntF.of_row (zs := atsTo P k) (by rw [atsTo_len]; exact hown)
        rw [atsTo_len] at hF
        have hc := ascend_any _ _ _ _ wr (by omega) hF
        have HN : Hid (decide (PostsV n k P) = decide (Asc k (fun i => (atsTo P k).getD i 0))) := decide_eq_decide.2 ⟨fun h => Asc.congr (Z := fun i => P i 0) (fun i hi => (h.2 i hi).1) (fun i hi => (atsTo_at P hi).symm), fun h => ⟨hnp, fun i hi => ⟨(Asc.congr h (Z' := fun i => P i 0) (fun i hi => atsTo_at P hi)) i hi, HG.out i hi⟩⟩⟩
        go_wp2_with fail
        refine hc.mono ?_
        rintro e w2 ⟨rfl, hb2⟩
        go_wp2
        go_ret
        exact ⟨by rw [HN.out]; rfl, below_on HB.out hb2⟩
  · have e1 : decide (PostsV n nP P) = false := decide_eq_false fun h => by have := h.1; omega
    rw [e1]
    clear e1
    go_enter Try.func63, Try.ntmps63
    go_wp2
    go_ret
    exact ⟨rfl, (by repeat (first | exact Below.refl _ _ | assumption | refine below_alloc ?_ _ | refine Below.setCell ?_ (by first | omega | (simp; done) | (simp; omega)) _ | refine Below.alloc ?_ (by first | omega | (simp; done) | (simp; omega)) _ | refine Below.drew ?_))⟩

end Go.Proofs.Ytlpopfhaephfaaa
