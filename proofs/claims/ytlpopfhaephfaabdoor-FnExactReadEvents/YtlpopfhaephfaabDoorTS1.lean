import Derived.Test.YtlpopfhaephfaabDoorTX4
import Derived.Test.YtlpopfhaephfaabDoorTX5
namespace Go.Proofs.YtlpopfhaephfaabDoor
open Go.RowKit Go.Maps

/-- What a scanner leaves with. -/
def badV (k : Int) : Value := .iface 103 (.agg #[.int .i64 k])
def badE (k : Int) : Ending := .panicked [{ v := badV k, recovered := false }]

theorem must_true (b : Nat) (w : World) : Calls Tryd.prog 70 #[.pointer (some ⟨b, 0, none⟩), .bool true] w fun e w' => e = .returned (.tuple #[]) ∧ w' = w := by
  go_enter Tryd.func70, Tryd.ntmps70
  go_wp2
  go_end0
  exact ⟨rfl, rfl⟩

theorem must_false (b : Nat) (k : Int) (w : World) (h : w.cell? ⟨b, 5, none⟩ = some (.int .i64 k)) : Calls Tryd.prog 70 #[.pointer (some ⟨b, 0, none⟩), .bool false] w fun e w' => e = badE k ∧ w' = w := by
  go_enter Tryd.func70, Tryd.ntmps70
  go_wp2
  exact ⟨rfl, rfl, rfl⟩

theorem law9 : Keyed Tryd.prog 9 := string_keyed Tryd.underlying9
theorem zeroI (w : World) : (zeroValue 3).run Tryd.prog w = .ok (.int .i64 0) w := by kernel_rfl

theorem word_some (b mo : Nat) (f : List UInt8 → Option Int) (s : List UInt8) (c : Int) (w : World) (hk : Knows w mo f) (hs : s.length ≤ 20000) (hf : f s = some c) :
    Calls Tryd.prog 72 #[.pointer (some ⟨b, 0, none⟩), .map (some mo), .string ⟨s.toArray⟩] w fun e w' => e = .returned (.int .i64 c) ∧ w' = w := by
  obtain ⟨n, D, hn, ho, h2⟩ := hk
  have hkey : keyOf Tryd.prog 9 (.string ⟨s.toArray⟩) = some (.string s) := by
    rw [WideMaps.keyOf_string_mk Tryd.underlying9 (by rw [str_size]; unfold maxLen; omega)]
  have h3 := (h2 s).1
  have h4 := (h2 s).2 c hf
  rw [hf] at h3
  clear h2 hf
  go_enter Tryd.func72, Tryd.ntmps72
  go_wp2_with (at_lookup; refine wpList_lookup_own_ok_int _ rfl _ _ 105 rfl 9 3 .i64 law9 Tryd.underlying105 Tryd.underlying3 (zeroI _) mo n D rfl ho _ _ rfl hkey ?_; intro c' hat hwc)
  have hcc : c' = c := by
    rw [h4] at hat
    simpa using hat.symm
  subst hcc
  refine (must_true _ _).mono ?_
  rintro e w' ⟨rfl, rfl⟩
  clear hat h4 h3 ho
  go_wp2
  go_ret
  exact ⟨rfl, rfl⟩

theorem word_none (b mo : Nat) (k : Int) (f : List UInt8 → Option Int) (s : List UInt8) (w : World) (hk : Knows w mo f) (hs : s.length ≤ 20000) (hf : f s = none) (h : w.cell? ⟨b, 5, none⟩ = some (.int .i64 k)) :
    Calls Tryd.prog 72 #[.pointer (some ⟨b, 0, none⟩), .map (some mo), .string ⟨s.toArray⟩] w fun e w' => e = badE k ∧ w' = w := by
  obtain ⟨n, D, hn, ho, h2⟩ := hk
  have hkey : keyOf Tryd.prog 9 (.string ⟨s.toArray⟩) = some (.string s) := by
    rw [WideMaps.keyOf_string_mk Tryd.underlying9 (by rw [str_size]; unfold maxLen; omega)]
  have h3 := (h2 s).1
  rw [hf] at h3
  clear h2 hf
  go_enter Tryd.func72, Tryd.ntmps72
  go_wp2_with (at_lookup; refine wpList_lookup_own_ok_int _ rfl _ _ 105 rfl 9 3 .i64 law9 Tryd.underlying105 Tryd.underlying3 (zeroI _) mo n D rfl ho _ _ rfl hkey ?_; intro c' hat hwc)
  refine (must_false _ k _ h).mono ?_
  rintro e w' ⟨rfl, rfl⟩
  exact ⟨rfl, rfl, rfl⟩

/-- What is laid, where a text is read. -/
structure LayR (w : World) : Prop extends Lay w where
  syn : ∃ tp p, w.var? Tryd.prog "strconv.ErrSyntax" = some #[.iface tp p]
  rng : ∃ tp p, w.var? Tryd.prog "strconv.ErrRange" = some #[.iface tp p]
  mxl : ∃ m, w.cell? ⟨6, 0, none⟩ = some (.int .i64 m)

theorem Tryd.gSyn : Tryd.prog.globalNamed "strconv.ErrSyntax" = some 7 := by kernel_rfl
theorem Tryd.gRng : Tryd.prog.globalNamed "strconv.ErrRange" = some 8 := by kernel_rfl

theorem var_on {P : Program} {g : Nat} {W W' : World} {n : String} {cs : Array Value} (h : Below W.heap.size W W') (hg : P.globalNamed n = some g) (hv : W.var? P n = some cs) : W'.var? P n = some cs := by
  unfold World.var? at hv ⊢
  simp only [hg, Option.bind_some] at hv ⊢
  by_cases hl : g < W.heap.size
  · rw [h.block g hl]
    exact hv
  · rw [Array.getElem?_eq_none (by omega)] at hv
    cases hv

theorem LayR.on {w w' : World} (h : LayR w) (hb : Below w.heap.size w w') : LayR w' := by
  obtain ⟨h0, ⟨t1, p1, h1⟩, ⟨t2, p2, h2⟩, m, h3⟩ := h
  exact ⟨h0.on hb, ⟨t1, p1, var_on hb Tryd.gSyn h1⟩, ⟨t2, p2, var_on hb Tryd.gRng h2⟩, m, by rw [hb.cell (block_lt_of_cell h3)]; exact h3⟩

theorem atoi_below {w w' : World} (h : w' = w ∨ ∃ t, w' = Lib.bytesWorld w 5 t) : Below w.heap.size w w' := by
  rcases h with rfl | ⟨t, rfl⟩
  · exact Below.refl _ _
  · exact Lib.bytesWorld_below _ _ _

theorem number_some (b : Nat) (s : List UInt8) (v : Int) (w : World) (hs : s.length ≤ 20000) (hf : numB s = some v) (hL : LayR w) :
    Calls Tryd.prog 73 #[.pointer (some ⟨b, 0, none⟩), .string ⟨s.toArray⟩] w fun e w' => e = .returned (.int .i64 v) ∧ Below w.heap.size w w' := by
  obtain ⟨ha, hi⟩ : Lib.atoiAll s = .ok v ∧ Lib.itoa v = s := by
    unfold numB at hf
    split at hf
    · rename_i h
      split at hf
      · rename_i h2
        injection hf with hf
        subst hf
        exact ⟨h, h2⟩
      · cases hf
    · cases hf
  obtain ⟨v1, v2⟩ := Lib.atoiAll_bounds ha
  have ka := Tryd.strconv_Atoi_ok ⟨s.toArray⟩ (by rw [str_size]; omega) v ha w
  go_enter Tryd.func73, Tryd.ntmps73
  go_wp2_with fail
  refine ka.mono ?_
  rintro e w1 ⟨rfl, h1⟩
  have b1 := atoi_below h1
  clear h1 ka
  have ki := Tryd.strconv_Itoa v (by omega) (by omega) w1 (hL.on b1).pow
  rw [hi] at ki
  clear hi ha hf
  go_wp2_with fail
  refine ki.mono ?_
  rintro e w2 ⟨rfl, k, os, h2⟩
  have b2 : Below w1.heap.size w1 w2 := by rw [h2]; exact Lib.below_grow _ _ (Nat.le_refl _) _ _
  have B2 := below_on b1 b2
  clear h2 b2 ki b1
  go_wp2_with fail
  refine (must_true _ _).mono ?_
  rintro e w3 ⟨rfl, rfl⟩
  go_wp2
  go_ret
  exact ⟨rfl, B2⟩

theorem number_none (b : Nat) (k : Int) (s : List UInt8) (w : World) (hs : s.length ≤ 20000) (hf : numB s = none) (hL : LayR w) (hc : w.cell? ⟨b, 5, none⟩ = some (.int .i64 k)) :
    Calls Tryd.prog 73 #[.pointer (some ⟨b, 0, none⟩), .string ⟨s.toArray⟩] w fun e w' => e = badE k ∧ Below w.heap.size w w' := by
  cases ha : Lib.atoiAll s with
  | ok v =>
    have hi : ¬ Lib.itoa v = s := by
      intro h
      unfold numB at hf
      rw [ha] at hf
      simp [h] at hf
    obtain ⟨v1, v2⟩ := Lib.atoiAll_bounds ha
    have ka := Tryd.strconv_Atoi_ok ⟨s.toArray⟩ (by rw [str_size]; omega) v ha w
    go_enter Tryd.func73, Tryd.ntmps73
    go_wp2_with fail
    refine ka.mono ?_
    rintro e w1 ⟨rfl, h1⟩
    have b1 := atoi_below h1
    clear h1 ka
    have ki := Tryd.strconv_Itoa v (by omega) (by omega) w1 (hL.on b1).pow
    obtain ⟨z, hz⟩ : ∃ z, Lib.itoa v = z := ⟨_, rfl⟩
    rw [hz] at ki hi
    clear hz ha hf
    go_wp2_with fail
    refine ki.mono ?_
    rintro e w2 ⟨rfl, k', os, h2⟩
    have b2 : Below w1.heap.size w1 w2 := by rw [h2]; exact Lib.below_grow _ _ (Nat.le_refl _) _ _
    have B2 := below_on b1 b2
    have hc2 : w2.cell? ⟨b, 5, none⟩ = some (.int .i64 k) := by rw [B2.cell (block_lt_of_cell hc)]; exact hc
    clear h2 b2 ki b1
    have hq : (z == s) = false := by simpa using hi
    go_wp2_with fail
    refine (must_false _ k _ hc2).mono ?_
    rintro e w3 ⟨rfl, rfl⟩
    exact ⟨rfl, rfl, B2⟩
  | «syntax» =>
    obtain ⟨tp, p, hv⟩ := hL.syn
    have ka := Tryd.strconv_Atoi_syntax_var ⟨s.toArray⟩ (by rw [str_size]; omega) ha tp p w hv
    clear hf ha
    go_enter Tryd.func73, Tryd.ntmps73
    go_wp2_with fail
    refine ka.mono ?_
    rintro e w1 ⟨N, rfl, _, _, b1⟩
    have hc2 : w1.cell? ⟨b, 5, none⟩ = some (.int .i64 k) := by rw [b1.cell (block_lt_of_cell hc)]; exact hc
    clear ka
    go_wp2_with fail
    refine (must_false _ k _ hc2).mono ?_
    rintro e w3 ⟨rfl, rfl⟩
    exact ⟨rfl, rfl, b1⟩
  | range =>
    obtain ⟨tp, p, hv⟩ := hL.rng
    have ka := Tryd.strconv_Atoi_range_var ⟨s.toArray⟩ (by rw [str_size]; omega) ha tp p w hv
    generalize Lib.atoiSat _ = z at ka
    clear hf ha
    go_enter Tryd.func73, Tryd.ntmps73
    go_wp2_with fail
    refine ka.mono ?_
    rintro e w1 ⟨N, rfl, _, _, b1⟩
    have hc2 : w1.cell? ⟨b, 5, none⟩ = some (.int .i64 k) := by rw [b1.cell (block_lt_of_cell hc)]; exact hc
    clear ka
    go_wp2_with fail
    refine (must_false _ k _ hc2).mono ?_
    rintro e w3 ⟨rfl, rfl⟩
    exact ⟨rfl, rfl, b1⟩

end Go.Proofs.YtlpopfhaephfaabDoor
