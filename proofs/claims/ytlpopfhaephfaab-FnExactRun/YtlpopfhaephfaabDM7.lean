import Derived.Test.YtlpopfhaephfaabDM6
import Derived.Test.YtlpopfhaephfaabRC
import Derived.Lib.SliceRun
namespace Go.Proofs.Ytlpopfhaephfaab
open Go.RowKit Go.Maps Go.Sort

theorem secL_cells {w : World} {g m ns : Nat} {e : TypeId} {f : Nat → Value} {X : Nat → Sec} (b2 : Blk w g e m f) (b1 : ns * 5 ≤ m) (b3 : ∀ i, i < ns → ∀ j, j < 5 → f (i * 5 + j) = secs X i j) : ∀ j u, (secL X ns)[j]? = some u → w.cell? ((⟨g, 0, none⟩ : Addr).add j) = some u := by
  intro j u hu
  have hj : j < ns * 5 := by rw [← secL_len X ns]; exact (List.getElem?_eq_some_iff.1 hu).1
  have hd : j = j / 5 * 5 + j % 5 := by omega
  have h5 : j % 5 < 5 := Nat.mod_lt _ (by omega)
  have hq : j / 5 < ns := by omega
  have ea : (⟨g, 0, none⟩ : Addr).add j = ⟨g, j, none⟩ := by simp [Addr.add]; exact fun h => h.symm
  rw [ea, b2.cell (by omega)]
  rw [hd, secL_get X ns _ _ hq h5] at hu
  rw [hd, b3 _ hq _ h5]
  exact hu

set_option maxRecDepth 100000 in
set_option maxHeartbeats 1000000 in
theorem cloneS_any (gs lo hi ns c1 : Nat) (X : Nat → Sec) (w : World) (hp : 0 < ns) (hns : ns ≤ 60) (hx : SlF w 93 5 lo hi (.slice (some ⟨gs, 0, none⟩) ns c1) ns (secs X)) :
    Calls Try.prog 103 #[.slice (some ⟨gs, 0, none⟩) ns c1] w fun e w' => ∃ g' c', e = .returned (.slice (some ⟨g', 0, none⟩) ns c') ∧ SlF w' 93 5 w.heap.size w'.heap.size (.slice (some ⟨g', 0, none⟩) ns c') ns (secs X) ∧ Below w.heap.size w w' := by
  obtain ⟨i0, hi, hz0, hz1, hz2⟩ := info_parts Try.infoS
  obtain ⟨l1, l2, m, f, b1, b2, b3⟩ := hx.blk hp
  have hb2 := b2.alloc (.cells #[] 93)
  have hnw := secL_cells hb2 b1 b3
  have hown : (w.alloc (.cells #[] 93)).ownsRow w.heap.size 93 5 (.slice (some ⟨w.heap.size, 0, none⟩) 0 0) 0 [] := World.ownsRow_lit w #[] 0 (Nat.le_refl _) (Nat.zero_le _) rfl
  have hq : ∀ W : World, (binOp .eql 42 (.slice (some ⟨gs, 0, none⟩) ns c1) (.slice none 0 0)).run Try.prog W = .ok (.bool false) W := fun W => Go.Lib.run_eql_slice_nil W _ _ _ _ _ _ _ Try.underlying42
  clear b2 b3 hb2 hx
  go_enter Try.func103, Try.ntmps103
  go_wp2_with (first
    | (at_builtin; refine wpList_append_own _ rfl _ _ 42 rfl w.heap.size 93 i0 _ 5 32 Try.underlying42 hi hz0 hz1 hz2 rfl (by decide) _ _ _ rfl hown ⟨gs, 0, none⟩ ns c1 (secL X ns) rfl (secL_len X ns) hnw (secL_one X ns) (by unfold maxLen; omega) (by omega) (by simp) ?_; intro v' w2 hown' hgrow hnil))
  go_ret
  have hS : SlF w2 93 5 w.heap.size w2.heap.size v' ns (secs X) := by
    have := SlF.of_ownsRow (G := secs X) hown' (fun i hi j hj => by simp only [List.nil_append]; exact secL_get X ns i j (by omega) hj)
    rw [Nat.zero_add] at this
    exact this
  have hBw : Below w.heap.size w w2 := (below_alloc (Below.refl _ _) _).grown hgrow (by simp) (fun k hk => (hown.lt k hk).1)
  obtain ⟨ao, cap, rfl, h0⟩ := id hS
  obtain ⟨g', rfl⟩ := hS.addr hp
  exact ⟨g', cap, rfl, hS, hBw⟩

theorem boolL_cells {w : World} {g m n : Nat} {e : TypeId} {f : Nat → Value} {D : Nat → Bool} (b2 : Blk w g e m f) (b1 : n * 1 ≤ m) (b3 : ∀ i, i < n → ∀ j, j < 1 → f (i * 1 + j) = bools D i j) : ∀ j u, (boolL D n)[j]? = some u → w.cell? ((⟨g, 0, none⟩ : Addr).add j) = some u := by
  intro j u hu
  have hj : j < n := by rw [← boolL_len D n]; exact (List.getElem?_eq_some_iff.1 hu).1
  have ea : (⟨g, 0, none⟩ : Addr).add j = ⟨g, j, none⟩ := by simp [Addr.add]; exact fun h => h.symm
  rw [ea, one b2 b1 hj b3]
  rw [boolL_get D n j hj] at hu
  exact hu

set_option maxRecDepth 100000 in
set_option maxHeartbeats 1000000 in
theorem cloneB_some (ad : Addr) (n c2 : Nat) (D : Nat → Bool) (w : World) (hn : n ≤ 120) (hnw : ∀ j u, (boolL D n)[j]? = some u → (w.alloc (.cells #[] 4)).cell? (ad.add j) = some u) :
    Calls Try.prog 104 #[.slice (some ad) n c2] w fun e w' => ∃ a' c', e = .returned (.slice a' n c') ∧ SlF w' 4 1 w.heap.size w'.heap.size (.slice a' n c') n (bools D) ∧ Below w.heap.size w w' := by
  obtain ⟨i0, hi, hz0, hz1, hz2⟩ := info_parts Try.infoB
  have hown : (w.alloc (.cells #[] 4)).ownsRow w.heap.size 4 1 (.slice (some ⟨w.heap.size, 0, none⟩) 0 0) 0 [] := World.ownsRow_lit w #[] 0 (Nat.le_refl _) (Nat.zero_le _) rfl
  have hq : ∀ W : World, (binOp .eql 38 (.slice (some ad) n c2) (.slice none 0 0)).run Try.prog W = .ok (.bool false) W := fun W => Go.Lib.run_eql_slice_nil W _ _ _ _ _ _ _ Try.underlying38
  go_enter Try.func104, Try.ntmps104
  go_wp2_with (first
    | (at_builtin; refine wpList_append_own _ rfl _ _ 38 rfl w.heap.size 4 i0 _ 1 1 Try.underlying38 hi hz0 hz1 hz2 rfl (by decide) _ _ _ rfl hown ad n c2 (boolL D n) rfl (by rw [boolL_len]; omega) hnw (boolL_one D n) (by unfold maxLen; omega) (by omega) (by simp) ?_; intro v' w2 hown' hgrow hnil))
  go_ret
  have hS : SlF w2 4 1 w.heap.size w2.heap.size v' n (bools D) := by
    have := SlF.of_ownsRow (G := bools D) hown' (fun i hi j hj => by
      have hj0 : j = 0 := by omega
      subst hj0
      simp only [List.nil_append, Nat.mul_one, Nat.add_zero]; exact boolL_get D n i (by omega))
    rw [Nat.zero_add] at this
    exact this
  have hBw : Below w.heap.size w w2 := (below_alloc (Below.refl _ _) _).grown hgrow (by simp) (fun k hk => (hown.lt k hk).1)
  obtain ⟨ao, cap, rfl, h0⟩ := id hS
  exact ⟨ao, cap, rfl, hS, hBw⟩

set_option maxRecDepth 100000 in
theorem cloneB_any (a2 : Option Addr) (lo hi n c2 : Nat) (D : Nat → Bool) (w : World) (hn : n ≤ 120) (hd : SlF w 4 1 lo hi (.slice a2 n c2) n (bools D)) :
    Calls Try.prog 104 #[.slice a2 n c2] w fun e w' => ∃ a' c', e = .returned (.slice a' n c') ∧ SlF w' 4 1 w.heap.size w'.heap.size (.slice a' n c') n (bools D) ∧ Below w.heap.size w w' := by
  rcases Nat.eq_zero_or_pos n with rfl | hp
  · cases a2 with
    | none =>
      have hq : ∀ W : World, (binOp .eql 38 (.slice none 0 c2) (.slice none 0 0)).run Try.prog W = .ok (.bool true) W := fun W => Go.Lib.run_eql_slice_nil W _ _ _ _ _ _ _ Try.underlying38
      go_enter Try.func104, Try.ntmps104
      go_wp2
      go_ret
      exact ⟨none, 0, rfl, ⟨none, 0, rfl, .inl rfl⟩, Below.refl _ _⟩
    | some ad => exact cloneB_some ad 0 c2 D w hn (fun j u hu => by simp [boolL] at hu)
  · obtain ⟨g, rfl⟩ := hd.addr hp
    obtain ⟨l1, l2, m, f, b1, b2, b3⟩ := hd.blk hp
    exact cloneB_some ⟨g, 0, none⟩ n c2 D w hn (boolL_cells (b2.alloc _) b1 b3)

end Go.Proofs.Ytlpopfhaephfaab
