import Derived.Test.YtlpopfhaephfaabTR3
import Derived.Test.YtlpopfhaephfaabDM7
namespace Go.Proofs.Ytlpopfhaephfaab
open Go.RowKit Go.Maps

/-- numbers as a row of cells -/
def rowV (Z : Nat → Int) : Nat → Nat → Value := fun i _ => .int .i64 (Z i)
def markZ (q0 : Int) (i : Nat) : Int := q0 + (i : Int)
def markI (q0 : Int) (k : Nat) (f : Nat → Value) : Nat → Value := fun c => if c < k then .int .i64 (markZ q0 c) else f c
theorem markI_step (q0 : Int) (k : Nat) (f : Nat → Value) (c : Nat) : (if c = k then .int .i64 (markZ q0 k) else markI q0 k f c) = markI q0 (k + 1) f c := by
  unfold markI
  rcases Nat.lt_trichotomy c k with h | h | h
  · rw [if_neg (by omega), if_pos h, if_pos (by omega)]
  · subst h; rw [if_pos rfl, if_pos (by omega)]
  · rw [if_neg (by omega), if_neg (by omega), if_neg (by omega)]

theorem oneZ {w : World} {g e m n k : Nat} {f : Nat → Value} {D : Nat → Int} (h : Blk w g e m f) (hm : n * 1 ≤ m) (hk : k < n) (hf : ∀ i, i < n → ∀ j, j < 1 → f (i * 1 + j) = rowV D i j) : w.cell? ⟨g, k, none⟩ = some (.int .i64 (D k)) := by
  rw [h.cell (by omega)]
  have := hf k hk 0 (by omega)
  simp only [Nat.mul_one, Nat.add_zero] at this
  rw [this]; rfl

set_option maxHeartbeats 1000000 in
theorem eqIntS_same (lo hi lo' hi' n : Nat) (v v' : Value) (D D' : Nat → Int) (w : World) (hn : n ≤ 1048576) (h : SlF w 3 1 lo hi v n (rowV D)) (h' : SlF w 3 1 lo' hi' v' n (rowV D')) (he : ∀ i, i < n → D' i = D i) :
    Calls Try.prog 82 #[v, v'] w fun e w' => e = .returned (.bool true) ∧ Below w.heap.size w w' := by
  obtain ⟨ao, cap, rfl, h0⟩ := h
  obtain ⟨ao', cap', rfl, h0'⟩ := h'
  go_enter Try.func82, Try.ntmps82
  go_wp2
  go_loopw [5] (fun i wr => ∃ k : Nat, k ≤ n ∧ i = .int .i64 k ∧ Below w.heap.size w wr) (fun i _ => n - (intOf i).toNat)
  case atStart => exact ⟨0, Nat.zero_le _, rfl, Below.refl _ _⟩
  case round =>
    obtain ⟨k, hk, rfl, hbel⟩ := hrel
    by_cases hlt : k < n
    · rcases h0 with h0 | ⟨g, m, f, rfl, _, _, h2, h3, h4⟩
      · omega
      rcases h0' with h0' | ⟨g', m', f', rfl, _, _, h2', h3', h4'⟩
      · omega
      have c0 := oneZ (h3.below hbel h3.lt) h2 hlt h4
      have d0 := oneZ (h3'.below hbel h3'.lt) h2' hlt h4'
      rw [he k hlt] at d0
      have hi : (k : Int) < (n : Int) := by omega
      clear h3 h3' h4 h4' he h2 h2'
      go_wp2
      go_region
      all_goals
        go_wp2
        go_roundw
        case rel => exact ⟨k + 1, by omega, by go_num, hbel.drew⟩
        case measure => simp [intOf]; omega
    · go_wp2
      go_ret
      exact ⟨rfl, hbel⟩

set_option maxHeartbeats 1000000 in
theorem markIntS_any (lo hi n : Nat) (v : Value) (q0 : Int) (G : Nat → Nat → Value) (w : World) (hn : n ≤ 1048576) (hq0 : 0 ≤ q0) (hq1 : q0 ≤ 100000000000) (h : SlF w 3 1 lo hi v n G) :
    Calls Try.prog 83 #[v, .int .i64 q0] w fun e w' => e = .returned (.int .i64 (q0 + (n : Int))) ∧ SlF w' 3 1 lo hi v n (rowV (markZ q0)) ∧ Turned w w' (· = 3) lo hi := by
  obtain ⟨ao, cap, rfl, h0⟩ := h
  rcases h0 with rfl | ⟨g, m, f, rfl, a1, a2, h2, h1, _⟩
  · go_enter Try.func83, Try.ntmps83
    go_wp2
    refine wp_loop_rounds 1 ?_
    rw [rounds_succ]
    go_wp2
    go_ret
    exact ⟨by simp, ⟨ao, cap, rfl, .inl rfl⟩, Turned.refl _ _ _ _⟩
  · go_enter Try.func83, Try.ntmps83
    go_wp2
    go_loopw [1, 5] (fun q i wr => ∃ k : Nat, k ≤ n ∧ i = .int .i64 k ∧ q = .int .i64 (q0 + (k : Int)) ∧ Blk wr g 3 m (markI q0 k f) ∧ w.grownBy wr (some g)) (fun _ i _ => n - (intOf i).toNat)
    case atStart => exact ⟨0, Nat.zero_le _, rfl, by simp, h1.congr (fun i _ => by simp [markI]), World.grownBy.refl _ _⟩
    case round =>
      obtain ⟨k, hk, rfl, rfl, hB, hG⟩ := hrel
      by_cases hlt : k < n
      · have c0 := hB.cell (i := k) (by omega)
        have z0 := hB.frozen k
        clear h1
        go_wp2
        go_roundw
        case rel => exact ⟨k + 1, by omega, by go_num, by go_num, (hB.set k _).congr (fun c _ => markI_step q0 k f c), grown_set hG _⟩
        case measure => simp [intOf]; omega
      · go_wp2
        go_ret
        have : k = n := by omega
        subst this
        refine ⟨rfl, ⟨_, cap, rfl, .inr ⟨g, m, _, rfl, a1, a2, h2, hB, fun i hi j hj => ?_⟩⟩, Turned.of_grown hG a1 a2 rfl h1⟩
        have : j = 0 := by omega
        subst this
        simp [markI, rowV, hi]

set_option maxHeartbeats 1000000 in
theorem heldIntS_any (lo hi n : Nat) (v : Value) (q0 : Int) (w : World) (hn : n ≤ 1048576) (hq0 : 0 ≤ q0) (hq1 : q0 ≤ 100000000000) (h : SlF w 3 1 lo hi v n (rowV (markZ q0))) :
    Calls Try.prog 84 #[v, .int .i64 q0] w fun e w' => e = .returned (.int .i64 (q0 + (n : Int))) ∧ Below w.heap.size w w' := by
  obtain ⟨ao, cap, rfl, h0⟩ := h
  go_enter Try.func84, Try.ntmps84
  go_wp2
  go_loopw [1, 5] (fun q i wr => ∃ k : Nat, k ≤ n ∧ i = .int .i64 k ∧ q = .int .i64 (q0 + (k : Int)) ∧ Below w.heap.size w wr) (fun _ i _ => n - (intOf i).toNat)
  case atStart => exact ⟨0, Nat.zero_le _, rfl, by simp, Below.refl _ _⟩
  case round =>
    obtain ⟨k, hk, rfl, rfl, hbel⟩ := hrel
    by_cases hlt : k < n
    · rcases h0 with h0 | ⟨g, m, f, rfl, _, _, h2, h3, h4⟩
      · omega
      have c0 := oneZ (h3.below hbel h3.lt) h2 hlt h4
      simp only [markZ] at c0
      clear h3 h4
      go_wp2
      go_roundw
      case rel => exact ⟨k + 1, by omega, by go_num, by go_num, hbel⟩
      case measure => simp [intOf]; omega
    · go_wp2
      go_ret
      have : k = n := by omega
      subst this
      exact ⟨rfl, hbel⟩

def intL (D : Nat → Int) : Nat → List Value
  | 0 => []
  | k + 1 => intL D k ++ [.int .i64 (D k)]

theorem intL_len (D : Nat → Int) (k : Nat) : (intL D k).length = k := by
  induction k with
  | zero => rfl
  | succ k ih => simp only [intL, List.length_append, ih, List.length_cons, List.length_nil]
theorem intL_get (D : Nat → Int) (k i : Nat) (hi : i < k) : (intL D k)[i]? = some (.int .i64 (D i)) := by
  induction k with
  | zero => omega
  | succ k ih =>
    unfold intL
    by_cases e : i < k
    · rw [List.getElem?_append_left (by rw [intL_len]; omega)]; exact ih e
    · have e' : i = k := by omega
      subst e'
      rw [List.getElem?_append_right (by rw [intL_len]; omega), intL_len]
      simp
theorem intL_uniI (D : Nat → Int) (k : Nat) : ∀ u ∈ intL D k, u.oneCell' = true := by
  induction k with
  | zero => simp [intL]
  | succ k ih =>
    intro u hu
    unfold intL at hu
    rcases List.mem_append.1 hu with h | h
    · exact ih u h
    · simp only [List.mem_cons, List.not_mem_nil, or_false] at h
      subst h; rfl

theorem intL_cells {w : World} {g m n : Nat} {e : TypeId} {f : Nat → Value} {D : Nat → Int} (b2 : Blk w g e m f) (b1 : n * 1 ≤ m) (b3 : ∀ i, i < n → ∀ j, j < 1 → f (i * 1 + j) = rowV D i j) : ∀ j u, (intL D n)[j]? = some u → w.cell? ((⟨g, 0, none⟩ : Addr).add j) = some u := by
  intro j u hu
  have hj : j < n := by rw [← intL_len D n]; exact (List.getElem?_eq_some_iff.1 hu).1
  have ea : (⟨g, 0, none⟩ : Addr).add j = ⟨g, j, none⟩ := by simp [Addr.add]; exact fun h => h.symm
  rw [ea, oneZ b2 b1 hj b3]
  rw [intL_get D n j hj] at hu
  exact hu

set_option maxRecDepth 100000 in
set_option maxHeartbeats 1000000 in
theorem cloneI_some (ad : Addr) (n c2 : Nat) (D : Nat → Int) (w : World) (hn : n ≤ 60) (hnw : ∀ j u, (intL D n)[j]? = some u → (w.alloc (.cells #[] 3)).cell? (ad.add j) = some u) :
    Calls Try.prog 81 #[.slice (some ad) n c2] w fun e w' => ∃ a' c', e = .returned (.slice a' n c') ∧ SlF w' 3 1 w.heap.size w'.heap.size (.slice a' n c') n (rowV D) ∧ Below w.heap.size w w' := by
  obtain ⟨i0, hi, hz0, hz1, hz2⟩ := info_parts Try.infoIn
  have hown : (w.alloc (.cells #[] 3)).ownsRow w.heap.size 3 1 (.slice (some ⟨w.heap.size, 0, none⟩) 0 0) 0 [] := World.ownsRow_lit w #[] 0 (Nat.le_refl _) (Nat.zero_le _) rfl
  have hq : ∀ W : World, (binOp .eql 91 (.slice (some ad) n c2) (.slice none 0 0)).run Try.prog W = .ok (.bool false) W := fun W => Go.Lib.run_eql_slice_nil W _ _ _ _ _ _ _ Try.underlying91
  go_enter Try.func81, Try.ntmps81
  go_wp2_with (first
    | (at_builtin; refine wpList_append_own _ rfl _ _ 91 rfl w.heap.size 3 i0 _ 1 8 Try.underlying91 hi hz0 hz1 hz2 rfl (by decide) _ _ _ rfl hown ad n c2 (intL D n) rfl (by rw [intL_len]; omega) hnw (intL_uniI D n) (by unfold maxLen; omega) (by omega) (by simp) ?_; intro v' w2 hown' hgrow hnil))
  go_ret
  have hS : SlF w2 3 1 w.heap.size w2.heap.size v' n (rowV D) := by
    have := SlF.of_ownsRow (G := rowV D) hown' (fun i hi j hj => by
      have hj0 : j = 0 := by omega
      subst hj0
      simp only [List.nil_append, Nat.mul_one, Nat.add_zero]; exact intL_get D n i (by omega))
    rw [Nat.zero_add] at this
    exact this
  have hBw : Below w.heap.size w w2 := (below_alloc (Below.refl _ _) _).grown hgrow (by simp) (fun k hk => (hown.lt k hk).1)
  obtain ⟨ao, cap, rfl, h0⟩ := id hS
  exact ⟨ao, cap, rfl, hS, hBw⟩

set_option maxRecDepth 100000 in
theorem cloneI_any (a2 : Option Addr) (lo hi n c2 : Nat) (D : Nat → Int) (w : World) (hn : n ≤ 60) (hd : SlF w 3 1 lo hi (.slice a2 n c2) n (rowV D)) :
    Calls Try.prog 81 #[.slice a2 n c2] w fun e w' => ∃ a' c', e = .returned (.slice a' n c') ∧ SlF w' 3 1 w.heap.size w'.heap.size (.slice a' n c') n (rowV D) ∧ Below w.heap.size w w' := by
  rcases Nat.eq_zero_or_pos n with rfl | hp
  · cases a2 with
    | none =>
      have hq : ∀ W : World, (binOp .eql 91 (.slice none 0 c2) (.slice none 0 0)).run Try.prog W = .ok (.bool true) W := fun W => Go.Lib.run_eql_slice_nil W _ _ _ _ _ _ _ Try.underlying91
      go_enter Try.func81, Try.ntmps81
      go_wp2
      go_ret
      exact ⟨none, 0, rfl, ⟨none, 0, rfl, .inl rfl⟩, Below.refl _ _⟩
    | some ad => exact cloneI_some ad 0 c2 D w hn (fun j u hu => by simp [intL] at hu)
  · obtain ⟨g, rfl⟩ := hd.addr hp
    obtain ⟨l1, l2, m, f, b1, b2, b3⟩ := hd.blk hp
    exact cloneI_some ⟨g, 0, none⟩ n c2 D w hn (intL_cells (b2.alloc _) b1 b3)

end Go.Proofs.Ytlpopfhaephfaab
