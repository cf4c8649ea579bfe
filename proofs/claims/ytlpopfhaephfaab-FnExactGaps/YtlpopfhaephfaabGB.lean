import Derived.Test.YtlpopfhaephfaabGA
import Derived.Test.YtlpopfhaephfaabDM7
import Derived.Test.YtlpopfhaephfaabRN4
namespace Go.Proofs.Ytlpopfhaephfaab
open Go.RowKit Go.Maps

/-- numbers as a row of cells -/
def rowV (Z : Nat → Int) : Nat → Nat → Value := fun i _ => .int .i64 (Z i)
def markZ (q0 : Int) (i : Nat) : Int := q0 + (i : Int)
def markI (q0 : Int) (k : Nat) (f : Nat → Value) : Nat → Value := fun c => if c < k then .int .i64 (markZ q0 c) else f c
theorem markI_step (q0 : Int) (k : Nat) (f : Nat → Value) (c : Nat) : (if c = k then .int .i64 (markZ q0 k) else markI q0 k f c) = markI q0 (k + 1) f c := by
  unfold markI
  rcases Nat.lt_trichotomy c k with h | h | h
  · rw [if_neg (by omega), if_pos h, if_pos (by omega)]
  · subst h; rw [if_pos rfl, if_pos (by omega)]
  · rw [if_neg (by omega), if_neg (by omega), if_neg (by omega)]

theorem oneZ {w : World} {g e m n k : Nat} {f : Nat → Value} {D : Nat → Int} (h : Blk w g e m f) (hm : n * 1 ≤ m) (hk : k < n) (hf : ∀ i, i < n → ∀ j, j < 1 → f (i * 1 + j) = rowV D i j) : w.cell? ⟨g, k, none⟩ = some (.int .i64 (D k)) := by
  rw [h.cell (by omega)]
  have := hf k hk 0 (by omega)
  simp only [Nat.mul_one, Nat.add_zero] at this
  rw [this]; rfl

set_option maxHeartbeats 1000000 in
theorem eqIntS_same (lo hi lo' hi' n : Nat) (v v' : Value) (D D' : Nat → Int) (w : World) (hn : n ≤ 1048576) (h : SlF w 3 1 lo hi v n (rowV D)) (h' : SlF w 3 1 lo' hi' v' n (rowV D')) (he : ∀ i, i < n → D' i = D i) :
    Calls Try.prog 82 #[v, v'] w fun e w' => e = .returned (.bool true) ∧ Below w.heap.size w w' := by
  obtain ⟨ao, cap, rfl, h0⟩ := h
  obtain ⟨ao', cap', rfl, h0'⟩ := h'
  go_enter Try.func82, Try.ntmps82
  go_wp2
  go_loopw [5] (fun i wr => ∃ k : Nat, k ≤ n ∧ i = .int .i64 k ∧ Below w.heap.size w wr) (fun i _ => n - (intOf i).toNat)
  case atStart => exact ⟨0, Nat.zero_le _, rfl, Below.refl _ _⟩
  case round =>
    obtain ⟨k, hk, rfl, hbel⟩ := hrel
    by_cases hlt : k < n
    · rcases h0 with h0 | ⟨g, m, f, rfl, _, _, h2, h3, h4⟩
      · omega
      rcases h0' with h0' | ⟨g', m', f', rfl, _, _, h2', h3', h4'⟩
      · omega
      have c0 := oneZ (h3.below hbel h3.lt) h2 hlt h4
      have d0 := oneZ (h3'.below hbel h3'.lt) h2' hlt h4'
      rw [he k hlt] at d0
      have hi : (k : Int) < (n : Int) := by omega
      clear h3 h3' h4 h4' he h2 h2'
      go_wp2
      go_region
      all_goals
        go_wp2
        go_roundw
        case rel => exact ⟨k + 1, by omega, by go_num, hbel.drew⟩
        case measure => simp [intOf]; omega
    · go_wp2
      go_ret
      exact ⟨rfl, hbel⟩

set_option maxHeartbeats 1000000 in
theorem markIntS_any (lo hi n : Nat) (v : Value) (q0 : Int) (G : Nat → Nat → Value) (w : World) (hn : n ≤ 1048576) (hq0 : 0 ≤ q0) (hq1 : q0 ≤ 100000000000) (h : SlF w 3 1 lo hi v n G) :
    Calls Try.prog 83 #[v, .int .i64 q0] w fun e w' => e = .returned (.int .i64 (q0 + (n : Int))) ∧ SlF w' 3 1 lo hi v n (rowV (markZ q0)) ∧ Turned w w' (· = 3) lo hi := by
  obtain ⟨ao, cap, rfl, h0⟩ := h
  rcases h0 with rfl | ⟨g, m, f, rfl, a1, a2, h2, h1, _⟩
  · go_enter Try.func83, Try.ntmps83
    go_wp2
    refine wp_loop_rounds 1 ?_
    rw [rounds_succ]
    go_wp2
    go_ret
    exact ⟨by simp, ⟨ao, cap, rfl, .inl rfl⟩, Turned.refl _ _ _ _⟩
  · go_enter Try.func83, Try.ntmps83
    go_wp2
    go_loopw [1, 5] (fun q i wr => ∃ k : Nat, k ≤ n ∧ i = .int .i64 k ∧ q = .int .i64 (q0 + (k : Int)) ∧ Blk wr g 3 m (markI q0 k f) ∧ w.grownBy wr (some g)) (fun _ i _ => n - (intOf i).toNat)
    case atStart => exact ⟨0, Nat.zero_le _, rfl, by simp, h1.congr (fun i _ => by simp [markI]), World.grownBy.refl _ _⟩
    case round =>
      obtain ⟨k, hk, rfl, rfl, hB, hG⟩ := hrel
      by_cases hlt : k < n
      · have c0 := hB.cell (i := k) (by omega)
        have z0 := hB.frozen k
        clear h1
        go_wp2
        go_roundw
        case rel => exact ⟨k + 1, by omega, by go_num, by go_num, (hB.set k _).congr (fun c _ => markI_step q0 k f c), grown_set hG _⟩
        case measure => simp [intOf]; omega
      · go_wp2
        go_ret
        have : k = n := by omega
        subst this
        refine ⟨rfl, ⟨_, cap, rfl, .inr ⟨g, m, _, rfl, a1, a2, h2, hB, fun i hi j hj => ?_⟩⟩, Turned.of_grown hG a1 a2 rfl h1⟩
        have : j = 0 := by omega
        subst this
        simp [markI, rowV, hi]

set_option maxHeartbeats 1000000 in
theorem heldIntS_any (lo hi n : Nat) (v : Value) (q0 : Int) (w : World) (hn : n ≤ 1048576) (hq0 : 0 ≤ q0) (hq1 : q0 ≤ 100000000000) (h : SlF w 3 1 lo hi v n (rowV (markZ q0))) :
    Calls Try.prog 84 #[v, .int .i64 q0] w fun e w' => e = .returned (.int .i64 (q0 + (n : Int))) ∧ Below w.heap.size w w' := by
  obtain ⟨ao, cap, rfl, h0⟩ := h
  go_enter Try.func84, Try.ntmps84
  go_wp2
  go_loopw [1, 5] (fun q i wr => ∃ k : Nat, k ≤ n ∧ i = .int .i64 k ∧ q = .int .i64 (q0 + (k : Int)) ∧ Below w.heap.size w wr) (fun _ i _ => n - (intOf i).toNat)
  case atStart => exact ⟨0, Nat.zero_le _, rfl, by simp, Below.refl _ _⟩
  case round =>
    obtain ⟨k, hk, rfl, rfl, hbel⟩ := hrel
    by_cases hlt : k < n
    · rcases h0 with h0 | ⟨g, m, f, rfl, _, _, h2, h3, h4⟩
      · omega
      have c0 := oneZ (h3.below hbel h3.lt) h2 hlt h4
      simp only [markZ] at c0
      clear h3 h4
      go_wp2
      go_roundw
      case rel => exact ⟨k + 1, by omega, by go_num, by go_num, hbel⟩
      case measure => simp [intOf]; omega
    · go_wp2
      go_ret
      have : k = n := by omega
      subst this
      exact ⟨rfl, hbel⟩

def intL (D : Nat → Int) : Nat → List Value
  | 0 => []
  | k + 1 => intL D k ++ [.int .i64 (D k)]

theorem intL_len (D : Nat → Int) (k : Nat) : (intL D k).length = k := by
  induction k with
  | zero => rfl
  | succ k ih => simp only [intL, List.length_append, ih, List.length_cons, List.length_nil]
theorem intL_get (D : Nat → Int) (k i : Nat) (hi : i < k) : (intL D k)[i]? = some (.int .i64 (D i)) := by
  induction k with
  | zero => omega
  | succ k ih =>
    unfold intL
    by_cases e : i < k
    · rw [List.getElem?_append_left (by rw [intL_len]; omega)]; exact ih e
    · have e' : i = k := by omega
      subst e'
      rw [List.getElem?_append_right (by rw [intL_len]; omega), intL_len]
      simp
theorem intL_uniI (D : Nat → Int) (k : Nat) : ∀ u ∈ intL D k, u.oneCell' = true := by
  induction k with
  | zero => simp [intL]
  | succ k ih =>
    intro u hu
    unfold intL at hu
    rcases List.mem_append.1 hu with h | h
    · exact ih u h
    · simp only [List.mem_cons, List.not_mem_nil, or_false] at h
      subst h; rfl

theorem intL_cells {w : World} {g m n : Nat} {e : TypeId} {f : Nat → Value} {D : Nat → Int} (b2 : Blk w g e m f) (b1 : n * 1 ≤ m) (b3 : ∀ i, i < n → ∀ j, j < 1 → f (i * 1 + j) = rowV D i j) : ∀ j u, (intL D n)[j]? = some u → w.cell? ((⟨g, 0, none⟩ : Addr).add j) = some u := by
  intro j u hu
  have hj : j < n := by rw [← intL_len D n]; exact (List.getElem?_eq_some_iff.1 hu).1
  have ea : (⟨g, 0, none⟩ : Addr).add j = ⟨g, j, none⟩ := by simp [Addr.add]; exact fun h => h.symm
  rw [ea, oneZ b2 b1 hj b3]
  rw [intL_get D n j hj] at hu
  exact hu

set_option maxRecDepth 100000 in
set_option maxHeartbeats 1000000 in
theorem cloneI_some (ad : Addr) (n c2 : Nat) (D : Nat → Int) (w : World) (hn : n ≤ 60) (hnw : ∀ j u, (intL D n)[j]? = some u → (w.alloc (.cells #[] 3)).cell? (ad.add j) = some u) :
    Calls Try.prog 81 #[.slice (some ad) n c2] w fun e w' => ∃ a' c', e = .returned (.slice a' n c') ∧ SlF w' 3 1 w.heap.size w'.heap.size (.slice a' n c') n (rowV D) ∧ Below w.heap.size w w' := by
  obtain ⟨i0, hi, hz0, hz1, hz2⟩ := info_parts Try.infoIn
  have hown : (w.alloc (.cells #[] 3)).ownsRow w.heap.size 3 1 (.slice (some ⟨w.heap.size, 0, none⟩) 0 0) 0 [] := World.ownsRow_lit w #[] 0 (Nat.le_refl _) (Nat.zero_le _) rfl
  have hq : ∀ W : World, (binOp .eql 91 (.slice (some ad) n c2) (.slice none 0 0)).run Try.prog W = .ok (.bool false) W := fun W => Go.Lib.run_eql_slice_nil W _ _ _ _ _ _ _ Try.underlying91
  go_enter Try.func81, Try.ntmps81
  go_wp2_with (first
    | (at_builtin; refine wpList_append_own _ rfl _ _ 91 rfl w.heap.size 3 i0 _ 1 8 Try.underlying91 hi hz0 hz1 hz2 rfl (by decide) _ _ _ rfl hown ad n c2 (intL D n) rfl (by rw [intL_len]; omega) hnw (intL_uniI D n) (by unfold maxLen; omega) (by omega) (by simp) ?_; intro v' w2 hown' hgrow hnil))
  go_ret
  have hS : SlF w2 3 1 w.heap.size w2.heap.size v' n (rowV D) := by
    have := SlF.of_ownsRow (G := rowV D) hown' (fun i hi j hj => by
      have hj0 : j = 0 := by omega
      subst hj0
      simp only [List.nil_append, Nat.mul_one, Nat.add_zero]; exact intL_get D n i (by omega))
    rw [Nat.zero_add] at this
    exact this
  have hBw : Below w.heap.size w w2 := (below_alloc (Below.refl _ _) _).grown hgrow (by simp) (fun k hk => (hown.lt k hk).1)
  obtain ⟨ao, cap, rfl, h0⟩ := id hS
  exact ⟨ao, cap, rfl, hS, hBw⟩

set_option maxRecDepth 100000 in
theorem cloneI_any (a2 : Option Addr) (lo hi n c2 : Nat) (D : Nat → Int) (w : World) (hn : n ≤ 60) (hd : SlF w 3 1 lo hi (.slice a2 n c2) n (rowV D)) :
    Calls Try.prog 81 #[.slice a2 n c2] w fun e w' => ∃ a' c', e = .returned (.slice a' n c') ∧ SlF w' 3 1 w.heap.size w'.heap.size (.slice a' n c') n (rowV D) ∧ Below w.heap.size w w' := by
  rcases Nat.eq_zero_or_pos n with rfl | hp
  · cases a2 with
    | none =>
      have hq : ∀ W : World, (binOp .eql 91 (.slice none 0 c2) (.slice none 0 0)).run Try.prog W = .ok (.bool true) W := fun W => Go.Lib.run_eql_slice_nil W _ _ _ _ _ _ _ Try.underlying91
      go_enter Try.func81, Try.ntmps81
      go_wp2
      go_ret
      exact ⟨none, 0, rfl, ⟨none, 0, rfl, .inl rfl⟩, Below.refl _ _⟩
    | some ad => exact cloneI_some ad 0 c2 D w hn (fun j u hu => by simp [intL] at hu)
  · obtain ⟨g, rfl⟩ := hd.addr hp
    obtain ⟨l1, l2, m, f, b1, b2, b3⟩ := hd.blk hp
    exact cloneI_some ⟨g, 0, none⟩ n c2 D w hn (intL_cells (b2.alloc _) b1 b3)

end Go.Proofs.Ytlpopfhaephfaab

namespace Go.Proofs.Ytlpopfhaephfaab
open Go.RowKit Go.Maps

/-- A list of m rows of numbers in a block between lo and hi; the rows lie in ranges that rise. -/
def RwF (w : World) (lo hi : Nat) (v : Value) (m ns : Nat) (Z : Nat → Nat → Int) : Prop :=
  ∃ (A : Nat → Value) (L : Nat → Nat), SlF w 91 1 lo hi v m (fun i _ => A i) ∧ lo ≤ L 0 ∧ L m ≤ hi ∧ ∀ i, i < m → L i ≤ L (i + 1) ∧ SlF w 3 1 (L i) (L (i + 1)) (A i) ns (rowV (Z i))

section
variable {w w' : World} {lo hi m ns : Nat} {v : Value} {Z : Nat → Nat → Int}
theorem RwF.on (h : RwF w lo hi v m ns Z) (hb : Below w.heap.size w w') : RwF w' lo hi v m ns Z := by
  obtain ⟨A, L, h1, h2, h3, h4⟩ := h
  exact ⟨A, L, h1.on hb, h2, h3, fun i hi => ⟨(h4 i hi).1, (h4 i hi).2.on hb⟩⟩
theorem RwF.turned {E : Nat → Prop} {lo' hi' : Nat} (h : RwF w lo hi v m ns Z) (ht : Turned w w' E lo' hi') (hd : hi' ≤ lo ∨ hi ≤ lo') : RwF w' lo hi v m ns Z := by
  obtain ⟨A, L, h1, h2, h3, h4⟩ := h
  refine ⟨A, L, h1.turned ht (.inr hd), h2, h3, fun i hlt => ?_⟩
  have hL : ∀ i, i < m → L i ≤ L (i + 1) := fun i hi => (h4 i hi).1
  have a1 := rise' hL (Nat.zero_le i) (Nat.le_of_lt hlt)
  have a2 := rise' hL (a := i + 1) (b := m) hlt (Nat.le_refl _)
  exact ⟨(h4 i hlt).1, (h4 i hlt).2.turned ht (.inr (by omega))⟩
theorem RwF.wide {lo' : Nat} (h : RwF w lo hi v m ns Z) (h1 : lo' ≤ lo) : RwF w lo' hi v m ns Z := by
  obtain ⟨A, L, a1, a2, a3, a4⟩ := h
  exact ⟨A, L, a1.wide h1 (Nat.le_refl _), by omega, a3, a4⟩
theorem RwF.nil (w : World) (lo hi ns : Nat) (ao : Option Addr) (cap : Nat) (h : lo ≤ hi) (Z : Nat → Nat → Int) : RwF w lo hi (.slice ao 0 cap) 0 ns Z :=
  ⟨fun _ => .slice none 0 0, fun _ => lo, ⟨ao, cap, rfl, .inl rfl⟩, Nat.le_refl _, h, fun i hi => by omega⟩
end

theorem oneA {w : World} {g e m n k : Nat} {f A : Nat → Value} (h : Blk w g e m f) (hm : n * 1 ≤ m) (hk : k < n) (hf : ∀ i, i < n → ∀ j, j < 1 → f (i * 1 + j) = A i) : w.cell? ⟨g, k, none⟩ = some (A k) := by
  rw [h.cell (by omega)]
  have := hf k hk 0 (by omega)
  simp only [Nat.mul_one, Nat.add_zero] at this
  rw [this]

set_option maxHeartbeats 1000000 in
theorem eqIntSS_same (lo hi lo' hi' m ns : Nat) (v v' : Value) (Z : Nat → Nat → Int) (w : World) (hm : m ≤ 1048576) (hs : ns ≤ 1048576) (h : RwF w lo hi v m ns Z) (h' : RwF w lo' hi' v' m ns Z) :
    Calls Try.prog 38 #[v, v'] w fun e w' => e = .returned (.bool true) ∧ Below w.heap.size w w' := by
  obtain ⟨A, L, ⟨ao, cap, rfl, h0⟩, _, _, hst⟩ := h
  obtain ⟨A', L', ⟨ao', cap', rfl, h0'⟩, _, _, hst'⟩ := h'
  go_enter Try.func38, Try.ntmps38
  go_wp2
  go_loopw [5] (fun i wr => ∃ k : Nat, k ≤ m ∧ i = .int .i64 k ∧ Below w.heap.size w wr) (fun i _ => m - (intOf i).toNat)
  case atStart => exact ⟨0, Nat.zero_le _, rfl, Below.refl _ _⟩
  case round =>
    obtain ⟨k, hk, rfl, hbel⟩ := hrel
    by_cases hlt : k < m
    · rcases h0 with h0 | ⟨g, mm, f, rfl, _, _, h2, h3, h4⟩
      · omega
      rcases h0' with h0' | ⟨g', mm', f', rfl, _, _, h2', h3', h4'⟩
      · omega
      have c0 := oneA (h3.below hbel h3.lt) h2 hlt h4
      have d0 := oneA (h3'.below hbel h3'.lt) h2' hlt h4'
      have s1 := (hst k hlt).2
      have s2 := (hst' k hlt).2
      obtain ⟨x1, y1, e1, _⟩ := id s1
      obtain ⟨x2, y2, e2, _⟩ := id s2
      rw [e1] at c0 s1
      rw [e2] at d0 s2
      have ke := fun W (hW : Below w.heap.size w W) => eqIntS_same _ _ _ _ ns _ _ (Z k) (Z k) W hs (s1.on hW) (s2.on hW) (fun _ _ => rfl)
      have hi : (k : Int) < (m : Int) := by omega
      have HB : Hid (Below w.heap.size w wr) := hbel
      clear h3 h3' h4 h4' hbel h2 h2' hst hst' s1 s2 e1 e2
      go_wp2
      go_region_with (go_at_call 82; refine (ke _ HB.out.drew).mono ?_; rintro e w1 ⟨rfl, hb1⟩)
      all_goals
        go_wp2
        go_roundw
        case rel => exact ⟨k + 1, by omega, by go_num, HB.out.drew.trans (hb1.mono (by simpa using HB.out.size))⟩
        case measure => simp [intOf]; omega
    · go_wp2
      go_ret
      exact ⟨rfl, hbel⟩

/-- the number at which the marks of the k-th row begin -/
def rwQ (q0 : Int) (ns : Nat) : Nat → Int
  | 0 => q0
  | k + 1 => rwQ q0 ns k + (ns : Int)

theorem rwQ_bound {q0 : Int} {ns k : Nat} (hs : ns ≤ 60) (h0 : 0 ≤ q0) : 0 ≤ rwQ q0 ns k ∧ rwQ q0 ns k ≤ q0 + 60 * (k : Int) := by
  induction k with
  | zero => simp [rwQ]; omega
  | succ k ih => simp only [rwQ]; omega

def MkR (w : World) (lo hi : Nat) (v : Value) (m ns : Nat) (q0 : Int) : Prop := RwF w lo hi v m ns (fun i => markZ (rwQ q0 ns i))

set_option maxRecDepth 100000 in
set_option maxHeartbeats 2000000 in
theorem markIntSS_any (lo hi m ns : Nat) (v : Value) (q0 : Int) (Z : Nat → Nat → Int) (w : World) (hm : m ≤ 2000) (hs : ns ≤ 60) (hq0 : 0 ≤ q0) (hq1 : q0 ≤ 1000000000) (h : RwF w lo hi v m ns Z) :
    Calls Try.prog 39 #[v, .int .i64 q0] w fun e w' => e = .returned (.int .i64 (rwQ q0 ns m)) ∧ MkR w' lo hi v m ns q0 ∧ Turned w w' (· = 3) lo hi := by
  obtain ⟨A, L, hsl, l1, l2, hst⟩ := h
  have hL : ∀ i, i < m → L i ≤ L (i + 1) := fun i hi => (hst i hi).1
  obtain ⟨ao, cap, rfl, h0⟩ := id hsl
  go_enter Try.func39, Try.ntmps39
  go_wp2
  go_loopw [1, 5] (fun q i wr => ∃ k : Nat, k ≤ m ∧ i = .int .i64 k ∧ q = .int .i64 (rwQ q0 ns k) ∧ (∀ i, i < m → SlF wr 3 1 (L i) (L (i + 1)) (A i) ns (rowV (if i < k then markZ (rwQ q0 ns i) else Z i))) ∧ Turned w wr (· = 3) lo hi) (fun _ i _ => m - (intOf i).toNat)
  case atStart => exact ⟨0, Nat.zero_le _, rfl, by simp [rwQ], fun i hi => by simpa using (hst i hi).2, Turned.refl _ _ _ _⟩
  case round =>
    obtain ⟨k, hk, rfl, rfl, hR, hT⟩ := hrel
    by_cases hlt : k < m
    · have sk := hsl.turned hT (.inl (by decide))
      obtain ⟨ao', cap', ee, h0'⟩ := sk
      simp only [Value.slice.injEq] at ee
      obtain ⟨rfl, _, rfl⟩ := ee
      rcases h0' with h0' | ⟨g, mm, f, rfl, _, _, h2, h3, h4⟩
      · omega
      have c0 := oneA h3 h2 hlt h4
      have s1 := hR k hlt
      obtain ⟨qb1, qb2⟩ := rwQ_bound (k := k) hs hq0
      have r0 := rise' hL (Nat.zero_le k) (Nat.le_of_lt hlt)
      have r1 := rise' hL (a := k + 1) (b := m) hlt (Nat.le_refl _)
      obtain ⟨Q, eQ⟩ : ∃ Q, rwQ q0 ns k = Q := ⟨_, rfl⟩
      have eQ' : rwQ q0 ns (k + 1) = Q + (ns : Int) := by rw [← eQ]; rfl
      rw [eQ] at qb1 qb2 ⊢
      have EQ : Hid _ := eQ'
      have EQ0 : Hid _ := eQ
      have hi' : (k : Int) < (m : Int) := by omega
      clear eQ eQ' h3 h4
      go_wp2_with fail
      refine (markIntS_any (L k) (L (k + 1)) ns (A k) Q _ _ (by omega) (by omega) (by omega) s1).mono ?_
      rintro e w1 ⟨rfl, s1', t1⟩
      have t1' : Turned wr w1 (· = 3) lo hi := t1.mono (fun _ he => he) (by omega) (by omega)
      go_wp2
      go_roundw
      case rel =>
        refine ⟨k + 1, by omega, by go_num, by rw [EQ.out], fun i hi => ?_, hT.trans t1'⟩
        by_cases hik : i = k
        · subst hik
          rw [if_pos (by omega), EQ0.out]
          exact s1'
        · have hd : L (k + 1) ≤ L i ∨ L (i + 1) ≤ L k := by
            rcases Nat.lt_or_gt_of_ne hik with h | h
            · exact .inr (rise' hL h (by omega))
            · exact .inl (rise' hL h (by omega))
          have := (hR i hi).turned t1 (.inr hd)
          by_cases h : i < k
          · rw [if_pos (by omega)]; rw [if_pos h] at this; exact this
          · rw [if_neg (by omega)]; rw [if_neg h] at this; exact this
      case measure => simp [intOf]; omega
    · go_wp2
      go_ret
      have : k = m := by omega
      subst this
      exact ⟨rfl, ⟨A, L, hsl.turned hT (.inl (by decide)), l1, l2, fun i hi => ⟨hL i hi, by have := hR i hi; rw [if_pos hi] at this; exact this⟩⟩, hT⟩

set_option maxRecDepth 100000 in
set_option maxHeartbeats 2000000 in
theorem heldIntSS_any (lo hi m ns : Nat) (v : Value) (q0 : Int) (w : World) (hm : m ≤ 2000) (hs : ns ≤ 60) (hq0 : 0 ≤ q0) (hq1 : q0 ≤ 1000000000) (h : MkR w lo hi v m ns q0) :
    Calls Try.prog 40 #[v, .int .i64 q0] w fun e w' => e = .returned (.int .i64 (rwQ q0 ns m)) ∧ Below w.heap.size w w' := by
  obtain ⟨A, L, ⟨ao, cap, rfl, h0⟩, l1, l2, hst⟩ := h
  go_enter Try.func40, Try.ntmps40
  go_wp2
  go_loopw [1, 5] (fun q i wr => ∃ k : Nat, k ≤ m ∧ i = .int .i64 k ∧ q = .int .i64 (rwQ q0 ns k) ∧ Below w.heap.size w wr) (fun _ i _ => m - (intOf i).toNat)
  case atStart => exact ⟨0, Nat.zero_le _, rfl, by simp [rwQ], Below.refl _ _⟩
  case round =>
    obtain ⟨k, hk, rfl, rfl, hbel⟩ := hrel
    by_cases hlt : k < m
    · rcases h0 with h0 | ⟨g, mm, f, rfl, _, _, h2, h3, h4⟩
      · omega
      have c0 := oneA (h3.below hbel h3.lt) h2 hlt h4
      have s1 := (hst k hlt).2
      obtain ⟨qb1, qb2⟩ := rwQ_bound (k := k) hs hq0
      obtain ⟨Q, eQ⟩ : ∃ Q, rwQ q0 ns k = Q := ⟨_, rfl⟩
      have eQ' : rwQ q0 ns (k + 1) = Q + (ns : Int) := by rw [← eQ]; rfl
      rw [eQ] at s1 qb1 qb2 ⊢
      have S1 : Hid _ := s1.on hbel
      have EQ : Hid _ := eQ'
      have hi' : (k : Int) < (m : Int) := by omega
      have p1 : 0 ≤ Q + (ns : Int) := by omega
      clear h3 h4 hst s1 eQ eQ'
      go_wp2_with fail
      refine (heldIntS_any (L k) (L (k + 1)) ns (A k) Q _ (by omega) (by omega) (by omega) S1.out).mono ?_
      rintro e w1 ⟨rfl, hb1⟩
      go_wp2
      go_roundw
      case rel => exact ⟨k + 1, by omega, by go_num, by rw [EQ.out], below_on hbel hb1⟩
      case measure => simp [intOf]; omega
    · go_wp2
      go_ret
      have : k = m := by omega
      subst this
      exact ⟨rfl, hbel⟩

/-- the cells of a list of rows -/
def rwL (A : Nat → Value) : Nat → List Value
  | 0 => []
  | k + 1 => rwL A k ++ [A k]
theorem rwL_len (A : Nat → Value) (k : Nat) : (rwL A k).length = k := by
  induction k with
  | zero => rfl
  | succ k ih => simp only [rwL, List.length_append, ih, List.length_cons, List.length_nil]
theorem rwL_get (A : Nat → Value) (k i : Nat) (hi : i < k) : (rwL A k)[i]? = some (A i) := by
  induction k with
  | zero => omega
  | succ k ih =>
    unfold rwL
    rcases (show i < k ∨ i = k by omega) with e | e
    · rw [List.getElem?_append_left (by rw [rwL_len]; omega)]; exact ih e
    · subst e
      rw [List.getElem?_append_right (by rw [rwL_len]; omega), rwL_len]
      simp
theorem rwL_congr {A A' : Nat → Value} {k : Nat} (h : ∀ i, i < k → A' i = A i) : rwL A' k = rwL A k := by
  induction k with
  | zero => rfl
  | succ k ih => unfold rwL; rw [ih (fun i hi => h i (by omega)), h k (by omega)]

/-- What stands of the rows behind k events. -/
def RowI (w : World) (base low top : Nat) (v : Value) (k ns : Nat) (Z : Nat → Nat → Int) : Prop :=
  ∃ (A : Nat → Value) (L : Nat → Nat), w.ownsRow base 91 1 v k (rwL A k) ∧ low ≤ L 0 ∧ L k ≤ top ∧ ∀ i, i < k → L i ≤ L (i + 1) ∧ SlF w 3 1 (L i) (L (i + 1)) (A i) ns (rowV (Z i))

section
variable {w w' : World} {base low top k ns : Nat} {v : Value} {Z : Nat → Nat → Int}
theorem RowI.on (h : RowI w base low top v k ns Z) (hb : Below w.heap.size w w') : RowI w' base low top v k ns Z := by
  obtain ⟨A, L, a1, a2, a3, a4⟩ := h
  exact ⟨A, L, own_on a1 hb, a2, a3, fun i hi => ⟨(a4 i hi).1, (a4 i hi).2.on hb⟩⟩
theorem RowI.step {A : Nat → Value} {L : Nat → Nat} (a1 : w.ownsRow base 91 1 v k (rwL A k)) (a2 : low ≤ L 0) (a3 : L k ≤ top) (a4 : ∀ i, i < k → L i ≤ L (i + 1) ∧ SlF w 3 1 (L i) (L (i + 1)) (A i) ns (rowV (Z i)))
    {lo hi : Nat} {u v' : Value} (hl : SlF w 3 1 lo hi u ns (rowV (Z k))) (h1 : top ≤ lo) (h2 : lo ≤ hi)
    (ha : w'.ownsRow base 91 1 v' (k + 1) (rwL A k ++ [u])) (hg : w.grownBy w' v.ownBlock) : RowI w' base low hi v' (k + 1) ns Z := by
  have ht := own_grown a1 hg
  have f1 : ∀ i, i < k → (if i = k then u else A i) = A i := fun i hi => if_neg (by omega)
  refine ⟨fun i => if i = k then u else A i, fun i => if i ≤ k then L i else hi, ?_, by simpa using a2, by show (if k + 1 ≤ k then _ else _) ≤ _; rw [if_neg (by omega)]; exact Nat.le_refl _, fun i hi' => ?_⟩
  · unfold rwL
    rw [rwL_congr (A := A) f1]
    simp only [if_true]
    exact ha
  · by_cases hk : i = k
    · subst hk
      simp only [if_true, Nat.le_refl, show ¬ i + 1 ≤ i by omega, if_false]
      exact ⟨by omega, (hl.turned ht (.inl (by decide))).wide (by omega) (Nat.le_refl _)⟩
    · have b1 : i ≤ k := by omega
      have b2 : i + 1 ≤ k := by omega
      simp only [b1, b2, hk, if_true, if_false]
      exact ⟨(a4 i b2).1, (a4 i b2).2.turned ht (.inl (by decide))⟩
theorem RowI.rows (h : RowI w base low top v k ns Z) (hb : base ≤ low) (h1 : top ≤ w.heap.size) : RwF w base w.heap.size v k ns Z := by
  obtain ⟨A, L, a1, a2, a3, a4⟩ := h
  exact ⟨A, L, SlF.of_ownsRow a1 (fun i hi j hj => by
    have hj0 : j = 0 := by omega
    subst hj0
    simp only [Nat.mul_one, Nat.add_zero]; exact rwL_get A k i hi), by omega, by omega, a4⟩
end

end Go.Proofs.Ytlpopfhaephfaab

namespace Go.Proofs.Ytlpopfhaephfaab
open Go.RowKit Go.Shelf
attribute [local go_sem] Oper.semAt_some

theorem Try.infoRw : (Try.prog.info? 91).map (fun i => (i.zero, i.size, i.bytes)) = some (some (.slice none 0 0), 1, 24) := by kernel_rfl

theorem made_rows (m : Nat) : ∃ C : Array Value, C.size = m ∧ ∀ W : World, m ≤ 2000 → (Instr.makeSlice 68 (.int .i64 0) (.int .i64 (m : Int))).run Try.prog W = .ok (.slice (some ⟨W.heap.size, 0, none⟩) 0 m) (W.alloc (.cells C 91)) := by
  obtain ⟨i0, hi, hz0, hz1, hz2⟩ := info_parts Try.infoRw
  refine ⟨madeCells (Value.cells (.slice none 0 0)) m, size_madeCells _ _, fun W hn => ?_⟩
  have := run_make (P := Try.prog) W 68 91 i0 _ Try.underlying68 hi hz0 .i64 .i64 0 (m : Int) (by omega) (by omega) (by rw [hz2]; omega) (by omega)
  rw [hz1] at this
  simpa using this

theorem own_of_block {w w' : World} {base e sz n : Nat} {v : Value} {xs : List Value} (h : w.ownsRow base e sz v n xs) (hb : ∀ g, v.ownBlock = some g → w'.heap[g]? = w.heap[g]?) : w'.ownsRow base e sz v n xs := by
  refine ⟨h.1, ?_⟩
  rcases h.2 with hn | ⟨g, cap, cur, rfl, hbb, hgg, rest⟩
  · exact .inl hn
  · exact .inr ⟨g, cap, cur, rfl, hbb, by rw [hb g rfl]; exact hgg, rest⟩

theorem hnewo' (w : World) (o : Obj) : (w.alloc o).heap[w.heap.size]? = some o := by
  unfold World.alloc
  simp

/-- an append, as an operation of a region that draws its order -/
theorem opIn_append {F : Fence} {n : Nat} {P : Program} (w : World) {ops : Array Oper} {o : Oper} {a : Act} {Q : Exit → Act → World → Prop} {K : Act → World → Prop}
    (hg : o.guard = none) (s x : Operand) (t : TypeId) (hop : o.op = Op.call { callee := Callee.builtin Builtin.append, args := #[s, x], argTypes := #[t, t] })
    {v y v' : Value} {w' : World} (hs : a.eval s = v) (hx : a.eval x = y) (hrun : (Builtin.append_ #[t, t] o.type #[v, y]).run P w = .ok v' w') (hK : K (a.put o.dst v') w') :
    if Region.wanted o (yielded ops a.tmps) = true then Oper.wpIn F n P o a w K Q else (∀ f, o.about P w a.eval = some f → F.fn f) ∧ K (a.put o.dst undef) w := by
  rw [if_pos (by simp only [Region.wanted, hg])]
  unfold Oper.wpIn
  refine ⟨?_, ?_⟩
  · simp [Oper.about, hop, resolve, Target.leads, Sem.run_pure]
  · rw [Oper.semAt_plain F _ _ (by rw [hop]; intro c hc'; cases hc')]
    simp [execOp, hop, resolve, invoke, builtin, hs, hx, hrun, Result.andThen]
    exact hK

theorem cell_one (w : World) (v : Value) (e : TypeId) : ∀ j u, [v][j]? = some u → (w.alloc (.cells #[v] e)).cell? ((⟨w.heap.size, 0, none⟩ : Addr).add j) = some u := by
  intro j u hu
  have hj : j < 1 := (List.getElem?_eq_some_iff.1 hu).1
  have hj0 : j = 0 := by omega
  subst hj0
  simpa [Addr.add] using hu

theorem blk_one {w : World} {b : Nat} {e : TypeId} {v : Value} (h : Blk w b e 1 (fun _ => v)) (x : Value) : Blk (w.setCell ⟨b, 0, none⟩ x) b e 1 (fun _ => x) :=
  (h.set 0 x).congr (fun i hi => by
    have h0 : i = 0 := by omega
    simp [h0])

theorem IntB.row {w : World} {b n : Nat} {Z : Nat → Int} (h : IntB w b n Z) : SlF w 3 1 b (b + 1) (.slice (some ⟨b, 0, none⟩) n n) n (rowV Z) :=
  ⟨_, _, rfl, .inr ⟨b, n, _, rfl, Nat.le_refl _, by omega, by omega, h, fun i _ j hj => by
    have h0 : j = 0 := by omega
    subst h0
    simp [rowV]⟩⟩

theorem RwF.kept {A B : World} {row : Option Nat} {lo hi m ns : Nat} {v : Value} {Z : Nat → Nat → Int} (h : RwF A lo hi v m ns Z) (hg : A.grownBy B row) (hr : ∀ r, row = some r → ∃ o : Obj, A.heap[r]? = some o ∧ o.isCells = false) : RwF B lo hi v m ns Z := by
  have key : ∀ b e mm f, Blk A b e mm f → B.heap[b]? = A.heap[b]? := fun b e mm f h1 => hg.block b h1.lt (fun e1 => by
    obtain ⟨o, ho, hc⟩ := hr b e1.symm
    obtain ⟨o2, h3, h4⟩ := blk_cells h1
    rw [ho] at h3; cases h3; rw [hc] at h4; cases h4)
  obtain ⟨A', L, h1, h2, h3, h4⟩ := h
  exact ⟨A', L, h1.of_block (fun _ _ _ hb _ _ => key _ _ _ _ hb), h2, h3, fun i hi => ⟨(h4 i hi).1, (h4 i hi).2.of_block (fun _ _ _ hb _ _ => key _ _ _ _ hb)⟩⟩

theorem keeps_turned {A B : World} {E : Nat → Prop} {lo hi : Nat} (h : Turned A B E lo hi) : KeepsOthers A B :=
  ⟨h.size, fun k o hk ho => by
    rcases h.block k (Array.getElem?_eq_some_iff.1 hk).1 with h' | ⟨_, _, e', m', f', _, a4⟩
    · rw [h']; exact hk
    · obtain ⟨o2, h3, h4⟩ := blk_cells a4
      rw [hk] at h3; cases h3; rw [ho] at h4; cases h4⟩

theorem RowI.turned {w w' : World} {base low top k ns lo hi : Nat} {v : Value} {Z : Nat → Nat → Int} {E : Nat → Prop} (h : RowI w base low top v k ns Z) (ht : Turned w w' E lo hi) (h1 : ¬ E 91) (h2 : ¬ E 3) : RowI w' base low top v k ns Z := by
  obtain ⟨A, L, a1, a2, a3, a4⟩ := h
  exact ⟨A, L, own_turned a1 ht h1, a2, a3, fun i hi => ⟨(a4 i hi).1, (a4 i hi).2.turned ht (.inl h2)⟩⟩

/-- behind a round of Truth's loop -/
theorem truth_fin {w W w5 w6 : World} {base low top tb rb k ns lo5 hi5 : Nat} {v v' u : Value} {Z : Nat → Nat → Int} {A : Nat → Value} {L : Nat → Nat} (hB : Below w.heap.size w W) (hb : Blk W tb 68 1 (fun _ => v)) (htb : w.heap.size ≤ tb) (hrw : IntB W rb ns (Z k))
    (q1 : W.ownsRow base 91 1 v k (rwL A k)) (q2 : low ≤ L 0) (q3 : L k ≤ top) (q4 : ∀ i, i < k → L i ≤ L (i + 1) ∧ SlF W 3 1 (L i) (L (i + 1)) (A i) ns (rowV (Z i))) (hbase : base = w.heap.size) (htop : top ≤ W.heap.size)
    (h5 : Below W.heap.size W w5) (s5 : SlF w5 3 1 lo5 hi5 u ns (rowV (Z k))) (h1 : W.heap.size ≤ lo5) (h2 : lo5 ≤ hi5) (h3 : hi5 ≤ w5.heap.size)
    (r1 : w6.ownsRow base 91 1 v' (k + 1) (rwL A k ++ [u])) (r2 : (w5.alloc (.cells #[u] 91)).grownBy w6 v.ownBlock) :
    Blk w6 tb 68 1 (fun _ => v) ∧ (KeepsOthers W (w6.setCell ⟨tb, 0, none⟩ v') ∧ KpT W (w6.setCell ⟨tb, 0, none⟩ v') ∧ IntB (w6.setCell ⟨tb, 0, none⟩ v') rb ns (Z k) ∧ ∃ x top', Blk (w6.setCell ⟨tb, 0, none⟩ v') tb 68 1 (fun _ => x) ∧ RowI (w6.setCell ⟨tb, 0, none⟩ v') base low top' x (k + 1) ns Z ∧ x.ownBlock ≠ some rb ∧ (top' ≤ (w6.setCell ⟨tb, 0, none⟩ v').heap.size ∨ (k + 1 = 0 ∧ top' = low)) ∧ Below w.heap.size w (w6.setCell ⟨tb, 0, none⟩ v')) := by
  subst hbase
  have hU : Below W.heap.size W (w5.alloc (.cells #[u] 91)) := below_alloc h5 _
  have ownU := own_on q1 hU
  have tg := own_grown ownU r2
  have tW : Turned W w6 (· = 91) w.heap.size (w5.alloc (.cells #[u] 91)).heap.size := (Turned.of_below hU).trans tg
  have b6 := hb.turned tW (.inl (by decide))
  have i6 : IntB w6 rb ns (Z k) := Blk.turned hrw tW (.inl (by decide))
  have tS : Turned w6 (w6.setCell ⟨tb, 0, none⟩ v') (· = 68) tb (tb + 1) := Turned.of_grown (grown_set (World.grownBy.refl _ _) _) (Nat.le_refl _) (by omega) rfl b6
  have tA : Turned W (w6.setCell ⟨tb, 0, none⟩ v') (fun e => e = 91 ∨ e = 68) w.heap.size (tb + 1 + (w5.alloc (.cells #[u] 91)).heap.size) := (tW.mono (fun _ h => .inl h) (Nat.le_refl _) (by omega)).trans (tS.mono (fun _ h => .inr h) htb (by omega))
  have I6 : RowI w6 w.heap.size low hi5 v' (k + 1) ns Z := RowI.step ownU q2 q3 (fun i hi => ⟨(q4 i hi).1, (q4 i hi).2.on hU⟩) (s5.on (below_alloc (Below.refl _ _) _)) (by omega) h2 r1 r2
  have zz : W.heap.size ≤ w6.heap.size := tW.size
  have z6 : (w5.alloc (.cells #[u] 91)).heap.size ≤ w6.heap.size := tg.size
  rw [World.size_alloc] at z6
  refine ⟨b6, keeps_turned tA, KpT.of_turned tA (by decide) (by decide) (by decide) (by decide), Blk.turned i6 tS (.inl (by decide)), v', hi5, blk_one b6 v', I6.turned tS (by decide) (by decide), fun e => ?_, .inl (by have := tS.size; omega), (hB.trans (tW.below (Nat.le_refl _) hB.size)).trans (tS.below htb (by have := hB.size; omega))⟩
  obtain ⟨_, mm, f, h9⟩ := own_blk r1 e
  have := h9.type_eq i6
  exact absurd this (by decide)

theorem implTruth_bad (S : Int) (g n m ce : Nat) (ae : Option Addr) (F T : Nat → Int) (w : World) (hm : m ≤ 1048576) (hrow : Row w g 88 2 n (two F T)) (hb : ¬ (lokZ S n F T = 0 ∧ m ≤ 2000)) :
    Calls Try.prog 37 #[.agg #[.int .i64 S, .slice (some ⟨g, 0, none⟩) n n], .slice ae m ce] w fun e w' => e = .returned (.slice none 0 0) ∧ Below w.heap.size w w' := by
  have kc := fun o => runOk_any S g n m ce ae F T _ hm (hrow.alloc o)
  have e0 : (lokZ S n F T == 0 && decide (m ≤ 2000)) = false := by
    cases h1 : (lokZ S n F T == 0)
    · rfl
    · simp only [beq_iff_eq] at h1
      simp only [Bool.true_and, decide_eq_false_iff_not]
      exact fun h => hb ⟨h1, h⟩
  rw [e0] at kc
  go_enter Try.func37, Try.ntmps37
  go_wp2_with fail
  refine (kc _).mono ?_
  rintro e w1 ⟨rfl, hb1⟩
  have B1 := below_on (show Below w.heap.size w _ from (by repeat (first | exact Below.refl _ _ | assumption | refine below_alloc ?_ _ | refine Below.setCell ?_ (by first | omega | (simp; done) | (simp; omega)) _ | refine Below.alloc ?_ (by first | omega | (simp; done) | (simp; omega)) _ | refine Below.drew ?_))) hb1
  go_wp2
  go_ret
  exact ⟨rfl, B1⟩

set_option maxRecDepth 100000 in
set_option maxHeartbeats 4000000 in
theorem implTruth_ok (S : Int) (g n le he m ns : Nat) (F T : Nat → Int) (P : Nat → Nat → Int) (ve : Value) (w : World) (hrow : Row w g 88 2 n (two F T)) (hev : SlF w 33 3 le he ve m (evs P)) (hl : lokZ S n F T = 0) (hS : (ns : Int) = S) (hm : m ≤ 2000) :
    Calls Try.prog 37 #[.agg #[.int .i64 S, .slice (some ⟨g, 0, none⟩) n n], ve] w fun e w' => ∃ u, e = .returned u ∧ RwF w' w.heap.size w'.heap.size u m ns (fun k => trZ S n F T P (k + 1)) ∧ Below w.heap.size w w' := by
  subst hS
  obtain ⟨r1, r2, r3⟩ := lok_range hl
  have hp : 0 < ns := by omega
  have hm' : m ≤ 1048576 := by omega
  obtain ⟨ae, ce, rfl, he0⟩ := id hev
  obtain ⟨i0, hi, hz0, hz1, hz2⟩ := info_parts Try.infoRw
  obtain ⟨Cs, zs, mk0⟩ := made_rows m
  have mk := fun W => mk0 W hm
  have kc := fun o => runOk_any (ns : Int) g n m ce ae F T _ hm' (hrow.alloc o)
  have e0 : (lokZ (ns : Int) n F T == 0 && decide (m ≤ 2000)) = true := by simp [hl, hm]
  rw [e0] at kc
  clear e0 mk0 he0
  obtain ⟨V, eV⟩ : ∃ V, w.alloc (.cells #[.int .i64 (ns : Int), .slice (some ⟨g, 0, none⟩) n n] 31) = V := ⟨_, rfl⟩
  have sV : V.heap.size = w.heap.size + 1 := by rw [← eV]; simp
  have bV : Below w.heap.size w V := by rw [← eV]; exact (by repeat (first | exact Below.refl _ _ | assumption | refine below_alloc ?_ _ | refine Below.setCell ?_ (by first | omega | (simp; done) | (simp; omega)) _ | refine Below.alloc ?_ (by first | omega | (simp; done) | (simp; omega)) _ | refine Below.drew ?_))
  have bL : Blk V w.heap.size 31 2 (fun i => if i = 0 then .int .i64 (ns : Int) else .slice (some ⟨g, 0, none⟩) n n) := by
    rw [← eV]
    exact Blk.new w #[.int .i64 (ns : Int), .slice (some ⟨g, 0, none⟩) n n] 31 _ (fun i hi => by simp at hi; match i, hi with | 0, _ => rfl | 1, _ => rfl)
  have P0 : ∀ W, Below V.heap.size V W → W.cell? ⟨w.heap.size, 0, none⟩ = some (.int .i64 (ns : Int)) ∧ W.cell? ⟨w.heap.size, 1, none⟩ = some (.slice (some ⟨g, 0, none⟩) n n) := fun W hb => ⟨(bL.on hb).cell (i := 0) (by omega), (bL.on hb).cell (i := 1) (by omega)⟩
  have kc' := kc (.cells #[.int .i64 (ns : Int), .slice (some ⟨g, 0, none⟩) n n] 31)
  rw [eV] at kc'
  have EV : Hid _ := eV
  clear eV bL kc
  refine (callsIn_wide (n := 3)).1 ?_
  refine callsIn_of_wp_marks Try.func37 rfl trivial ?_ rfl
  simp only [Try.ntmps37, List.size_toArray, List.length_cons, List.length_nil, Nat.reduceAdd, Nat.reduceSub, Array.replicate_succ, Array.replicate_zero, List.push_toArray, List.append_toArray, List.nil_append, List.cons_append]
  gi_wp2_with fail
  rw [EV.out]
  refine ⟨trivial, (callsIn_wide.2 kc').mono ?_⟩
  clear kc'
  rintro e w1 ⟨rfl, B1⟩
  obtain ⟨y0, y1⟩ := P0 w1 B1
  have z1 : w.heap.size + 1 ≤ w1.heap.size := by have := B1.size; omega
  have zl : w.heap.size < w1.heap.size + 1 := by omega
  have zl' : w.heap.size < w1.heap.size := by omega
  gi_wp2_with fail
  have bT : Blk ((w1.alloc (.cells Cs 91)).alloc (.cells #[.slice (some ⟨w1.heap.size, 0, none⟩) 0 m] 68)) (w1.heap.size + 1) 68 1 (fun _ => .slice (some ⟨w1.heap.size, 0, none⟩) 0 m) := by
    have := Blk.new (w1.alloc (.cells Cs 91)) #[.slice (some ⟨w1.heap.size, 0, none⟩) 0 m] 68 (fun _ => .slice (some ⟨w1.heap.size, 0, none⟩) 0 m) (fun i hi => by simp at hi; match i, hi with | 0, _ => rfl)
    rw [World.size_alloc] at this
    exact this
  have oT : ((w1.alloc (.cells Cs 91)).alloc (.cells #[.slice (some ⟨w1.heap.size, 0, none⟩) 0 m] 68)).ownsRow w.heap.size 91 1 (.slice (some ⟨w1.heap.size, 0, none⟩) 0 m) 0 [] := by
    have : (w1.alloc (.cells Cs 91)).ownsRow w.heap.size 91 1 (.slice (some ⟨w1.heap.size, 0, none⟩) 0 m) 0 [] := ⟨rfl, .inr ⟨w1.heap.size, m, Cs, rfl, by omega, hnewo' w1 _, by omega, by unfold maxLen; omega, by rw [zs]; omega, by simp⟩⟩
    exact this.alloc _
  have B2 : Below V.heap.size V ((w1.alloc (.cells Cs 91)).alloc (.cells #[.slice (some ⟨w1.heap.size, 0, none⟩) 0 m] 68)) := below_alloc (below_alloc B1 _) _
  obtain ⟨W2, e2⟩ : ∃ W2, (w1.alloc (.cells Cs 91)).alloc (.cells #[.slice (some ⟨w1.heap.size, 0, none⟩) 0 m] 68) = W2 := ⟨_, rfl⟩
  have z2 : w1.heap.size + 1 < W2.heap.size := by rw [← e2]; simp
  rw [e2] at bT oT B2 ⊢
  clear e2 mk y0 y1
  refine ⟨trivial, (callsIn_wide.2 (rows_any (ns : Int) g n m ce ae W2)).mono ?_⟩
  rintro e w3 ⟨rfl, hw3⟩
  have h23 : Below W2.heap.size W2 w3 := by rw [hw3]; exact (by repeat (first | exact Below.refl _ _ | assumption | refine below_alloc ?_ _ | refine Below.setCell ?_ (by first | omega | (simp; done) | (simp; omega)) _ | refine Below.alloc ?_ (by first | omega | (simp; done) | (simp; omega)) _ | refine Below.drew ?_))
  have z3 : w3.heap.size = W2.heap.size + 1 + 1 := by rw [hw3]; simp
  have B3 := below_on bV (below_on B2 h23)
  have eL : Blk w3 W2.heap.size 31 2 (fun i => if i = 0 then .int .i64 (ns : Int) else .slice (some ⟨g, 0, none⟩) n n) := by
    rw [hw3]
    exact (Blk.new W2 #[.int .i64 (ns : Int), .slice (some ⟨g, 0, none⟩) n n] 31 _ (fun i hi => by simp at hi; match i, hi with | 0, _ => rfl | 1, _ => rfl)).alloc _
  have eE : Blk w3 (W2.heap.size + 1) 61 1 (fun _ => .slice ae m ce) := by
    rw [hw3]
    have := Blk.new (W2.alloc (.cells #[.int .i64 (ns : Int), .slice (some ⟨g, 0, none⟩) n n] 31)) #[.slice ae m ce] 61 (fun _ => .slice ae m ce) (fun i hi => by simp at hi; match i, hi with | 0, _ => rfl)
    rw [World.size_alloc] at this
    exact this
  have EN : EnvT w3 W2.heap.size (W2.heap.size + 1) (ns : Int) g n le he m ae ce F T P := ⟨eL, eE, hrow.on B3, hev.on B3⟩
  have bT3 := bT.on h23
  have oT3 := own_on oT h23
  have zT : w1.heap.size + 1 < w3.heap.size := by omega
  have zw : w.heap.size ≤ w3.heap.size := B3.size
  clear hw3 eL eE h23 bT oT B2 B1 EV P0 z3 sV bV
  gi_wp2_with fail
  refine range_rows (gf := 99) (lb := #[.pointer (some ⟨W2.heap.size, 0, none⟩), .pointer (some ⟨W2.heap.size + 1, 0, none⟩)]) rfl (enters_of Try.func99 (by kernel_rfl) rfl) (rows1_in _ W2.heap.size (W2.heap.size + 1) g n le he m ce ns ae F T P w3 hl hm EN) (fun _ _ => rfl)
    (fun rb k W l o o' h h1 h2 => Blk.of_block h (World.putObj_heap_other (fun e1 => by subst e1; obtain ⟨o2, h3, h4⟩ := blk_cells h; rw [h1] at h3; cases h3; rw [h2] at h4; cases h4)))
    KpT.trans KpT.putObj
    (fun k W => ∃ v top, Blk W (w1.heap.size + 1) 68 1 (fun _ => v) ∧ RowI W w.heap.size (w3.heap.size + 1 + 1 + 1) top v k ns (fun k => trZ (ns : Int) n F T P (k + 1)) ∧ v.ownBlock ≠ some (w3.heap.size + 1 + 1) ∧ (top ≤ W.heap.size ∨ (k = 0 ∧ top = w3.heap.size + 1 + 1 + 1)) ∧ Below w.heap.size w W)
    ?own ⟨_, w3.heap.size + 1 + 1 + 1, bT3, ⟨fun _ => .slice none 0 0, fun _ => w3.heap.size + 1 + 1 + 1, oT3, Nat.le_refl _, Nat.le_refl _, fun i hi => by omega⟩, ?ne, .inr ⟨rfl, rfl⟩, B3⟩
    (fun k => { tmps := #[.agg #[.int .i64 (ns : Int), .slice (some ⟨g, 0, none⟩) n n], .slice ae m ce, .pointer (some ⟨w.heap.size, 0, none⟩), undef, .slice none 0 0, .pointer (some ⟨w1.heap.size + 1, 0, none⟩), undef, .slice (some ⟨w3.heap.size + 1 + 1, 0, none⟩) ns ns, .agg #[.int .i64 (ns : Int), .slice (some ⟨g, 0, none⟩) n n], .slice ae m ce, .bool true, .bool false, .slice ae m ce, .int .i64 (m : Int), .slice (some ⟨w1.heap.size, 0, none⟩) 0 m, .agg #[.int .i64 (ns : Int), .slice (some ⟨g, 0, none⟩) n n], .slice ae m ce, .func (.func 99) #[] #[.pointer (some ⟨W2.heap.size, 0, none⟩), .pointer (some ⟨W2.heap.size + 1, 0, none⟩)], .int .i64 (k : Int), .slice (some ⟨w3.heap.size + 1 + 1, 0, none⟩) ns ns, undef, undef, undef, undef, undef, undef], defers := [] }) ?assign ?body ?done
  case ne => simp only [Value.ownBlock, ne_eq, Option.some.injEq]; omega
  case own =>
    rintro k A B row ⟨v, top, hb, ⟨A', L, a1, a2, a3, a4⟩, hne, htop, hB⟩ hg hr
    have key : ∀ b e mm f, Blk A b e mm f → b ≠ w3.heap.size + 1 + 1 → B.heap[b]? = A.heap[b]? := fun b e mm f h1 h2 => hg.block b h1.lt (fun e1 => by
      rcases hr b e1.symm with h | ⟨_, o, ho, hc⟩
      · exact h2 h
      · obtain ⟨o2, h3, h4⟩ := blk_cells h1
        rw [ho] at h3; cases h3; rw [hc] at h4; cases h4)
    have hL : ∀ i, i < k → L i ≤ L (i + 1) := fun i hi => (a4 i hi).1
    refine ⟨v, top, hb.of_block (key _ _ _ _ hb (by omega)), ⟨A', L, own_of_block a1 (fun b h1 => ?_), a2, a3, fun i hi => ⟨(a4 i hi).1, (a4 i hi).2.of_block (fun b _ _ h1 h2 _ => key _ _ _ _ h1 ?_)⟩⟩, hne, htop.imp (fun h => Nat.le_trans h hg.size) id, hB.grown hg hB.size (fun r e => ?_)⟩
    · obtain ⟨_, mm, f, h2⟩ := own_blk a1 h1
      exact key _ _ _ _ h2 (fun e => hne (by rw [h1, e]))
    · have := rise' hL (Nat.zero_le i) (Nat.le_of_lt hi)
      omega
    · rcases hr r e with h | ⟨h, _⟩ <;> omega
  case assign =>
    intro l k W K hK
    gi_wp2
    exact hK
  case body =>
    rintro l k W hk ⟨v, top, hb, ⟨A', L, q1, q2, q3, q4⟩, hne, htop, hB⟩ hrw
    have zr : w3.heap.size + 1 + 1 < W.heap.size := Blk.lt hrw
    have htop' : top ≤ W.heap.size := by omega
    have c0 := hb.cell (i := 0) (by omega)
    have zt := hb.lt
    gi_wp2_with fail
    have kl := cloneI_any (some ⟨w3.heap.size + 1 + 1, 0, none⟩) (w3.heap.size + 1 + 1) (w3.heap.size + 1 + 1 + 1) ns ns (trZ (ns : Int) n F T P (k + 1)) W.drew (by omega) (IntB.row hrw)
    refine wpIn_region_any (by kernel_rfl) ?_
    change wpAnyIn _ _ _ _ _ _ _ _ _ (World.drew _)
    refine wpAnyIn_ready (rs := [0, 1]) (by kernel_rfl) (by simp) ?_
    refine AllReadyIn.cons rfl (fun K hK => ?_) (AllReadyIn.cons rfl (fun K hK => ?_) AllReadyIn.nil)
    · go_simp
      refine hK _ _ ?_
      clear hK K
      refine wpAnyIn_ready (rs := [1]) (by kernel_rfl) (by simp) ?_
      refine AllReadyIn.cons rfl (fun K hK => ?_) AllReadyIn.nil
      go_simp
      refine hK _ _ ?_
      clear hK K
      refine wpAnyIn_ready (rs := [2]) (by kernel_rfl) (by simp) ?_
      refine AllReadyIn.cons rfl (fun K hK => ?_) AllReadyIn.nil
      go_simp
      refine ⟨trivial, (CallsIn.inRound l (callsIn_wide.2 kl)).mono ?_⟩
      rintro e w5 ⟨a5, c5, rfl, s5, hb5⟩
      have h5 : Below W.heap.size W w5 := (Below.refl W.heap.size W).drew.trans hb5
      have z5 := h5.size
      have d5 : w5.cell? ⟨w1.heap.size + 1, 0, none⟩ = some v := (h5.cell (p := ⟨w1.heap.size + 1, 0, none⟩) zt).trans c0
      have zt5 : w1.heap.size + 1 < w5.heap.size := by omega
      refine hK _ _ ?_
      clear hK K
      refine wpAnyIn_ready (rs := [3]) (by kernel_rfl) (by simp) ?_
      refine AllReadyIn.cons rfl (fun K hK => ?_) AllReadyIn.nil
      go_simp
      refine hK _ _ ?_
      clear hK K
      obtain ⟨v', w6, hrun, r1, r2, _⟩ := run_append_own (P := Try.prog) (w := w5.alloc (.cells #[.slice a5 ns c5] 91)) w.heap.size 68 68 91 i0 _ 1 24 Try.underlying68 hi hz0 hz1 hz2 rfl (by decide) v k (rwL A' k) (own_on q1 (below_alloc h5 _)) ⟨w5.heap.size, 0, none⟩ 1 1 [.slice a5 ns c5] rfl (cell_one w5 _ _) (fun u hu => by simp only [List.mem_cons, List.not_mem_nil, or_false] at hu; subst hu; rfl) (by unfold maxLen; omega) (by omega) (by simp; omega)
      obtain ⟨g6, cap6, rfl⟩ := own_some r1 (by omega)
      obtain ⟨b6, fin⟩ := truth_fin (Z := fun k => trZ (ns : Int) n F T P (k + 1)) hB hb (by omega) hrw q1 q2 q3 q4 rfl htop' h5 s5 (Nat.le_refl _) hb5.size (Nat.le_refl _) r1 r2
      have x6 := b6.cell (i := 0) (by omega)
      have f6 := b6.frozen 0
      have FI : Hid _ := fin
      clear fin r1 r2
      refine wpAnyIn_ready (rs := [4]) (by kernel_rfl) (by simp) ?_ 
      refine AllReadyIn.cons rfl (fun K hK => opIn_append _ rfl _ _ _ rfl rfl rfl hrun (hK _ _ ?_)) AllReadyIn.nil
      go_simp
      refine wpAnyIn_ready (rs := [5]) (by kernel_rfl) (by simp) ?_
      refine AllReadyIn.cons rfl (fun K hK => ?_) AllReadyIn.nil
      go_simp
      refine hK _ _ ?_
      clear hK K
      refine wpAnyIn_done (by kernel_rfl) ?_ _
      gi_wp2
      exact FI.out
    · go_simp
      refine hK _ _ ?_
      clear hK K
      refine wpAnyIn_ready (rs := [0, 2]) (by kernel_rfl) (by simp) ?_
      refine AllReadyIn.cons rfl (fun K hK => ?_) (AllReadyIn.cons rfl (fun K hK => ?_) AllReadyIn.nil)
      · go_simp
        refine hK _ _ ?_
        clear hK K
        refine wpAnyIn_ready (rs := [2]) (by kernel_rfl) (by simp) ?_
        refine AllReadyIn.cons rfl (fun K hK => ?_) AllReadyIn.nil
        go_simp
        refine ⟨trivial, (CallsIn.inRound l (callsIn_wide.2 kl)).mono ?_⟩
        rintro e w5 ⟨a5, c5, rfl, s5, hb5⟩
        have h5 : Below W.heap.size W w5 := (Below.refl W.heap.size W).drew.trans hb5
        have z5 := h5.size
        have d5 : w5.cell? ⟨w1.heap.size + 1, 0, none⟩ = some v := (h5.cell (p := ⟨w1.heap.size + 1, 0, none⟩) zt).trans c0
        have zt5 : w1.heap.size + 1 < w5.heap.size := by omega
        refine hK _ _ ?_
        clear hK K
        refine wpAnyIn_ready (rs := [3]) (by kernel_rfl) (by simp) ?_
        refine AllReadyIn.cons rfl (fun K hK => ?_) AllReadyIn.nil
        go_simp
        refine hK _ _ ?_
        clear hK K
        obtain ⟨v', w6, hrun, r1, r2, _⟩ := run_append_own (P := Try.prog) (w := w5.alloc (.cells #[.slice a5 ns c5] 91)) w.heap.size 68 68 91 i0 _ 1 24 Try.underlying68 hi hz0 hz1 hz2 rfl (by decide) v k (rwL A' k) (own_on q1 (below_alloc h5 _)) ⟨w5.heap.size, 0, none⟩ 1 1 [.slice a5 ns c5] rfl (cell_one w5 _ _) (fun u hu => by simp only [List.mem_cons, List.not_mem_nil, or_false] at hu; subst hu; rfl) (by unfold maxLen; omega) (by omega) (by simp; omega)
        obtain ⟨g6, cap6, rfl⟩ := own_some r1 (by omega)
        obtain ⟨b6, fin⟩ := truth_fin (Z := fun k => trZ (ns : Int) n F T P (k + 1)) hB hb (by omega) hrw q1 q2 q3 q4 rfl htop' h5 s5 (Nat.le_refl _) hb5.size (Nat.le_refl _) r1 r2
        have x6 := b6.cell (i := 0) (by omega)
        have f6 := b6.frozen 0
        have FI : Hid _ := fin
        clear fin r1 r2
        refine wpAnyIn_ready (rs := [4]) (by kernel_rfl) (by simp) ?_ 
        refine AllReadyIn.cons rfl (fun K hK => opIn_append _ rfl _ _ _ rfl rfl rfl hrun (hK _ _ ?_)) AllReadyIn.nil
        go_simp
        refine wpAnyIn_ready (rs := [5]) (by kernel_rfl) (by simp) ?_
        refine AllReadyIn.cons rfl (fun K hK => ?_) AllReadyIn.nil
        go_simp
        refine hK _ _ ?_
        clear hK K
        refine wpAnyIn_done (by kernel_rfl) ?_ _
        gi_wp2
        exact FI.out
      · go_simp
        refine ⟨trivial, (CallsIn.inRound l (callsIn_wide.2 kl)).mono ?_⟩
        rintro e w5 ⟨a5, c5, rfl, s5, hb5⟩
        have h5 : Below W.heap.size W w5 := (Below.refl W.heap.size W).drew.trans hb5
        have z5 := h5.size
        have d5 : w5.cell? ⟨w1.heap.size + 1, 0, none⟩ = some v := (h5.cell (p := ⟨w1.heap.size + 1, 0, none⟩) zt).trans c0
        have zt5 : w1.heap.size + 1 < w5.heap.size := by omega
        refine hK _ _ ?_
        clear hK K
        refine wpAnyIn_ready (rs := [0, 3]) (by kernel_rfl) (by simp) ?_
        refine AllReadyIn.cons rfl (fun K hK => ?_) (AllReadyIn.cons rfl (fun K hK => ?_) AllReadyIn.nil)
        · go_simp
          refine hK _ _ ?_
          clear hK K
          refine wpAnyIn_ready (rs := [3]) (by kernel_rfl) (by simp) ?_
          refine AllReadyIn.cons rfl (fun K hK => ?_) AllReadyIn.nil
          go_simp
          refine hK _ _ ?_
          clear hK K
          obtain ⟨v', w6, hrun, r1, r2, _⟩ := run_append_own (P := Try.prog) (w := w5.alloc (.cells #[.slice a5 ns c5] 91)) w.heap.size 68 68 91 i0 _ 1 24 Try.underlying68 hi hz0 hz1 hz2 rfl (by decide) v k (rwL A' k) (own_on q1 (below_alloc h5 _)) ⟨w5.heap.size, 0, none⟩ 1 1 [.slice a5 ns c5] rfl (cell_one w5 _ _) (fun u hu => by simp only [List.mem_cons, List.not_mem_nil, or_false] at hu; subst hu; rfl) (by unfold maxLen; omega) (by omega) (by simp; omega)
          obtain ⟨g6, cap6, rfl⟩ := own_some r1 (by omega)
          obtain ⟨b6, fin⟩ := truth_fin (Z := fun k => trZ (ns : Int) n F T P (k + 1)) hB hb (by omega) hrw q1 q2 q3 q4 rfl htop' h5 s5 (Nat.le_refl _) hb5.size (Nat.le_refl _) r1 r2
          have x6 := b6.cell (i := 0) (by omega)
          have f6 := b6.frozen 0
          have FI : Hid _ := fin
          clear fin r1 r2
          refine wpAnyIn_ready (rs := [4]) (by kernel_rfl) (by simp) ?_ 
          refine AllReadyIn.cons rfl (fun K hK => opIn_append _ rfl _ _ _ rfl rfl rfl hrun (hK _ _ ?_)) AllReadyIn.nil
          go_simp
          refine wpAnyIn_ready (rs := [5]) (by kernel_rfl) (by simp) ?_
          refine AllReadyIn.cons rfl (fun K hK => ?_) AllReadyIn.nil
          go_simp
          refine hK _ _ ?_
          clear hK K
          refine wpAnyIn_done (by kernel_rfl) ?_ _
          gi_wp2
          exact FI.out
        · go_simp
          refine hK _ _ ?_
          clear hK K
          refine wpAnyIn_ready (rs := [0]) (by kernel_rfl) (by simp) ?_
          refine AllReadyIn.cons rfl (fun K hK => ?_) AllReadyIn.nil
          go_simp
          refine hK _ _ ?_
          clear hK K
          obtain ⟨v', w6, hrun, r1, r2, _⟩ := run_append_own (P := Try.prog) (w := w5.alloc (.cells #[.slice a5 ns c5] 91)) w.heap.size 68 68 91 i0 _ 1 24 Try.underlying68 hi hz0 hz1 hz2 rfl (by decide) v k (rwL A' k) (own_on q1 (below_alloc h5 _)) ⟨w5.heap.size, 0, none⟩ 1 1 [.slice a5 ns c5] rfl (cell_one w5 _ _) (fun u hu => by simp only [List.mem_cons, List.not_mem_nil, or_false] at hu; subst hu; rfl) (by unfold maxLen; omega) (by omega) (by simp; omega)
          obtain ⟨g6, cap6, rfl⟩ := own_some r1 (by omega)
          obtain ⟨b6, fin⟩ := truth_fin (Z := fun k => trZ (ns : Int) n F T P (k + 1)) hB hb (by omega) hrw q1 q2 q3 q4 rfl htop' h5 s5 (Nat.le_refl _) hb5.size (Nat.le_refl _) r1 r2
          have x6 := b6.cell (i := 0) (by omega)
          have f6 := b6.frozen 0
          have FI : Hid _ := fin
          clear fin r1 r2
          refine wpAnyIn_ready (rs := [4]) (by kernel_rfl) (by simp) ?_ 
          refine AllReadyIn.cons rfl (fun K hK => opIn_append _ rfl _ _ _ rfl rfl rfl hrun (hK _ _ ?_)) AllReadyIn.nil
          go_simp
          refine wpAnyIn_ready (rs := [5]) (by kernel_rfl) (by simp) ?_
          refine AllReadyIn.cons rfl (fun K hK => ?_) AllReadyIn.nil
          go_simp
          refine hK _ _ ?_
          clear hK K
          refine wpAnyIn_done (by kernel_rfl) ?_ _
          gi_wp2
          exact FI.out
  case done =>
    rintro W ⟨v, top, hb, hR, hne, htop, hB⟩ hD
    have c0 := hb.cell (i := 0) (by omega)
    have hz : w.heap.size + 1 + 1 ≤ W.heap.size := by have := hb.lt; omega
    have RW : RwF W w.heap.size W.heap.size v m ns (fun k => trZ (ns : Int) n F T P (k + 1)) := by
      rcases htop with h | ⟨rfl, rfl⟩
      · exact hR.rows (by omega) h
      · obtain ⟨A', L, q1, _⟩ := hR
        rcases q1.2 with ⟨rfl, _⟩ | ⟨g', cap', cur, rfl, _⟩
        · exact RwF.nil _ _ _ _ _ _ (by omega) _
        · exact RwF.nil _ _ _ _ _ _ (by omega) _
    have RB := RwF.kept RW (grownBy_putObj' W w3.heap.size (.deferred none)) (fun r e => by cases e; exact ⟨_, hD, rfl⟩)
    have BB : Below w.heap.size w (W.putObj w3.heap.size (.deferred none)) := hB.grown (grownBy_putObj' W w3.heap.size (.deferred none)) hB.size (fun r e => by cases e; exact zw)
    have HR : Hid _ := RB
    clear hR RW RB hne htop hb
    gi_wp2
    refine ⟨by simp, .inl ⟨_, _, rfl, run_takeDeferred hD, ?_⟩⟩
    refine ⟨_, results_tmp rfl _ _ _, _, rfl, ?_, BB⟩
    rw [World.putObj_size]
    exact HR.out

end Go.Proofs.Ytlpopfhaephfaab
