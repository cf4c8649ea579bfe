import Derived.Test.YtlpopfhaephfaabTR4
import Derived.Test.YtlpopfhaephfaabRN4
namespace Go.Proofs.Ytlpopfhaephfaab
open Go.RowKit Go.Maps

/-- A list of m rows of numbers in a block between lo and hi; the rows lie in ranges that rise. -/
def RwF (w : World) (lo hi : Nat) (v : Value) (m ns : Nat) (Z : Nat → Nat → Int) : Prop :=
  ∃ (A : Nat → Value) (L : Nat → Nat), SlF w 91 1 lo hi v m (fun i _ => A i) ∧ lo ≤ L 0 ∧ L m ≤ hi ∧ ∀ i, i < m → L i ≤ L (i + 1) ∧ SlF w 3 1 (L i) (L (i + 1)) (A i) ns (rowV (Z i))

section
variable {w w' : World} {lo hi m ns : Nat} {v : Value} {Z : Nat → Nat → Int}
theorem RwF.on (h : RwF w lo hi v m ns Z) (hb : Below w.heap.size w w') : RwF w' lo hi v m ns Z := by
  obtain ⟨A, L, h1, h2, h3, h4⟩ := h
  exact ⟨A, L, h1.on hb, h2, h3, fun i hi => ⟨(h4 i hi).1, (h4 i hi).2.on hb⟩⟩
theorem RwF.turned {E : Nat → Prop} {lo' hi' : Nat} (h : RwF w lo hi v m ns Z) (ht : Turned w w' E lo' hi') (hd : hi' ≤ lo ∨ hi ≤ lo') : RwF w' lo hi v m ns Z := by
  obtain ⟨A, L, h1, h2, h3, h4⟩ := h
  refine ⟨A, L, h1.turned ht (.inr hd), h2, h3, fun i hlt => ?_⟩
  have hL : ∀ i, i < m → L i ≤ L (i + 1) := fun i hi => (h4 i hi).1
  have a1 := rise' hL (Nat.zero_le i) (Nat.le_of_lt hlt)
  have a2 := rise' hL (a := i + 1) (b := m) hlt (Nat.le_refl _)
  exact ⟨(h4 i hlt).1, (h4 i hlt).2.turned ht (.inr (by omega))⟩
theorem RwF.wide {lo' : Nat} (h : RwF w lo hi v m ns Z) (h1 : lo' ≤ lo) : RwF w lo' hi v m ns Z := by
  obtain ⟨A, L, a1, a2, a3, a4⟩ := h
  exact ⟨A, L, a1.wide h1 (Nat.le_refl _), by omega, a3, a4⟩
theorem RwF.nil (w : World) (lo hi ns : Nat) (ao : Option Addr) (cap : Nat) (h : lo ≤ hi) (Z : Nat → Nat → Int) : RwF w lo hi (.slice ao 0 cap) 0 ns Z :=
  ⟨fun _ => .slice none 0 0, fun _ => lo, ⟨ao, cap, rfl, .inl rfl⟩, Nat.le_refl _, h, fun i hi => by omega⟩
end

theorem oneA {w : World} {g e m n k : Nat} {f A : Nat → Value} (h : Blk w g e m f) (hm : n * 1 ≤ m) (hk : k < n) (hf : ∀ i, i < n → ∀ j, j < 1 → f (i * 1 + j) = A i) : w.cell? ⟨g, k, none⟩ = some (A k) := by
  rw [h.cell (by omega)]
  have := hf k hk 0 (by omega)
  simp only [Nat.mul_one, Nat.add_zero] at this
  rw [this]

set_option maxHeartbeats 1000000 in
theorem eqIntSS_same (lo hi lo' hi' m ns : Nat) (v v' : Value) (Z : Nat → Nat → Int) (w : World) (hm : m ≤ 1048576) (hs : ns ≤ 1048576) (h : RwF w lo hi v m ns Z) (h' : RwF w lo' hi' v' m ns Z) :
    Calls Try.prog 38 #[v, v'] w fun e w' => e = .returned (.bool true) ∧ Below w.heap.size w w' := by
  obtain ⟨A, L, ⟨ao, cap, rfl, h0⟩, _, _, hst⟩ := h
  obtain ⟨A', L', ⟨ao', cap', rfl, h0'⟩, _, _, hst'⟩ := h'
  go_enter Try.func38, Try.ntmps38
  go_wp2
  go_loopw [5] (fun i wr => ∃ k : Nat, k ≤ m ∧ i = .int .i64 k ∧ Below w.heap.size w wr) (fun i _ => m - (intOf i).toNat)
  case atStart => exact ⟨0, Nat.zero_le _, rfl, Below.refl _ _⟩
  case round =>
    obtain ⟨k, hk, rfl, hbel⟩ := hrel
    by_cases hlt : k < m
    · rcases h0 with h0 | ⟨g, mm, f, rfl, _, _, h2, h3, h4⟩
      · omega
      rcases h0' with h0' | ⟨g', mm', f', rfl, _, _, h2', h3', h4'⟩
      · omega
      have c0 := oneA (h3.below hbel h3.lt) h2 hlt h4
      have d0 := oneA (h3'.below hbel h3'.lt) h2' hlt h4'
      have s1 := (hst k hlt).2
      have s2 := (hst' k hlt).2
      obtain ⟨x1, y1, e1, _⟩ := id s1
      obtain ⟨x2, y2, e2, _⟩ := id s2
      rw [e1] at c0 s1
      rw [e2] at d0 s2
      have ke := fun W (hW : Below w.heap.size w W) => eqIntS_same _ _ _ _ ns _ _ (Z k) (Z k) W hs (s1.on hW) (s2.on hW) (fun _ _ => rfl)
      have hi : (k : Int) < (m : Int) := by omega
      have HB : Hid (Below w.heap.size w wr) := hbel
      clear h3 h3' h4 h4' hbel h2 h2' hst hst' s1 s2 e1 e2
      go_wp2
      go_region_with (go_at_call 82; refine (ke _ HB.out.drew).mono ?_; rintro e w1 ⟨rfl, hb1⟩)
      all_goals
        go_wp2
        go_roundw
        case rel => exact ⟨k + 1, by omega, by go_num, HB.out.drew.trans (hb1.mono (by simpa using HB.out.size))⟩
        case measure => simp [intOf]; omega
    · go_wp2
      go_ret
      exact ⟨rfl, hbel⟩

/-- the number at which the marks of the k-th row begin -/
def rwQ (q0 : Int) (ns : Nat) : Nat → Int
  | 0 => q0
  | k + 1 => rwQ q0 ns k + (ns : Int)

theorem rwQ_bound {q0 : Int} {ns k : Nat} (hs : ns ≤ 60) (h0 : 0 ≤ q0) : 0 ≤ rwQ q0 ns k ∧ rwQ q0 ns k ≤ q0 + 60 * (k : Int) := by
  induction k with
  | zero => simp [rwQ]; omega
  | succ k ih => simp only [rwQ]; omega

def MkR (w : World) (lo hi : Nat) (v : Value) (m ns : Nat) (q0 : Int) : Prop := RwF w lo hi v m ns (fun i => markZ (rwQ q0 ns i))

set_option maxRecDepth 100000 in
set_option maxHeartbeats 2000000 in
theorem markIntSS_any (lo hi m ns : Nat) (v : Value) (q0 : Int) (Z : Nat → Nat → Int) (w : World) (hm : m ≤ 2000) (hs : ns ≤ 60) (hq0 : 0 ≤ q0) (hq1 : q0 ≤ 1000000000) (h : RwF w lo hi v m ns Z) :
    Calls Try.prog 39 #[v, .int .i64 q0] w fun e w' => e = .returned (.int .i64 (rwQ q0 ns m)) ∧ MkR w' lo hi v m ns q0 ∧ Turned w w' (· = 3) lo hi := by
  obtain ⟨A, L, hsl, l1, l2, hst⟩ := h
  have hL : ∀ i, i < m → L i ≤ L (i + 1) := fun i hi => (hst i hi).1
  obtain ⟨ao, cap, rfl, h0⟩ := id hsl
  go_enter Try.func39, Try.ntmps39
  go_wp2
  go_loopw [1, 5] (fun q i wr => ∃ k : Nat, k ≤ m ∧ i = .int .i64 k ∧ q = .int .i64 (rwQ q0 ns k) ∧ (∀ i, i < m → SlF wr 3 1 (L i) (L (i + 1)) (A i) ns (rowV (if i < k then markZ (rwQ q0 ns i) else Z i))) ∧ Turned w wr (· = 3) lo hi) (fun _ i _ => m - (intOf i).toNat)
  case atStart => exact ⟨0, Nat.zero_le _, rfl, by simp [rwQ], fun i hi => by simpa using (hst i hi).2, Turned.refl _ _ _ _⟩
  case round =>
    obtain ⟨k, hk, rfl, rfl, hR, hT⟩ := hrel
    by_cases hlt : k < m
    · have sk := hsl.turned hT (.inl (by decide))
      obtain ⟨ao', cap', ee, h0'⟩ := sk
      simp only [Value.slice.injEq] at ee
      obtain ⟨rfl, _, rfl⟩ := ee
      rcases h0' with h0' | ⟨g, mm, f, rfl, _, _, h2, h3, h4⟩
      · omega
      have c0 := oneA h3 h2 hlt h4
      have s1 := hR k hlt
      obtain ⟨qb1, qb2⟩ := rwQ_bound (k := k) hs hq0
      have r0 := rise' hL (Nat.zero_le k) (Nat.le_of_lt hlt)
      have r1 := rise' hL (a := k + 1) (b := m) hlt (Nat.le_refl _)
      obtain ⟨Q, eQ⟩ : ∃ Q, rwQ q0 ns k = Q := ⟨_, rfl⟩
      have eQ' : rwQ q0 ns (k + 1) = Q + (ns : Int) := by rw [← eQ]; rfl
      rw [eQ] at qb1 qb2 ⊢
      have EQ : Hid _ := eQ'
      have EQ0 : Hid _ := eQ
      have hi' : (k : Int) < (m : Int) := by omega
      clear eQ eQ' h3 h4
      go_wp2_with fail
      refine (markIntS_any (L k) (L (k + 1)) ns (A k) Q _ _ (by omega) (by omega) (by omega) s1).mono ?_
      rintro e w1 ⟨rfl, s1', t1⟩
      have t1' : Turned wr w1 (· = 3) lo hi := t1.mono (fun _ he => he) (by omega) (by omega)
      go_wp2
      go_roundw
      case rel =>
        refine ⟨k + 1, by omega, by go_num, by rw [EQ.out], fun i hi => ?_, hT.trans t1'⟩
        by_cases hik : i = k
        · subst hik
          rw [if_pos (by omega), EQ0.out]
          exact s1'
        · have hd : L (k + 1) ≤ L i ∨ L (i + 1) ≤ L k := by
            rcases Nat.lt_or_gt_of_ne hik with h | h
            · exact .inr (rise' hL h (by omega))
            · exact .inl (rise' hL h (by omega))
          have := (hR i hi).turned t1 (.inr hd)
          by_cases h : i < k
          · rw [if_pos (by omega)]; rw [if_pos h] at this; exact this
          · rw [if_neg (by omega)]; rw [if_neg h] at this; exact this
      case measure => simp [intOf]; omega
    · go_wp2
      go_ret
      have : k = m := by omega
      subst this
      exact ⟨rfl, ⟨A, L, hsl.turned hT (.inl (by decide)), l1, l2, fun i hi => ⟨hL i hi, by have := hR i hi; rw [if_pos hi] at this; exact this⟩⟩, hT⟩

set_option maxRecDepth 100000 in
set_option maxHeartbeats 2000000 in
theorem heldIntSS_any (lo hi m ns : Nat) (v : Value) (q0 : Int) (w : World) (hm : m ≤ 2000) (hs : ns ≤ 60) (hq0 : 0 ≤ q0) (hq1 : q0 ≤ 1000000000) (h : MkR w lo hi v m ns q0) :
    Calls Try.prog 40 #[v, .int .i64 q0] w fun e w' => e = .returned (.int .i64 (rwQ q0 ns m)) ∧ Below w.heap.size w w' := by
  obtain ⟨A, L, ⟨ao, cap, rfl, h0⟩, l1, l2, hst⟩ := h
  go_enter Try.func40, Try.ntmps40
  go_wp2
  go_loopw [1, 5] (fun q i wr => ∃ k : Nat, k ≤ m ∧ i = .int .i64 k ∧ q = .int .i64 (rwQ q0 ns k) ∧ Below w.heap.size w wr) (fun _ i _ => m - (intOf i).toNat)
  case atStart => exact ⟨0, Nat.zero_le _, rfl, by simp [rwQ], Below.refl _ _⟩
  case round =>
    obtain ⟨k, hk, rfl, rfl, hbel⟩ := hrel
    by_cases hlt : k < m
    · rcases h0 with h0 | ⟨g, mm, f, rfl, _, _, h2, h3, h4⟩
      · omega
      have c0 := oneA (h3.below hbel h3.lt) h2 hlt h4
      have s1 := (hst k hlt).2
      obtain ⟨qb1, qb2⟩ := rwQ_bound (k := k) hs hq0
      obtain ⟨Q, eQ⟩ : ∃ Q, rwQ q0 ns k = Q := ⟨_, rfl⟩
      have eQ' : rwQ q0 ns (k + 1) = Q + (ns : Int) := by rw [← eQ]; rfl
      rw [eQ] at s1 qb1 qb2 ⊢
      have S1 : Hid _ := s1.on hbel
      have EQ : Hid _ := eQ'
      have hi' : (k : Int) < (m : Int) := by omega
      have p1 : 0 ≤ Q + (ns : Int) := by omega
      clear h3 h4 hst s1 eQ eQ'
      go_wp2_with fail
      refine (heldIntS_any (L k) (L (k + 1)) ns (A k) Q _ (by omega) (by omega) (by omega) S1.out).mono ?_
      rintro e w1 ⟨rfl, hb1⟩
      go_wp2
      go_roundw
      case rel => exact ⟨k + 1, by omega, by go_num, by rw [EQ.out], below_on hbel hb1⟩
      case measure => simp [intOf]; omega
    · go_wp2
      go_ret
      have : k = m := by omega
      subst this
      exact ⟨rfl, hbel⟩

/-- the cells of a list of rows -/
def rwL (A : Nat → Value) : Nat → List Value
  | 0 => []
  | k + 1 => rwL A k ++ [A k]
theorem rwL_len (A : Nat → Value) (k : Nat) : (rwL A k).length = k := by
  induction k with
  | zero => rfl
  | succ k ih => simp only [rwL, List.length_append, ih, List.length_cons, List.length_nil]
theorem rwL_get (A : Nat → Value) (k i : Nat) (hi : i < k) : (rwL A k)[i]? = some (A i) := by
  induction k with
  | zero => omega
  | succ k ih =>
    unfold rwL
    rcases (show i < k ∨ i = k by omega) with e | e
    · rw [List.getElem?_append_left (by rw [rwL_len]; omega)]; exact ih e
    · subst e
      rw [List.getElem?_append_right (by rw [rwL_len]; omega), rwL_len]
      simp
theorem rwL_congr {A A' : Nat → Value} {k : Nat} (h : ∀ i, i < k → A' i = A i) : rwL A' k = rwL A k := by
  induction k with
  | zero => rfl
  | succ k ih => unfold rwL; rw [ih (fun i hi => h i (by omega)), h k (by omega)]

/-- What stands of the rows behind k events. -/
def RowI (w : World) (base low top : Nat) (v : Value) (k ns : Nat) (Z : Nat → Nat → Int) : Prop :=
  ∃ (A : Nat → Value) (L : Nat → Nat), w.ownsRow base 91 1 v k (rwL A k) ∧ low ≤ L 0 ∧ L k ≤ top ∧ ∀ i, i < k → L i ≤ L (i + 1) ∧ SlF w 3 1 (L i) (L (i + 1)) (A i) ns (rowV (Z i))

section
variable {w w' : World} {base low top k ns : Nat} {v : Value} {Z : Nat → Nat → Int}
theorem RowI.on (h : RowI w base low top v k ns Z) (hb : Below w.heap.size w w') : RowI w' base low top v k ns Z := by
  obtain ⟨A, L, a1, a2, a3, a4⟩ := h
  exact ⟨A, L, own_on a1 hb, a2, a3, fun i hi => ⟨(a4 i hi).1, (a4 i hi).2.on hb⟩⟩
theorem RowI.step {A : Nat → Value} {L : Nat → Nat} (a1 : w.ownsRow base 91 1 v k (rwL A k)) (a2 : low ≤ L 0) (a3 : L k ≤ top) (a4 : ∀ i, i < k → L i ≤ L (i + 1) ∧ SlF w 3 1 (L i) (L (i + 1)) (A i) ns (rowV (Z i)))
    {lo hi : Nat} {u v' : Value} (hl : SlF w 3 1 lo hi u ns (rowV (Z k))) (h1 : top ≤ lo) (h2 : lo ≤ hi)
    (ha : w'.ownsRow base 91 1 v' (k + 1) (rwL A k ++ [u])) (hg : w.grownBy w' v.ownBlock) : RowI w' base low hi v' (k + 1) ns Z := by
  have ht := own_grown a1 hg
  have f1 : ∀ i, i < k → (if i = k then u else A i) = A i := fun i hi => if_neg (by omega)
  refine ⟨fun i => if i = k then u else A i, fun i => if i ≤ k then L i else hi, ?_, by simpa using a2, by show (if k + 1 ≤ k then _ else _) ≤ _; rw [if_neg (by omega)]; exact Nat.le_refl _, fun i hi' => ?_⟩
  · unfold rwL
    rw [rwL_congr (A := A) f1]
    simp only [if_true]
    exact ha
  · by_cases hk : i = k
    · subst hk
      simp only [if_true, Nat.le_refl, show ¬ i + 1 ≤ i by omega, if_false]
      exact ⟨by omega, (hl.turned ht (.inl (by decide))).wide (by omega) (Nat.le_refl _)⟩
    · have b1 : i ≤ k := by omega
      have b2 : i + 1 ≤ k := by omega
      simp only [b1, b2, hk, if_true, if_false]
      exact ⟨(a4 i b2).1, (a4 i b2).2.turned ht (.inl (by decide))⟩
theorem RowI.rows (h : RowI w base low top v k ns Z) (hb : base ≤ low) (h1 : top ≤ w.heap.size) : RwF w base w.heap.size v k ns Z := by
  obtain ⟨A, L, a1, a2, a3, a4⟩ := h
  exact ⟨A, L, SlF.of_ownsRow a1 (fun i hi j hj => by
    have hj0 : j = 0 := by omega
    subst hj0
    simp only [Nat.mul_one, Nat.add_zero]; exact rwL_get A k i hi), by omega, by omega, a4⟩
end

end Go.Proofs.Ytlpopfhaephfaab
