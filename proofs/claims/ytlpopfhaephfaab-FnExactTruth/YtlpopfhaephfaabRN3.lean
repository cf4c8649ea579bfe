import Derived.Test.YtlpopfhaephfaabRN2
namespace Go.Proofs.Ytlpopfhaephfaab
open Go.RowKit Go.Maps

/-- the number at which the marks of the k-th Done begin -/
def mkQ (q0 : Int) (ns nd : Nat) : Nat → Int
  | 0 => q0
  | k + 1 => mkQ q0 ns nd k + 1 + 1 + 5 * (ns : Int) + (nd : Int)

theorem mkQ_bound {q0 : Int} {ns nd k : Nat} (hs : ns ≤ 60) (hd : nd ≤ 120) (h0 : 0 ≤ q0) : 0 ≤ mkQ q0 ns nd k ∧ mkQ q0 ns nd k ≤ q0 + 422 * (k : Int) := by
  induction k with
  | zero => simp [mkQ]; omega
  | succ k ih => simp only [mkQ]; omega

/-- what stands of the Dones behind k rounds of marking -/
def mrkC (q0 : Int) (ns nd k : Nat) (C : Nat → Int) : Nat → Int := fun i => if i < k then mkQ q0 ns nd i else C i
def mrkB (q0 : Int) (ns nd k : Nat) (B : Nat → Bool) : Nat → Bool := fun i => if i < k then (mkQ q0 ns nd i + 1) % 3 == 0 else B i
def mrkX (q0 : Int) (ns nd k : Nat) (X : Nat → Nat → Sec) : Nat → Nat → Sec := fun i => if i < k then markSecs (mkQ q0 ns nd i + 1 + 1) else X i
def mrkD (q0 : Int) (ns nd k : Nat) (D : Nat → Nat → Bool) : Nat → Nat → Bool := fun i => if i < k then markB (mkQ q0 ns nd i + 1 + 1 + 5 * (ns : Int)) else D i

/-- a list of Dones that is marked from q0 on -/
def MkD (w : World) (lo hi : Nat) (v : Value) (m ns nd : Nat) (q0 : Int) : Prop :=
  DnF w lo hi v m ns nd (mkQ q0 ns nd) (fun i => (mkQ q0 ns nd i + 1) % 3 == 0) (fun i => markSecs (mkQ q0 ns nd i + 1 + 1)) (fun i => markB (mkQ q0 ns nd i + 1 + 1 + 5 * (ns : Int)))

def isDn (e : Nat) : Prop := e = 46 ∨ isSt e

set_option maxHeartbeats 1000000 in
theorem eqDoneS_same (lo hi lo' hi' m ns nd : Nat) (v v' : Value) (C : Nat → Int) (B : Nat → Bool) (X : Nat → Nat → Sec) (D : Nat → Nat → Bool) (w : World) (hm : m ≤ 1048576) (hs : ns ≤ 1048576) (hd : nd ≤ 1048576) (h : DnF w lo hi v m ns nd C B X D) (h' : DnF w lo' hi' v' m ns nd C B X D) :
    Calls Try.prog 31 #[v, v'] w fun e w' => e = .returned (.bool true) ∧ Below w.heap.size w w' := by
  obtain ⟨A1, A2, L, ⟨ao, cap, rfl, h0⟩, _, _, hst⟩ := h
  obtain ⟨A1', A2', L', ⟨ao', cap', rfl, h0'⟩, _, _, hst'⟩ := h'
  go_enter Try.func31, Try.ntmps31
  go_wp2
  go_loopw [5] (fun i wr => ∃ k : Nat, k ≤ m ∧ i = .int .i64 k ∧ Below w.heap.size w wr) (fun i _ => m - (intOf i).toNat)
  case atStart => exact ⟨0, Nat.zero_le _, rfl, Below.refl _ _⟩
  case round =>
    obtain ⟨k, hk, rfl, hbel⟩ := hrel
    by_cases hlt : k < m
    · rcases h0 with h0 | ⟨g, mm, f, rfl, _, _, h2, h3, h4⟩
      · omega
      rcases h0' with h0' | ⟨g', mm', f', rfl, _, _, h2', h3', h4'⟩
      · omega
      obtain ⟨c0, c1, c2, c3⟩ := four (h3.below hbel h3.lt) h2 hlt h4
      obtain ⟨d0, d1, d2, d3⟩ := four (h3'.below hbel h3'.lt) h2' hlt h4'
      obtain ⟨_, s1, s2⟩ := hst k hlt
      obtain ⟨_, s1', s2'⟩ := hst' k hlt
      obtain ⟨x1, y1, e1, _⟩ := id s1
      obtain ⟨x2, y2, e2, _⟩ := id s2
      obtain ⟨x1', y1', e1', _⟩ := id s1'
      obtain ⟨x2', y2', e2', _⟩ := id s2'
      rw [e1] at c2 s1
      rw [e2] at c3 s2
      rw [e1'] at d2 s1'
      rw [e2'] at d3 s2'
      have ke := fun W (hW : Below w.heap.size w W) => eqDone_same _ _ _ _ ns nd (C k) x1 x2 x1' x2' y1 y2 y1' y2' (B k) (X k) (X k) (D k) (D k) W hs hd ⟨_, _, rfl, s1.on hW, s2.on hW⟩ ⟨_, _, rfl, s1'.on hW, s2'.on hW⟩ (fun _ _ => rfl) (fun _ _ => rfl)
      have hi : (k : Int) < (m : Int) := by omega
      have HB : Hid (Below w.heap.size w wr) := hbel
      clear h3 h3' h4 h4' hbel h2 h2' hst hst' s1 s2 s1' s2' e1 e2 e1' e2'
      go_wp2
      go_region_with (go_at_call 19; refine (ke _ HB.out.drew).mono ?_; rintro e w1 ⟨rfl, hb1⟩)
      all_goals
        go_wp2
        go_roundw
        case rel => exact ⟨k + 1, by omega, by go_num, HB.out.drew.trans (hb1.mono (by simpa using HB.out.size))⟩
        case measure => simp [intOf]; omega
    · go_wp2
      go_ret
      exact ⟨rfl, hbel⟩

/-- what stands behind k rounds of marking, the lists' places being given -/
def MrkI (w : World) (g mm m ns nd : Nat) (A1 A2 : Nat → Value) (L : Nat → Nat) (q0 : Int) (C : Nat → Int) (B : Nat → Bool) (X : Nat → Nat → Sec) (D : Nat → Nat → Bool) (k : Nat) : Prop :=
  ∃ f, Blk w g 46 mm f ∧ (∀ i, i < m → ∀ j, j < 4 → f (i * 4 + j) = dnF (mrkC q0 ns nd k C i) (mrkB q0 ns nd k B i) (A1 i) (A2 i) j) ∧ ∀ i, i < m → SlF w 93 5 (L i) (L (i + 1)) (A1 i) ns (secs (mrkX q0 ns nd k X i)) ∧ SlF w 4 1 (L i) (L (i + 1)) (A2 i) nd (bools (mrkD q0 ns nd k D i))

theorem rise {L : Nat → Nat} {m : Nat} (h : ∀ i, i < m → L i ≤ L (i + 1)) : ∀ j i, i + j ≤ m → L i ≤ L (i + j) := fun j => by
  induction j with
  | zero => intro i _; exact Nat.le_refl _
  | succ j ih => intro i hi; have := h (i + j) (by omega); have := ih i (by omega); rw [← Nat.add_assoc]; omega

theorem rise' {L : Nat → Nat} {m : Nat} (h : ∀ i, i < m → L i ≤ L (i + 1)) {a b : Nat} (hab : a ≤ b) (hb : b ≤ m) : L a ≤ L b := by
  have := rise h (b - a) a (by omega)
  rwa [show a + (b - a) = b by omega] at this

theorem mrk_step {wr w1 w2 : World} {g mm m ns nd k lo hi : Nat} {A1 A2 : Nat → Value} {L : Nat → Nat} {q0 : Int} {C : Nat → Int} {B : Nat → Bool} {X : Nat → Nat → Sec} {D : Nat → Nat → Bool}
    (hL : ∀ i, i < m → L i ≤ L (i + 1)) (hlo : lo ≤ g) (hhi : g < hi) (l1 : lo ≤ L 0) (l2 : L m ≤ hi) (hk : k < m) (h : MrkI wr g mm m ns nd A1 A2 L q0 C B X D k)
    (s1 : SlF w1 93 5 (L k) (L (k + 1)) (A1 k) ns (secs (markSecs (mkQ q0 ns nd k + 1 + 1)))) (t1 : Turned ((wr.setCell ⟨g, k * 4, none⟩ (.int .i64 (mkQ q0 ns nd k))).setCell ⟨g, k * 4 + 1, none⟩ (.bool ((mkQ q0 ns nd k + 1) % 3 == 0))) w1 (· = 93) (L k) (L (k + 1)))
    (s2 : SlF w2 4 1 (L k) (L (k + 1)) (A2 k) nd (bools (markB (mkQ q0 ns nd k + 1 + 1 + 5 * (ns : Int))))) (t2 : Turned w1 w2 (· = 4) (L k) (L (k + 1))) :
    MrkI w2 g mm m ns nd A1 A2 L q0 C B X D (k + 1) ∧ Turned wr w2 isDn lo hi := by
  obtain ⟨f, hB, hf, hS⟩ := h
  have T0 : Turned wr ((wr.setCell ⟨g, k * 4, none⟩ (.int .i64 (mkQ q0 ns nd k))).setCell ⟨g, k * 4 + 1, none⟩ (.bool ((mkQ q0 ns nd k + 1) % 3 == 0))) (· = 46) lo hi := Turned.of_grown (grown_set (grown_set (World.grownBy.refl _ _) _) _) hlo hhi rfl hB
  have b0 := (hB.set (k * 4) (.int .i64 (mkQ q0 ns nd k))).set (k * 4 + 1) (.bool ((mkQ q0 ns nd k + 1) % 3 == 0))
  have b2 := Blk.turned (Blk.turned b0 t1 (.inl (by decide))) t2 (.inl (by decide))
  have r0 := rise' hL (Nat.zero_le k) (Nat.le_of_lt hk)
  have r1 := rise' hL (a := k + 1) (b := m) hk (Nat.le_refl _)
  refine ⟨⟨_, b2, fun i hi j hj => ?_, fun i hi => ?_⟩, ?_⟩
  · by_cases hik : i = k
    · subst hik
      rcases (show j = 0 ∨ j = 1 ∨ j = 2 ∨ j = 3 by omega) with rfl | rfl | rfl | rfl
      · simp [dnF, mrkC]
      · simp [dnF, mrkB]
      · have := hf i hi 2 (by omega); simp [dnF] at this ⊢; exact this
      · have := hf i hi 3 (by omega); simp [dnF] at this ⊢; exact this
    · have e1 : ¬ i * 4 + j = k * 4 + 1 := by omega
      have e2 : ¬ i * 4 + j = k * 4 := by omega
      have e3 : mrkC q0 ns nd (k + 1) C i = mrkC q0 ns nd k C i := by unfold mrkC; by_cases h : i < k; rw [if_pos h, if_pos (by omega)]; rw [if_neg h, if_neg (by omega)]
      have e4 : mrkB q0 ns nd (k + 1) B i = mrkB q0 ns nd k B i := by unfold mrkB; by_cases h : i < k; rw [if_pos h, if_pos (by omega)]; rw [if_neg h, if_neg (by omega)]
      simp only [e1, e2, if_false, e3, e4]
      exact hf i hi j hj
  · by_cases hik : i = k
    · subst hik
      have e5 : mrkX q0 ns nd (i + 1) X i = markSecs (mkQ q0 ns nd i + 1 + 1) := by unfold mrkX; rw [if_pos (by omega)]
      have e6 : mrkD q0 ns nd (i + 1) D i = markB (mkQ q0 ns nd i + 1 + 1 + 5 * (ns : Int)) := by unfold mrkD; rw [if_pos (by omega)]
      rw [e5, e6]
      exact ⟨s1.turned t2 (.inl (by decide)), s2⟩
    · have e5 : mrkX q0 ns nd (k + 1) X i = mrkX q0 ns nd k X i := by unfold mrkX; by_cases h : i < k; rw [if_pos h, if_pos (by omega)]; rw [if_neg h, if_neg (by omega)]
      have e6 : mrkD q0 ns nd (k + 1) D i = mrkD q0 ns nd k D i := by unfold mrkD; by_cases h : i < k; rw [if_pos h, if_pos (by omega)]; rw [if_neg h, if_neg (by omega)]
      rw [e5, e6]
      have hd : L (k + 1) ≤ L i ∨ L (i + 1) ≤ L k := by
        rcases Nat.lt_or_gt_of_ne hik with h | h
        · exact .inr (rise' hL h (by omega))
        · exact .inl (rise' hL h (by omega))
      exact ⟨(((hS i hi).1.turned T0 (.inl (by decide))).turned t1 (.inr hd)).turned t2 (.inl (by decide)), (((hS i hi).2.turned T0 (.inl (by decide))).turned t1 (.inl (by decide))).turned t2 (.inr hd)⟩
  · refine (T0.mono (fun e he => .inl he) (Nat.le_refl _) (Nat.le_refl _)).trans ((t1.mono (fun e he => .inr (.inl he)) (by omega) (by omega)).trans (t2.mono (fun e he => .inr (.inr he)) (by omega) (by omega)))

set_option maxRecDepth 100000 in
set_option maxHeartbeats 2000000 in
theorem markDoneS_any (lo hi m ns nd : Nat) (v : Value) (q0 : Int) (C : Nat → Int) (B : Nat → Bool) (X : Nat → Nat → Sec) (D : Nat → Nat → Bool) (w : World) (hm : m ≤ 2000) (hs : ns ≤ 60) (hd : nd ≤ 120) (hq0 : 0 ≤ q0) (hq1 : q0 ≤ 1000000000) (hlh : lo ≤ hi) (h : DnF w lo hi v m ns nd C B X D) :
    Calls Try.prog 34 #[v, .int .i64 q0] w fun e w' => e = .returned (.int .i64 (mkQ q0 ns nd m)) ∧ MkD w' lo hi v m ns nd q0 ∧ Turned w w' isDn lo hi := by
  obtain ⟨A1, A2, L, ⟨ao, cap, rfl, h0⟩, l1, l2, hst⟩ := h
  have hL : ∀ i, i < m → L i ≤ L (i + 1) := fun i hi => (hst i hi).1
  rcases h0 with rfl | ⟨g, mm, f, rfl, a1, a2, h2, h1, h4⟩
  · go_enter Try.func34, Try.ntmps34
    go_wp2
    refine wp_loop_rounds 1 ?_
    rw [rounds_succ]
    go_wp2
    go_ret
    exact ⟨by simp [mkQ], DnF.nil _ _ _ _ _ _ _ hlh _ _ _ _, Turned.refl _ _ _ _⟩
  · have I0 : MrkI w g mm m ns nd A1 A2 L q0 C B X D 0 := ⟨f, h1, fun i hi j hj => by rw [h4 i hi j hj]; simp [mrkC, mrkB], fun i hi => ⟨(hst i hi).2.1.congr (fun _ _ _ _ => by simp [mrkX]), (hst i hi).2.2.congr (fun _ _ _ _ => by simp [mrkD])⟩⟩
    clear h1 h4 hst
    go_enter Try.func34, Try.ntmps34
    go_wp2
    go_loopw [1, 5] (fun q i wr => ∃ k : Nat, k ≤ m ∧ i = .int .i64 k ∧ q = .int .i64 (mkQ q0 ns nd k) ∧ MrkI wr g mm m ns nd A1 A2 L q0 C B X D k ∧ Turned w wr isDn lo hi) (fun _ i _ => m - (intOf i).toNat)
    case atStart => exact ⟨0, Nat.zero_le _, rfl, by simp [mkQ], I0, Turned.refl _ _ _ _⟩
    case round =>
      obtain ⟨k, hk, rfl, rfl, hI, hT⟩ := hrel
      by_cases hlt : k < m
      · obtain ⟨f', b1, b2, b3⟩ := id hI
        obtain ⟨c0, c1, c2, c3⟩ := four b1 h2 hlt b2
        have z0 := b1.frozen (k * 4)
        have z1 := b1.frozen (k * 4 + 1)
        obtain ⟨qb1, qb2⟩ := mkQ_bound (k := k) hs hd hq0
        obtain ⟨s1, s2⟩ := b3 k hlt
        have step := fun w1 w2 a b c d => mrk_step (w1 := w1) (w2 := w2) hL a1 a2 l1 l2 hlt hI a b c d
        obtain ⟨Q, eQ⟩ : ∃ Q, mkQ q0 ns nd k = Q := ⟨_, rfl⟩
        have eQ' : mkQ q0 ns nd (k + 1) = Q + 1 + 1 + 5 * (ns : Int) + (nd : Int) := by rw [← eQ]; rfl
        rw [eQ] at step qb1 qb2 ⊢
        have T0 : Turned wr ((wr.setCell ⟨g, k * 4, none⟩ (.int .i64 Q)).setCell ⟨g, k * 4 + 1, none⟩ (.bool ((Q + 1) % 3 == 0))) (· = 46) lo hi := Turned.of_grown (grown_set (grown_set (World.grownBy.refl _ _) _) _) a1 a2 rfl b1
        have b0 := (b1.set (k * 4) (.int .i64 Q)).set (k * 4 + 1) (.bool ((Q + 1) % 3 == 0))
        have d2 : ((wr.setCell ⟨g, k * 4, none⟩ (.int .i64 Q)).setCell ⟨g, k * 4 + 1, none⟩ (.bool ((Q + 1) % 3 == 0))).cell? ⟨g, k * 4 + 3, none⟩ = some (A2 k) := by
          rw [b0.cell (by omega), if_neg (by omega), if_neg (by omega)]
          exact congrArg some (b2 k hlt 3 (by omega))
        have fin : ∀ w1, Turned ((wr.setCell ⟨g, k * 4, none⟩ (.int .i64 Q)).setCell ⟨g, k * 4 + 1, none⟩ (.bool ((Q + 1) % 3 == 0))) w1 (· = 93) (L k) (L (k + 1)) → w1.cell? ⟨g, k * 4 + 3, none⟩ = some (A2 k) := fun w1 t1 => by
          have := Blk.turned b0 t1 (.inl (by decide))
          rw [this.cell (by omega), if_neg (by omega), if_neg (by omega)]
          exact congrArg some (b2 k hlt 3 (by omega))
        have S1 : Hid _ := s1.turned T0 (.inl (by decide))
        have S2 : Hid _ := s2.turned T0 (.inl (by decide))
        have ST : Hid _ := step
        have EQ : Hid _ := eQ'
        have FI : Hid _ := fin
        have hi' : (k : Int) < (m : Int) := by omega
        clear b1 b2 b3 hI s1 s2 step eQ eQ' T0 b0 d2 fin c3
        go_wp2_with fail
        refine (markSectionS_any (L k) (L (k + 1)) ns (A1 k) (Q + 1 + 1) _ _ (by omega) (by omega) (by omega) S1.out).mono ?_
        rintro e w1 ⟨rfl, s1', t1⟩
        have c3 := FI.out w1 t1
        have S2' := SlF.turned S2.out t1 (.inl (by decide))
        go_wp2_with fail
        refine (markBoolS_any (L k) (L (k + 1)) nd (A2 k) (Q + 1 + 1 + 5 * (ns : Int)) _ _ (by omega) (by omega) (by omega) S2').mono ?_
        rintro e w2 ⟨rfl, s2', t2⟩
        obtain ⟨n1, n2⟩ := ST.out w1 w2 s1' t1 s2' t2
        go_wp2
        go_roundw
        case rel => exact ⟨k + 1, by omega, by go_num, by rw [EQ.out], n1, hT.trans n2⟩
        case measure => simp [intOf]; omega
      · go_wp2
        go_ret
        have : k = m := by omega
        subst this
        obtain ⟨f', b1, b2, b3⟩ := hI
        refine ⟨rfl, ⟨A1, A2, L, ⟨_, cap, rfl, .inr ⟨g, mm, f', rfl, a1, a2, h2, b1, fun i hi j hj => ?_⟩⟩, l1, l2, fun i hi => ⟨hL i hi, (b3 i hi).1.congr (fun _ _ _ _ => by simp [mrkX, hi]), (b3 i hi).2.congr (fun _ _ _ _ => by simp [mrkD, hi])⟩⟩, hT⟩
        rw [b2 i hi j hj]; simp [mrkC, mrkB, hi]

set_option maxRecDepth 100000 in
set_option maxHeartbeats 2000000 in
theorem heldDoneS_any (lo hi m ns nd : Nat) (v : Value) (q0 : Int) (w : World) (hm : m ≤ 2000) (hs : ns ≤ 60) (hd : nd ≤ 120) (hq0 : 0 ≤ q0) (hq1 : q0 ≤ 1000000000) (h : MkD w lo hi v m ns nd q0) :
    Calls Try.prog 35 #[v, .int .i64 q0] w fun e w' => e = .returned (.int .i64 (mkQ q0 ns nd m)) ∧ Below w.heap.size w w' := by
  obtain ⟨A1, A2, L, ⟨ao, cap, rfl, h0⟩, l1, l2, hst⟩ := h
  go_enter Try.func35, Try.ntmps35
  go_wp2
  go_loopw [1, 5] (fun q i wr => ∃ k : Nat, k ≤ m ∧ i = .int .i64 k ∧ q = .int .i64 (mkQ q0 ns nd k) ∧ Below w.heap.size w wr) (fun _ i _ => m - (intOf i).toNat)
  case atStart => exact ⟨0, Nat.zero_le _, rfl, by simp [mkQ], Below.refl _ _⟩
  case round =>
    obtain ⟨k, hk, rfl, rfl, hbel⟩ := hrel
    by_cases hlt : k < m
    · rcases h0 with h0 | ⟨g, mm, f, rfl, _, _, h2, h3, h4⟩
      · omega
      obtain ⟨c0, c1, c2, c3⟩ := four (h3.below hbel h3.lt) h2 hlt h4
      obtain ⟨_, s1, s2⟩ := hst k hlt
      obtain ⟨qb1, qb2⟩ := mkQ_bound (k := k) hs hd hq0
      have c3' : ∀ W, Below wr.heap.size wr W → W.cell? ⟨g, k * 4 + 3, none⟩ = some (A2 k) := fun W hW => by
        have e := four ((h3.below hbel h3.lt).on hW) h2 hlt h4
        exact e.2.2.2
      obtain ⟨Q, eQ⟩ : ∃ Q, mkQ q0 ns nd k = Q := ⟨_, rfl⟩
      have eQ' : mkQ q0 ns nd (k + 1) = Q + 1 + 1 + 5 * (ns : Int) + (nd : Int) := by rw [← eQ]; rfl
      simp only [eQ] at c0 c1 s1 s2 qb1 qb2 ⊢
      have S1 : Hid _ := s1
      have S2 : Hid _ := s2
      have EQ : Hid _ := eQ'
      have hi' : (k : Int) < (m : Int) := by omega
      have p1 : 0 ≤ Q + 1 + 1 + 5 * (ns : Int) := by omega
      have p2 : 0 ≤ Q + 1 + 1 + 5 * (ns : Int) + (nd : Int) := by omega
      clear h3 h4 hst s1 s2 eQ eQ' c3
      go_wp2_with fail
      refine (heldSectionS_any (L k) (L (k + 1)) ns (A1 k) (Q + 1 + 1) _ (by omega) (by omega) (by omega) (SlF.on S1.out hbel)).mono ?_
      rintro e w1 ⟨rfl, hb1⟩
      have c3 := c3' _ hb1
      go_wp2_with fail
      refine (heldBoolS_any (L k) (L (k + 1)) nd (A2 k) (Q + 1 + 1 + 5 * (ns : Int)) _ (by omega) (by omega) (by omega) (SlF.on S2.out (below_on hbel hb1))).mono ?_
      rintro e w2 ⟨rfl, hb2⟩
      go_wp2
      go_roundw
      case rel => exact ⟨k + 1, by omega, by go_num, by rw [EQ.out], below_on (below_on hbel hb1) hb2⟩
      case measure => simp [intOf]; omega
    · go_wp2
      go_ret
      have : k = m := by omega
      subst this
      exact ⟨rfl, hbel⟩

end Go.Proofs.Ytlpopfhaephfaab
