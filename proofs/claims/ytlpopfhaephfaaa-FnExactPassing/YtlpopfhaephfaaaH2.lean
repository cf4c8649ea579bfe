import Derived.Test.YtlpopfhaephfaaaH1
import Derived.Deep.DeepCutAuto
import Derived.Lib.QuietBelow
namespace Go.Proofs.Ytlpopfhaephfaaa
open Go.RowKit Go.Sort

/-- What reading a heap wants: its struct's two cells, and the items of the row. -/
structure HRead (w : World) (hb g cap : Nat) (L : List M3) : Prop where
  s0 : w.cell? ⟨hb, 0, none⟩ = some (.slice (some ⟨g, 0, none⟩) L.length cap)
  s1 : w.cell? ⟨hb, 1, none⟩ = some (.func (.func 107) #[] #[])
  it : ∀ i, i < L.length → w.cell? ⟨g, i * 3, none⟩ = some (.int .i64 (at3 L i).f) ∧ w.cell? ⟨g, i * 3 + 1, none⟩ = some (.int .i64 (at3 L i).a) ∧ w.cell? ⟨g, i * 3 + 2, none⟩ = some (.int .i64 (at3 L i).p)

theorem HRead.on {w w' : World} {hb g cap : Nat} {L : List M3} (h : HRead w hb g cap L) (hp : 0 < L.length) (hB : Below w.heap.size w w') : HRead w' hb g cap L := by
  have l1 : hb < w.heap.size := World.block_lt_of_cell? w ⟨hb, 0, none⟩ h.s0
  have l2 : g < w.heap.size := World.block_lt_of_cell? w ⟨g, 0 * 3, none⟩ (h.it 0 hp).1
  exact ⟨(hB.cell (p := ⟨hb, 0, none⟩) l1).trans h.s0, (hB.cell (p := ⟨hb, 1, none⟩) l1).trans h.s1, fun i hi => ⟨(hB.cell (p := ⟨g, i * 3, none⟩) l2).trans (h.it i hi).1, (hB.cell (p := ⟨g, i * 3 + 1, none⟩) l2).trans (h.it i hi).2.1, (hB.cell (p := ⟨g, i * 3 + 2, none⟩) l2).trans (h.it i hi).2.2⟩⟩

set_option maxHeartbeats 1000000 in
theorem firstOf_none (hb g cap p l r : Nat) (L : List M3) (w : World) (h : HRead w hb g cap L) (hl : L.length ≤ l) (hr : l ≤ r) :
    Calls Try.prog 109 #[.pointer (some ⟨hb, 0, none⟩), .int .i64 p, .int .i64 l, .int .i64 r] w fun e w' => e = .returned (.int .i64 (firstZ L p l r)) ∧ Below w.heap.size w w' := by
  have e1 : firstZ L p l r = p := by unfold firstZ; simp only; rw [if_neg (by omega), if_neg (by omega)]
  rw [e1]
  have s0 := h.s0
  obtain ⟨n, hN⟩ : ∃ n, n = L.length := ⟨_, rfl⟩
  rw [← hN] at s0
  have k0 := cell_regrown s0
  have g1 : decide ((l : Int) < (n : Int)) = false := by simp; omega
  have g2 : decide ((r : Int) < (n : Int)) = false := by simp; omega
  have g3 : decide (l < n) = false := by simp; omega
  have g4 : decide (r < n) = false := by simp; omega
  clear h e1 hN
  go_enter Try.func109, Try.ntmps109
  go_upto_region 2 with fail
  refine wp_region_quiet_below (by kernel_rfl) (by kernel_rfl) ?_
  repeat (go_big_quiet_step (fail))
  refine wpQuiet_nil ?_
  intro _ hw'
  obtain ⟨⟨dq, osq⟩, hw''⟩ := hw'
  have hBq := below_regrown w dq osq
  subst hw''
  have s0' := k0 dq osq
  generalize grow (redrawn w dq) osq = wq at *
  clear k0
  have k0 := cell_regrown s0'
  go_upto_region 4 with fail
  refine wp_region_quiet_below (by kernel_rfl) (by kernel_rfl) ?_
  repeat (go_big_quiet_step (fail))
  refine wpQuiet_nil ?_
  intro _ hw'
  obtain ⟨⟨dq, osq⟩, hw''⟩ := hw'
  have hBq2 := below_regrown wq dq osq
  subst hw''
  generalize grow (redrawn wq dq) osq = wq2 at *
  clear k0
  go_wp2
  go_ret
  exact ⟨rfl, below_on hBq hBq2⟩

set_option maxHeartbeats 2000000 in
theorem firstOf_one (hb g cap p l r : Nat) (L : List M3) (w : World) (h : HRead w hb g cap L) (hp : p < L.length) (hl : l < L.length) (hr : L.length ≤ r) :
    Calls Try.prog 109 #[.pointer (some ⟨hb, 0, none⟩), .int .i64 p, .int .i64 l, .int .i64 r] w fun e w' => e = .returned (.int .i64 (firstZ L p l r)) ∧ Below w.heap.size w w' := by
  have e1 : firstZ L p l r = if bef (at3 L l) (at3 L p) = true then l else p := by unfold firstZ; simp only; rw [if_neg (fun x => absurd x.1 (by omega))]; simp [hl]
  rw [e1]
  cases hb1 : bef (at3 L l) (at3 L p)
  all_goals
    obtain ⟨n, hN⟩ : ∃ n, n = L.length := ⟨_, rfl⟩
    have s0 := h.s0
    have s1 := h.s1
    obtain ⟨p0, p1, p2⟩ := h.it p hp
    obtain ⟨l0, l1, l2⟩ := h.it l hl
    rw [← hN] at s0
    have ce := fun d os => Calls.regrown_of (earlier_any (at3 L l) (at3 L p) (grow (redrawn w d) os) _ hb1)
    obtain ⟨x, hx⟩ : ∃ x, at3 L p = x := ⟨_, rfl⟩
    obtain ⟨y, hy⟩ : ∃ y, at3 L l = y := ⟨_, rfl⟩
    rw [hx] at p0 p1 p2 ce
    rw [hy] at l0 l1 l2 ce
    have k0 := cell_regrown s0
    have k1 := cell_regrown s1
    have kp0 := cell_regrown p0
    have kp1 := cell_regrown p1
    have kp2 := cell_regrown p2
    have kl0 := cell_regrown l0
    have kl1 := cell_regrown l1
    have kl2 := cell_regrown l2
    have lt1 : (p : Int) < (n : Int) := by omega
    have lt2 : (l : Int) < (n : Int) := by omega
    have nt2 : l < n := by omega
    have g2 : decide ((r : Int) < (n : Int)) = false := by simp; omega
    have g4 : decide (r < n) = false := by simp; omega
    clear h e1 hN hb1 hx hy
    go_enter Try.func109, Try.ntmps109
    go_upto_region 2 with fail
    refine wp_region_quiet_below (by kernel_rfl) (by kernel_rfl) ?_
    repeat (go_big_quiet_step (exact ce _ _))
    refine wpQuiet_nil ?_
    intro _ hw'
    obtain ⟨⟨dq, osq⟩, hw''⟩ := hw'
    have hBq := below_regrown w dq osq
    subst hw''
    have s0' := k0 dq osq
    clear k0 k1 kp0 kp1 kp2 kl0 kl1 kl2 ce
    generalize grow (redrawn w dq) osq = wq at *
    have k0 := cell_regrown s0'
    go_upto_region 4 with fail
    refine wp_region_quiet_below (by kernel_rfl) (by kernel_rfl) ?_
    repeat (go_big_quiet_step (fail))
    refine wpQuiet_nil ?_
    intro _ hw'
    obtain ⟨⟨dq, osq⟩, hw''⟩ := hw'
    have hBq2 := below_regrown wq dq osq
    subst hw''
    generalize grow (redrawn wq dq) osq = wq2 at *
    clear k0
    go_wp2
    go_ret
    exact ⟨rfl, below_on hBq hBq2⟩

set_option maxHeartbeats 4000000 in
theorem firstOf_two (hb g cap p l r : Nat) (L : List M3) (w : World) (h : HRead w hb g cap L) (hp : p < L.length) (hl : l < L.length) (hr : r < L.length) :
    Calls Try.prog 109 #[.pointer (some ⟨hb, 0, none⟩), .int .i64 p, .int .i64 l, .int .i64 r] w fun e w' => e = .returned (.int .i64 (firstZ L p l r)) ∧ Below w.heap.size w w' := by
  unfold firstZ
  simp only [hl, hr, true_and]
  cases hb1 : bef (at3 L l) (at3 L p)
  · simp only [Bool.false_eq_true, if_false]
    cases hb2 : bef (at3 L r) (at3 L p)
    all_goals
      obtain ⟨n, hN⟩ : ∃ n, n = L.length := ⟨_, rfl⟩
      have s0 := h.s0
      have s1 := h.s1
      obtain ⟨p0, p1, p2⟩ := h.it p hp
      obtain ⟨l0, l1, l2⟩ := h.it l hl
      rw [← hN] at s0
      have ce := fun d os => Calls.regrown_of (earlier_any (at3 L l) (at3 L p) (grow (redrawn w d) os) _ hb1)
      have ce2 := fun w d os => Calls.regrown_of (earlier_any (at3 L r) (at3 L p) (grow (redrawn w d) os) _ hb2)
      have hit := fun w' (hB : Below w.heap.size w w') => (h.on (by omega) hB).it
      obtain ⟨x, hx⟩ : ∃ x, at3 L p = x := ⟨_, rfl⟩
      obtain ⟨y, hy⟩ : ∃ y, at3 L l = y := ⟨_, rfl⟩
      obtain ⟨z, hz⟩ : ∃ z, at3 L r = z := ⟨_, rfl⟩
      have qp := fun w' (hB : Below w.heap.size w w') => hit w' hB p (by omega)
      have qr := fun w' (hB : Below w.heap.size w w') => hit w' hB r (by omega)
      clear hit
      simp only [hx, hy, hz] at p0 p1 p2 l0 l1 l2 ce ce2 qr qp
      have k0 := cell_regrown s0
      have k1 := cell_regrown s1
      have kp0 := cell_regrown p0
      have kp1 := cell_regrown p1
      have kp2 := cell_regrown p2
      have kl0 := cell_regrown l0
      have kl1 := cell_regrown l1
      have kl2 := cell_regrown l2
      have lt1 : (p : Int) < (n : Int) := by omega
      have lt2 : (l : Int) < (n : Int) := by omega
      have lt3 : (r : Int) < (n : Int) := by omega
      have nt2 : l < n := by omega
      have nt3 : r < n := by omega
      clear h hN hb1 hb2 hx hy hz
      go_enter Try.func109, Try.ntmps109
      go_upto_region 2 with fail
      refine wp_region_quiet_below (by kernel_rfl) (by kernel_rfl) ?_
      repeat (go_big_quiet_step (exact ce _ _))
      refine wpQuiet_nil ?_
      intro _ hw'
      obtain ⟨⟨dq, osq⟩, hw''⟩ := hw'
      have hBq := below_regrown w dq osq
      subst hw''
      have s0' := k0 dq osq
      have s1' := k1 dq osq
      clear k0 k1 kp0 kp1 kp2 kl0 kl1 kl2 ce p0 p1 p2 l0 l1 l2 s0 s1
      generalize grow (redrawn w dq) osq = wq at *
      obtain ⟨r0, r1, r2⟩ := qr _ hBq
      obtain ⟨t0, t1, t2⟩ := qp _ hBq
      clear qr qp
      have k0 := cell_regrown s0'
      have k1 := cell_regrown s1'
      have kr0 := cell_regrown r0
      have kr1 := cell_regrown r1
      have kr2 := cell_regrown r2
      have kt0 := cell_regrown t0
      have kt1 := cell_regrown t1
      have kt2 := cell_regrown t2
      go_upto_region 4 with fail
      refine wp_region_quiet_below (by kernel_rfl) (by kernel_rfl) ?_
      repeat (go_big_quiet_step (exact ce2 _ _ _))
      refine wpQuiet_nil ?_
      intro _ hw'
      obtain ⟨⟨dq, osq⟩, hw''⟩ := hw'
      have hBq2 := below_regrown wq dq osq
      subst hw''
      generalize grow (redrawn wq dq) osq = wq2 at *
      clear k0 k1 kr0 kr1 kr2 kt0 kt1 kt2 ce2
      go_wp2
      go_ret
      exact ⟨rfl, below_on hBq hBq2⟩
  · simp only [if_true]
    cases hb2 : bef (at3 L r) (at3 L l)
    all_goals
      obtain ⟨n, hN⟩ : ∃ n, n = L.length := ⟨_, rfl⟩
      have s0 := h.s0
      have s1 := h.s1
      obtain ⟨p0, p1, p2⟩ := h.it p hp
      obtain ⟨l0, l1, l2⟩ := h.it l hl
      rw [← hN] at s0
      have ce := fun d os => Calls.regrown_of (earlier_any (at3 L l) (at3 L p) (grow (redrawn w d) os) _ hb1)
      have ce2 := fun w d os => Calls.regrown_of (earlier_any (at3 L r) (at3 L l) (grow (redrawn w d) os) _ hb2)
      have hit := fun w' (hB : Below w.heap.size w w') => (h.on (by omega) hB).it
      obtain ⟨x, hx⟩ : ∃ x, at3 L p = x := ⟨_, rfl⟩
      obtain ⟨y, hy⟩ : ∃ y, at3 L l = y := ⟨_, rfl⟩
      obtain ⟨z, hz⟩ : ∃ z, at3 L r = z := ⟨_, rfl⟩
      have ql := fun w' (hB : Below w.heap.size w w') => hit w' hB l (by omega)
      have qr := fun w' (hB : Below w.heap.size w w') => hit w' hB r (by omega)
      clear hit
      simp only [hx, hy, hz] at p0 p1 p2 l0 l1 l2 ce ce2 qr ql
      have k0 := cell_regrown s0
      have k1 := cell_regrown s1
      have kp0 := cell_regrown p0
      have kp1 := cell_regrown p1
      have kp2 := cell_regrown p2
      have kl0 := cell_regrown l0
      have kl1 := cell_regrown l1
      have kl2 := cell_regrown l2
      have lt1 : (p : Int) < (n : Int) := by omega
      have lt2 : (l : Int) < (n : Int) := by omega
      have lt3 : (r : Int) < (n : Int) := by omega
      have nt2 : l < n := by omega
      have nt3 : r < n := by omega
      clear h hN hb1 hb2 hx hy hz
      go_enter Try.func109, Try.ntmps109
      go_upto_region 2 with fail
      refine wp_region_quiet_below (by kernel_rfl) (by kernel_rfl) ?_
      repeat (go_big_quiet_step (exact ce _ _))
      refine wpQuiet_nil ?_
      intro _ hw'
      obtain ⟨⟨dq, osq⟩, hw''⟩ := hw'
      have hBq := below_regrown w dq osq
      subst hw''
      have s0' := k0 dq osq
      have s1' := k1 dq osq
      clear k0 k1 kp0 kp1 kp2 kl0 kl1 kl2 ce p0 p1 p2 l0 l1 l2 s0 s1
      generalize grow (redrawn w dq) osq = wq at *
      obtain ⟨r0, r1, r2⟩ := qr _ hBq
      obtain ⟨t0, t1, t2⟩ := ql _ hBq
      clear qr ql
      have k0 := cell_regrown s0'
      have k1 := cell_regrown s1'
      have kr0 := cell_regrown r0
      have kr1 := cell_regrown r1
      have kr2 := cell_regrown r2
      have kt0 := cell_regrown t0
      have kt1 := cell_regrown t1
      have kt2 := cell_regrown t2
      go_upto_region 4 with fail
      refine wp_region_quiet_below (by kernel_rfl) (by kernel_rfl) ?_
      repeat (go_big_quiet_step (exact ce2 _ _ _))
      refine wpQuiet_nil ?_
      intro _ hw'
      obtain ⟨⟨dq, osq⟩, hw''⟩ := hw'
      have hBq2 := below_regrown wq dq osq
      subst hw''
      generalize grow (redrawn wq dq) osq = wq2 at *
      clear k0 k1 kr0 kr1 kr2 kt0 kt1 kt2 ce2
      go_wp2
      go_ret
      exact ⟨rfl, below_on hBq hBq2⟩

theorem firstOf_any (hb g cap p l r : Nat) (L : List M3) (w : World) (h : HRead w hb g cap L) (hp : p < L.length) (hr : l ≤ r) :
    Calls Try.prog 109 #[.pointer (some ⟨hb, 0, none⟩), .int .i64 p, .int .i64 l, .int .i64 r] w fun e w' => e = .returned (.int .i64 (firstZ L p l r)) ∧ Below w.heap.size w w' := by
  by_cases h1 : l < L.length
  · by_cases h2 : r < L.length
    · exact firstOf_two hb g cap p l r L w h hp h1 h2
    · exact firstOf_one hb g cap p l r L w h hp h1 (by omega)
  · exact firstOf_none hb g cap p l r L w h (by omega) hr

end Go.Proofs.Ytlpopfhaephfaaa
