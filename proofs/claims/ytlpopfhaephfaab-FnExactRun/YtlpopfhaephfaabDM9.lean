import Derived.Test.YtlpopfhaephfaabDM8
namespace Go.Proofs.Ytlpopfhaephfaab
open Go.RowKit Go.Maps Go.Sort

def bhC (S : Int) (n : Nat) (F T : Nat → Int) (X : Nat → Sec) (D : Nat → Bool) (op f d : Int) : Int := if evB S n op f d then effC n F T X D op f else 1
def bhX (S : Int) (n : Nat) (F T : Nat → Int) (X : Nat → Sec) (D : Nat → Bool) (op f d : Int) : Nat → Sec := if evB S n op f d then effX n F T X D op f d else X
def bhD (S : Int) (n : Nat) (D : Nat → Bool) (op f d : Int) : Nat → Bool := if evB S n op f d then effD D op f else D

theorem lok_ns {S : Int} {n ns : Nat} {F T : Nat → Int} (hl : lokZ S n F T = 0) (hS : (ns : Int) = S) : ∀ i, i < n → -1 ≤ F i ∧ F i < (ns : Int) ∧ -1 ≤ T i ∧ T i < (ns : Int) := by
  intro i hi
  have := lok_sides hl i hi
  omega

set_option maxHeartbeats 400000 in
theorem change_any (S op f d : Int) (g n B lo hi : Nat) (F T : Nat → Int) (ok : Bool) (gs c1 ns : Nat) (a2 : Option Addr) (c2 : Nat) (X : Nat → Sec) (D : Nat → Bool) (w : World) (hl : lokZ S n F T = 0) (hS : (ns : Int) = S) (hc : ∀ k, k < ns → -1000000 ≤ (X k).count ∧ (X k).count ≤ 1000000)
    (hrow : Row w g 88 2 n (two F T)) (hg : Grp w B (2 * n) (zsAt F T n)) (hL : Lst w lo hi (.slice (some ⟨gs, 0, none⟩) ns c1) ns X (.slice a2 n c2) n D) :
    Calls Try.prog 93 #[brdV S g n B ok (.slice (some ⟨gs, 0, none⟩) ns c1) (.slice a2 n c2), hapI S n op f d] w fun e w' => e = .returned (.int .i64 (bhC S n F T X D op f d)) ∧ Lst w' lo hi (.slice (some ⟨gs, 0, none⟩) ns c1) ns (bhX S n F T X D op f d) (.slice a2 n c2) n (bhD S n D op f d) ∧ Turned w w' isSt lo hi := by
  obtain ⟨r1, r2, r3⟩ := lok_range hl
  cases hev : evB S n op f d
  · have e1 : hapI S n op f d = .nilIface := by unfold hapI; rw [hev]; rfl
    have e2 : bhC S n F T X D op f d = 1 := by unfold bhC; rw [hev]; rfl
    have e3 : bhX S n F T X D op f d = X := by unfold bhX; rw [hev]; rfl
    have e4 : bhD S n D op f d = D := by unfold bhD; rw [hev]; rfl
    rw [e1, e2, e3, e4]
    exact (change_nil S g n B ok _ ns c1 a2 n c2 w).mono fun e w' ⟨h1, h2⟩ => ⟨h1, hL.on h2, Turned.of_below h2⟩
  · have e1 : hapI S n op f d = hapV op f d := by unfold hapI; rw [hev]; rfl
    have e2 : bhC S n F T X D op f d = effC n F T X D op f := by unfold bhC; rw [hev]; rfl
    have e3 : bhX S n F T X D op f d = effX n F T X D op f d := by unfold bhX; rw [hev]; rfl
    have e4 : bhD S n D op f d = effD D op f := by unfold bhD; rw [hev]; rfl
    rw [e1, e2, e3, e4]
    clear e1 e2 e3 e4
    unfold evB at hev
    by_cases h1 : op = 1 ∨ op = 2
    · rw [if_pos h1] at hev
      simp only [decide_eq_true_eq] at hev
      obtain ⟨a, b, hd⟩ := hev
      obtain ⟨k, rfl⟩ : ∃ k : Nat, f = (k : Int) := ⟨f.toNat, by omega⟩
      rcases h1 with rfl | rfl
      · have v1 : hapV 1 (k : Int) d = .iface 142 (.agg #[.int .i64 (k : Int), .int .i64 d]) := by simp [hapV, hd]
        have v2 : effC n F T X D 1 (k : Int) = passC D k := by simp [effC]
        have v3 : effX n F T X D 1 (k : Int) d = passY F T X D k d true := by simp [effX]
        have v4 : effD D 1 (k : Int) = D := by simp [effD]
        rw [v1, v2, v3, v4]
        exact change_pass S d g n B lo hi F T ok gs c1 ns k a2 c2 _ true (.inl ⟨rfl, rfl⟩) X D w (by omega) (lok_ns hl hS) hc hrow hL
      · have v1 : hapV 2 (k : Int) d = .iface 143 (.agg #[.int .i64 (k : Int), .int .i64 d]) := by simp [hapV, hd]
        have v2 : effC n F T X D 2 (k : Int) = passC D k := by simp [effC]
        have v3 : effX n F T X D 2 (k : Int) d = passY F T X D k d false := by simp [effX]
        have v4 : effD D 2 (k : Int) = D := by simp [effD]
        rw [v1, v2, v3, v4]
        exact change_pass S d g n B lo hi F T ok gs c1 ns k a2 c2 _ false (.inr ⟨rfl, rfl⟩) X D w (by omega) (lok_ns hl hS) hc hrow hL
    · rw [if_neg h1] at hev
      by_cases h2 : op = 3 ∨ op = 4
      · rw [if_pos h2] at hev
        simp only [decide_eq_true_eq] at hev
        obtain ⟨a, b, rfl⟩ := hev
        obtain ⟨k, rfl⟩ : ∃ k : Nat, f = (k : Int) := ⟨f.toNat, by omega⟩
        obtain ⟨gd, rfl⟩ := hL.2.addr (by omega)
        rcases h2 with rfl | rfl
        · have v1 : hapV 3 (k : Int) 0 = .iface 145 (.agg #[.int .i64 (k : Int)]) := by simp [hapV]
          have v2 : effC n F T X D 3 (k : Int) = 0 := by simp [effC]
          have v3 : effX n F T X D 3 (k : Int) 0 = lostSide (lostSide X (F k)) (T k) := by simp [effX]
          have v4 : effD D 3 (k : Int) = setB D k true := by simp [effD]
          rw [v1, v2, v3, v4]
          have hk := lok_ns hl hS k (by omega)
          exact change_die S g n B lo hi F T ok gs c1 ns k gd c2 X D w (by omega) r3 (by omega) ⟨hk.1, hk.2.1, hk.2.2.1, hk.2.2.2, (lok_sides hl k (by omega)).2.2.2.2⟩ hrow hL
        · have v1 : hapV 4 (k : Int) 0 = .iface 146 (.agg #[.int .i64 (k : Int)]) := by simp [hapV]
          have v2 : effC n F T X D 4 (k : Int) = 0 := by simp [effC]
          have v3 : effX n F T X D 4 (k : Int) 0 = X := by simp [effX]
          have v4 : effD D 4 (k : Int) = setB D k false := by simp [effD]
          rw [v1, v2, v3, v4]
          exact change_alive S g n B lo hi ok gs c1 ns k gd c2 X D w (by omega) hL
      · rw [if_neg h2] at hev
        by_cases h3 : op = 5
        · rw [if_pos h3] at hev
          simp only [decide_eq_true_eq] at hev
          obtain ⟨a, b, rfl⟩ := hev
          subst h3
          obtain ⟨k, rfl⟩ : ∃ k : Nat, f = (k : Int) := ⟨f.toNat, by omega⟩
          have v1 : hapV 5 (k : Int) 0 = .iface 148 (.agg #[.int .i64 (k : Int)]) := by simp [hapV]
          have v2 : effC n F T X D 5 (k : Int) = rstC n F T X D k := by simp [effC]
          have v3 : effX n F T X D 5 (k : Int) 0 = rstY n F T X D k := by simp [effX]
          have v4 : effD D 5 (k : Int) = D := by simp [effD]
          rw [v1, v2, v3, v4]
          exact change_reset S g n B lo hi F T ok gs c1 ns k a2 c2 X D w (by omega) r3 (by omega) hg hL
        · rw [if_neg h3] at hev; cases hev

end Go.Proofs.Ytlpopfhaephfaab
