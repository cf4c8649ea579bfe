import Derived.Test.YtlpopfhaephfaabSO3
import Derived.Test.YtlpopfhaephfaabIM3
namespace Go.Proofs.Ytlpopfhaephfaab
open Go.RowKit Go.Maps

set_option maxHeartbeats 1000000 in
theorem implStateOk_head (S : Int) (g n lo hi : Nat) (F T : Nat → Int) (v : Value) (ok : Bool) (ns nd : Nat) (X : Nat → Sec) (D : Nat → Bool) (w : World) (hrow : Row w g 88 2 n (two F T)) (hs : StF w lo hi v ok ns nd X D)
    (hbad : lokZ S n F T ≠ 0 ∨ ok = false ∨ (ns : Int) ≠ S ∨ nd ≠ n) :
    Calls Try.prog 26 #[.agg #[.int .i64 S, .slice (some ⟨g, 0, none⟩) n n], v] w fun e w' => e = .returned (.bool false) ∧ Below w.heap.size w w' := by
  obtain ⟨_, _, rfl, ⟨a1, c1, rfl, hX⟩, ⟨a2, c2, rfl, hD⟩⟩ := hs
  have hc := fun o o' => implLayoutOk_any S g n F T _ ((hrow.alloc o).alloc o')
  rcases (show lokZ S n F T ≠ 0 ∨ (lokZ S n F T = 0 ∧ ok = false) ∨ (lokZ S n F T = 0 ∧ ok = true ∧ (ns : Int) ≠ S) ∨ (lokZ S n F T = 0 ∧ ok = true ∧ (ns : Int) = S ∧ nd ≠ n) by
    by_cases h : lokZ S n F T = 0
    · cases ok
      · exact .inr (.inl ⟨h, rfl⟩)
      · by_cases h2 : (ns : Int) = S
        · exact .inr (.inr (.inr ⟨h, rfl, h2, by rcases hbad with x | x | x | x; exact absurd h x; cases x; exact absurd h2 x; exact x⟩))
        · exact .inr (.inr (.inl ⟨h, rfl, h2⟩))
    · exact .inl h) with h | ⟨h, rfl⟩ | ⟨h, rfl, h2⟩ | ⟨h, rfl, h2, h3⟩
  · have h' : (lokZ S n F T != 0) = true := by simpa [bne] using h
    clear h hbad
    go_enter Try.func26, Try.ntmps26
    go_wp2_with fail
    refine (hc _ _).mono ?_
    rintro e w1 ⟨rfl, hb1⟩
    obtain ⟨q1, q2⟩ := bcell hb1
    have B1 := below_on (show Below w.heap.size w _ from (by repeat (first | exact Below.refl _ _ | assumption | refine below_alloc ?_ _ | refine Below.setCell ?_ (by first | omega | (simp; done) | (simp; omega)) _ | refine Below.alloc ?_ (by first | omega | (simp; done) | (simp; omega)) _ | refine Below.drew ?_))) hb1
    clear hb1
    go_wp2
    go_ret
    exact ⟨rfl, B1⟩
  · rw [h] at hc
    clear h hbad
    go_enter Try.func26, Try.ntmps26
    go_wp2_with fail
    refine (hc _ _).mono ?_
    rintro e w1 ⟨rfl, hb1⟩
    obtain ⟨q1, q2⟩ := bcell hb1
    have B1 := below_on (show Below w.heap.size w _ from (by repeat (first | exact Below.refl _ _ | assumption | refine below_alloc ?_ _ | refine Below.setCell ?_ (by first | omega | (simp; done) | (simp; omega)) _ | refine Below.alloc ?_ (by first | omega | (simp; done) | (simp; omega)) _ | refine Below.drew ?_))) hb1
    clear hb1
    go_wp2
    go_ret
    exact ⟨rfl, B1⟩
  · rw [h] at hc
    have h2' : ((ns : Int) != S) = true := by simpa [bne] using h2
    clear h hbad
    go_enter Try.func26, Try.ntmps26
    go_wp2_with fail
    refine (hc _ _).mono ?_
    rintro e w1 ⟨rfl, hb1⟩
    obtain ⟨q1, q2⟩ := bcell hb1
    have B1 := below_on (show Below w.heap.size w _ from (by repeat (first | exact Below.refl _ _ | assumption | refine below_alloc ?_ _ | refine Below.setCell ?_ (by first | omega | (simp; done) | (simp; omega)) _ | refine Below.alloc ?_ (by first | omega | (simp; done) | (simp; omega)) _ | refine Below.drew ?_))) hb1
    clear hb1
    go_wp2
    go_ret
    exact ⟨rfl, B1⟩
  · rw [h] at hc
    have h3' : ((nd : Int) != (n : Int)) = true := by simp [bne]; omega
    subst h2
    clear h hbad
    go_enter Try.func26, Try.ntmps26
    go_wp2_with fail
    refine (hc _ _).mono ?_
    rintro e w1 ⟨rfl, hb1⟩
    obtain ⟨q1, q2⟩ := bcell hb1
    have B1 := below_on (show Below w.heap.size w _ from (by repeat (first | exact Below.refl _ _ | assumption | refine below_alloc ?_ _ | refine Below.setCell ?_ (by first | omega | (simp; done) | (simp; omega)) _ | refine Below.alloc ?_ (by first | omega | (simp; done) | (simp; omega)) _ | refine Below.drew ?_))) hb1
    clear hb1
    go_wp2
    go_ret
    exact ⟨rfl, B1⟩

theorem stOk_head {S : Int} {n : Nat} {F T : Nat → Int} {ok : Bool} {ns nd : Nat} {X : Nat → Sec} {D : Nat → Bool} (h : ¬ (lokZ S n F T = 0 ∧ ok = true ∧ (ns : Int) = S ∧ nd = n)) : stOk S n F T ok ns nd X D = false := by
  unfold stOk
  by_cases a : lokZ S n F T = 0
  · by_cases b : ok = true
    · by_cases c : (ns : Int) = S
      · have d : ¬ nd = n := fun d => h ⟨a, b, c, d⟩
        simp [d]
      · simp [c]
    · simp [b]
  · simp [a]

theorem specStateOk_any (S : Int) (g n lo hi : Nat) (F T : Nat → Int) (v : Value) (ok : Bool) (ns nd : Nat) (X : Nat → Sec) (D : Nat → Bool) (w : World) (hrow : Row w g 88 2 n (two F T)) (hs : StF w lo hi v ok ns nd X D) :
    Calls Try.prog 25 #[.agg #[.int .i64 S, .slice (some ⟨g, 0, none⟩) n n], v] w fun e w' => e = .returned (.bool (stOk S n F T ok ns nd X D)) ∧ Below w.heap.size w w' := by
  by_cases h : lokZ S n F T = 0 ∧ ok = true ∧ (ns : Int) = S ∧ nd = n
  · obtain ⟨h1, rfl, h3, rfl⟩ := h
    exact specStateOk_main S g nd lo hi F T v ns X D w hrow hs h1 h3
  · rw [stOk_head h]
    exact specStateOk_head S g n lo hi F T v ok ns nd X D w hrow hs (by
      by_cases a : lokZ S n F T = 0
      · by_cases b : ok = true
        · by_cases c : (ns : Int) = S
          · exact .inr (.inr (.inr (fun d => h ⟨a, b, c, d⟩)))
          · exact .inr (.inr (.inl c))
        · exact .inr (.inl (by simpa using b))
      · exact .inl a)

theorem implStateOk_any (S : Int) (g n lo hi : Nat) (F T : Nat → Int) (v : Value) (ok : Bool) (ns nd : Nat) (X : Nat → Sec) (D : Nat → Bool) (w : World) (hrow : Row w g 88 2 n (two F T)) (hs : StF w lo hi v ok ns nd X D) :
    Calls Try.prog 26 #[.agg #[.int .i64 S, .slice (some ⟨g, 0, none⟩) n n], v] w fun e w' => e = .returned (.bool (stOk S n F T ok ns nd X D)) ∧ Below w.heap.size w w' := by
  by_cases h : lokZ S n F T = 0 ∧ ok = true ∧ (ns : Int) = S ∧ nd = n
  · obtain ⟨h1, rfl, h3, rfl⟩ := h
    exact implStateOk_main S g nd lo hi F T v ns X D w hrow hs h1 h3
  · rw [stOk_head h]
    exact implStateOk_head S g n lo hi F T v ok ns nd X D w hrow hs (by
      by_cases a : lokZ S n F T = 0
      · by_cases b : ok = true
        · by_cases c : (ns : Int) = S
          · exact .inr (.inr (.inr (fun d => h ⟨a, b, c, d⟩)))
          · exact .inr (.inr (.inl c))
        · exact .inr (.inl (by simpa using b))
      · exact .inl a)

set_option maxHeartbeats 400000 in
theorem szSectionS_any (a : Option Addr) (len cap : Nat) (left : Int) (w : World) (hl : len ≤ maxLen) (h0 : 0 ≤ left) (h1 : left ≤ 1048576) :
    Calls Try.prog 53 #[.slice a len cap, .int .i64 left] w fun e w' => e = .returned (.int .i64 (if (len : Int) ≤ left then left - len else -1)) ∧ Below w.heap.size w w' := by
  unfold maxLen at hl
  by_cases h : (len : Int) ≤ left
  · rw [if_pos h]
    go_enter Try.func53, Try.ntmps53
    go_wp2
    go_ret
    exact ⟨rfl, Below.refl _ _⟩
  · rw [if_neg h]
    go_enter Try.func53, Try.ntmps53
    go_wp2
    go_ret
    exact ⟨rfl, Below.refl _ _⟩

set_option maxHeartbeats 400000 in
theorem szBoolS_any (a : Option Addr) (len cap : Nat) (left : Int) (w : World) (hl : len ≤ maxLen) (h0 : 0 ≤ left) (h1 : left ≤ 1048576) :
    Calls Try.prog 54 #[.slice a len cap, .int .i64 left] w fun e w' => e = .returned (.int .i64 (if (len : Int) ≤ left then left - len else -1)) ∧ Below w.heap.size w w' := by
  unfold maxLen at hl
  by_cases h : (len : Int) ≤ left
  · rw [if_pos h]
    go_enter Try.func54, Try.ntmps54
    go_wp2
    go_ret
    exact ⟨rfl, Below.refl _ _⟩
  · rw [if_neg h]
    go_enter Try.func54, Try.ntmps54
    go_wp2
    go_ret
    exact ⟨rfl, Below.refl _ _⟩

/-- what szState answers: what is left, or -1 -/
def szSt (left : Int) (ns nd : Nat) : Int := if (ns : Int) ≤ left ∧ (nd : Int) ≤ left - ns then left - ns - nd else -1

set_option maxHeartbeats 400000 in
theorem szState_any (ok : Bool) (a1 a2 : Option Addr) (ns c1 nd c2 : Nat) (left : Int) (w : World) (hs : ns ≤ maxLen) (hd : nd ≤ maxLen) (h0 : 0 ≤ left) (h1 : left ≤ 1048576) :
    Calls Try.prog 15 #[.agg #[.bool ok, .slice a1 ns c1, .slice a2 nd c2], .int .i64 left] w fun e w' => e = .returned (.int .i64 (szSt left ns nd)) ∧ Below w.heap.size w w' := by
  have k1 := fun W => szSectionS_any a1 ns c1 left W hs h0 h1
  by_cases h : (ns : Int) ≤ left
  · simp only [if_pos h] at k1
    have k2 := fun W => szBoolS_any a2 nd c2 (left - ns) W hd (by omega) (by omega)
    by_cases h' : (nd : Int) ≤ left - ns
    · simp only [if_pos h'] at k2
      have e : szSt left ns nd = left - ns - nd := by unfold szSt; rw [if_pos ⟨h, h'⟩]
      rw [e]
      have p : ¬ (left - ns - nd < 0) := by omega
      have p' : ¬ (left - ns < 0) := by omega
      go_enter Try.func15, Try.ntmps15
      go_wp2_with fail
      refine (k1 _).mono ?_
      rintro e w1 ⟨rfl, hb1⟩
      obtain ⟨q1, q2⟩ := bcell hb1
      have B1 := below_on (show Below w.heap.size w _ from (by repeat (first | exact Below.refl _ _ | assumption | refine below_alloc ?_ _ | refine Below.setCell ?_ (by first | omega | (simp; done) | (simp; omega)) _ | refine Below.alloc ?_ (by first | omega | (simp; done) | (simp; omega)) _ | refine Below.drew ?_))) hb1
      clear hb1
      go_wp2_with fail
      refine (k2 _).mono ?_
      rintro e w2 ⟨rfl, hb2⟩
      go_wp2
      go_ret
      exact ⟨rfl, below_on B1 hb2⟩
    · simp only [if_neg h'] at k2
      have e : szSt left ns nd = -1 := by unfold szSt; rw [if_neg (fun x => h' x.2)]
      rw [e]
      have p' : ¬ (left - ns < 0) := by omega
      go_enter Try.func15, Try.ntmps15
      go_wp2_with fail
      refine (k1 _).mono ?_
      rintro e w1 ⟨rfl, hb1⟩
      obtain ⟨q1, q2⟩ := bcell hb1
      have B1 := below_on (show Below w.heap.size w _ from (by repeat (first | exact Below.refl _ _ | assumption | refine below_alloc ?_ _ | refine Below.setCell ?_ (by first | omega | (simp; done) | (simp; omega)) _ | refine Below.alloc ?_ (by first | omega | (simp; done) | (simp; omega)) _ | refine Below.drew ?_))) hb1
      clear hb1
      go_wp2_with fail
      refine (k2 _).mono ?_
      rintro e w2 ⟨rfl, hb2⟩
      go_wp2
      go_ret
      exact ⟨rfl, below_on B1 hb2⟩
  · simp only [if_neg h] at k1
    have e : szSt left ns nd = -1 := by unfold szSt; rw [if_neg (fun x => h x.1)]
    rw [e]
    go_enter Try.func15, Try.ntmps15
    go_wp2_with fail
    refine (k1 _).mono ?_
    rintro e w1 ⟨rfl, hb1⟩
    have B1 := below_on (show Below w.heap.size w _ from (by repeat (first | exact Below.refl _ _ | assumption | refine below_alloc ?_ _ | refine Below.setCell ?_ (by first | omega | (simp; done) | (simp; omega)) _ | refine Below.alloc ?_ (by first | omega | (simp; done) | (simp; omega)) _ | refine Below.drew ?_))) hb1
    clear hb1
    go_wp2
    go_ret
    exact ⟨rfl, B1⟩

end Go.Proofs.Ytlpopfhaephfaab
