import Derived.Test.YtlpopfhaephfaabDoorHN1
import Derived.Test.YtlpopfhaephfaabDoorHN2
namespace Go.Proofs.YtlpopfhaephfaabDoor
open Go.RowKit

/-- Honest's answer from the lie that was found -/
def honI (w : World) (Q : Option Nat → Prop) (e : Ending) (w' : World) : Prop := ∃ o : Option Nat, e = .returned (.bool o.isNone) ∧ Q o ∧ Below w.heap.size w w'

theorem honest_of (S : Int) (g n : Nat) (E : Value) (a : Nat → Addr) (w V : World) (Q : Option Nat → Prop) (ha : Snt w a) (eV : w.alloc (.cells #[.int .i64 S, .slice (some ⟨g, 0, none⟩) n n] 31) = V)
    (kl : Calls Tryd.prog 28 #[.agg #[.int .i64 S, .slice (some ⟨g, 0, none⟩) n n], E] V fun e w' => ∃ o, e = .returned (errV a o) ∧ (∀ i, o = some i → i < 4) ∧ Q o ∧ Below V.heap.size V w') :
    Calls Tryd.prog 11 #[.agg #[.int .i64 S, .slice (some ⟨g, 0, none⟩) n n], E] w fun e w' => honI w Q e w' := by
  have bV : Below w.heap.size w V := by rw [← eV]; exact (by repeat (first | exact Below.refl _ _ | assumption | refine below_alloc ?_ _ | refine Below.setCell ?_ (by first | omega | (simp; done) | (simp; omega)) _ | refine Below.alloc ?_ (by first | omega | (simp; done) | (simp; omega)) _ | refine Below.drew ?_))
  have EV : Hid _ := eV
  clear eV
  go_enter Tryd.func11, Tryd.ntmps11
  go_wp2_with fail
  rw [EV.out]
  refine kl.mono ?_
  rintro e w1 ⟨o, rfl, hi, hq, hb⟩
  have hB := below_on bV hb
  have hs := ha.on hB
  have c0 := hs.cell 0 (by omega)
  have c1 := hs.cell 1 (by omega)
  have c2 := hs.cell 2 (by omega)
  have c3 := hs.cell 3 (by omega)
  clear EV bV
  cases o with
  | none =>
    have EN0 : errV a none = .nilIface := rfl
    rw [EN0]
    go_wp2_with fail
    refine (is_nil _ w1).mono ?_
    rintro _ _ ⟨rfl, rfl⟩
    go_wp2_with fail
    refine (is_nil _ _).mono ?_
    rintro _ _ ⟨rfl, rfl⟩
    go_wp2_with fail
    refine (is_nil _ _).mono ?_
    rintro _ _ ⟨rfl, rfl⟩
    go_wp2_with fail
    refine (is_nil _ _).mono ?_
    rintro _ _ ⟨rfl, rfl⟩
    go_wp2
    go_ret
    exact ⟨none, rfl, hq, hB⟩
  | some i =>
    have i4 := hi i rfl
    have EN0 : errV a (some i) = .iface 193 (.pointer (some (a i))) := rfl
    rw [EN0]
    obtain ⟨ca, ta, ba⟩ := hs.blk i i4
    have ko : ∀ j, j < 4 → j ≠ i → Calls Tryd.prog 29 #[.iface 193 (.pointer (some (a i))), .iface 193 (.pointer (some (a j)))] w1 fun e w' => e = .returned (.bool false) ∧ w' = w1 := fun j hj h => by
      obtain ⟨cb, tb, bb⟩ := hs.blk j hj
      exact is_other (a i) (a j) ca cb ta tb w1 (hs.ne i j i4 hj (fun h' => h h'.symm)) ba bb
    have ks := is_same (a i) w1
    have HQ : Hid _ := hq
    clear ha hs ba EN0 hi hq
    go_wp2_with fail
    by_cases h0 : i = 0
    · subst h0
      refine ks.mono ?_
      rintro _ _ ⟨rfl, rfl⟩
      go_wp2
      go_ret
      exact ⟨some 0, rfl, HQ.out, hB⟩
    refine (ko 0 (by omega) (by omega)).mono ?_
    rintro _ _ ⟨rfl, rfl⟩
    go_wp2_with fail
    by_cases h1 : i = 1
    · subst h1
      refine ks.mono ?_
      rintro _ _ ⟨rfl, rfl⟩
      go_wp2
      go_ret
      exact ⟨some 1, rfl, HQ.out, hB⟩
    refine (ko 1 (by omega) (by omega)).mono ?_
    rintro _ _ ⟨rfl, rfl⟩
    go_wp2_with fail
    by_cases h2 : i = 2
    · subst h2
      refine ks.mono ?_
      rintro _ _ ⟨rfl, rfl⟩
      go_wp2
      go_ret
      exact ⟨some 2, rfl, HQ.out, hB⟩
    refine (ko 2 (by omega) (by omega)).mono ?_
    rintro _ _ ⟨rfl, rfl⟩
    go_wp2_with fail
    have h3 : i = 3 := by omega
    subst h3
    refine ks.mono ?_
    rintro _ _ ⟨rfl, rfl⟩
    go_wp2
    go_ret
    exact ⟨some 3, rfl, HQ.out, hB⟩

end Go.Proofs.YtlpopfhaephfaabDoor
