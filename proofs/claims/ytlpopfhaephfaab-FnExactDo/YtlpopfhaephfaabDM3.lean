import Derived.Test.YtlpopfhaephfaabDM2
import Derived.Test.YtlpopfhaephfaabST3
namespace Go.Proofs.Ytlpopfhaephfaab
open Go.RowKit Go.Maps Go.Sort

/-- what lies on the board: sections X and dead counters D -/
def Lst (w : World) (lo hi : Nat) (v1 : Value) (ns : Nat) (X : Nat → Sec) (v2 : Value) (n : Nat) (D : Nat → Bool) : Prop := SlF w 93 5 lo hi v1 ns (secs X) ∧ SlF w 4 1 lo hi v2 n (bools D)

theorem Lst.on {w w' : World} {lo hi ns n : Nat} {v1 v2 : Value} {X : Nat → Sec} {D : Nat → Bool} (h : Lst w lo hi v1 ns X v2 n D) (hb : Below w.heap.size w w') : Lst w' lo hi v1 ns X v2 n D := ⟨h.1.on hb, h.2.on hb⟩
theorem Turned.st {w w' : World} {lo hi : Nat} (h : Turned w w' (· = 93) lo hi) : Turned w w' isSt lo hi := h.mono (fun _ he => .inl he) (Nat.le_refl _) (Nat.le_refl _)
theorem Turned.sb {w w' : World} {lo hi : Nat} (h : Turned w w' (· = 4) lo hi) : Turned w w' isSt lo hi := h.mono (fun _ he => .inr he) (Nat.le_refl _) (Nat.le_refl _)

def bdF (S : Int) (g n B : Nat) (ok : Bool) (v1 v2 : Value) (i : Nat) : Value := if i = 0 then .int .i64 S else if i = 1 then .slice (some ⟨g, 0, none⟩) n n else if i = 2 then .map (some B) else if i = 3 then .bool ok else if i = 4 then v1 else v2
/-- a board in a block of its own, its element type known -/
def Bd6 (w : World) (b : Nat) (S : Int) (g n B : Nat) (ok : Bool) (v1 v2 : Value) : Prop := Blk w b 101 6 (bdF S g n B ok v1 v2)
section
variable {w w' : World} {b : Nat} {S : Int} {g n B : Nat} {ok : Bool} {v1 v2 : Value}
theorem Bd6.lay (w : World) (S : Int) (g n B : Nat) (ok : Bool) (v1 v2 : Value) : Bd6 (w.alloc (.cells #[.int .i64 S, .slice (some ⟨g, 0, none⟩) n n, .map (some B), .bool ok, v1, v2] 101)) w.heap.size S g n B ok v1 v2 :=
  Blk.new w #[.int .i64 S, .slice (some ⟨g, 0, none⟩) n n, .map (some B), .bool ok, v1, v2] _ _ (fun i hi => by simp at hi; match i, hi with | 0, _ => rfl | 1, _ => rfl | 2, _ => rfl | 3, _ => rfl | 4, _ => rfl | 5, _ => rfl)
theorem Bd6.on (h : Bd6 w b S g n B ok v1 v2) (hb : Below w.heap.size w w') : Bd6 w' b S g n B ok v1 v2 := Blk.on h hb
theorem Bd6.alloc (h : Bd6 w b S g n B ok v1 v2) (o : Obj) : Bd6 (w.alloc o) b S g n B ok v1 v2 := Blk.alloc h o
theorem Bd6.turned {E : Nat → Prop} {lo hi : Nat} (h : Bd6 w b S g n B ok v1 v2) (ht : Turned w w' E lo hi) (hd : ¬ E 101) : Bd6 w' b S g n B ok v1 v2 := Blk.turned h ht (.inl hd)
theorem Bd6.cells (h : Bd6 w b S g n B ok v1 v2) : w.cell? ⟨b, 0, none⟩ = some (.int .i64 S) ∧ w.cell? ⟨b, 1, none⟩ = some (.slice (some ⟨g, 0, none⟩) n n) ∧ w.cell? ⟨b, 2, none⟩ = some (.map (some B)) ∧ w.cell? ⟨b, 3, none⟩ = some (.bool ok) ∧ w.cell? ⟨b, 4, none⟩ = some v1 ∧ w.cell? ⟨b, 5, none⟩ = some v2 :=
  ⟨Blk.cell h (by omega), Blk.cell h (by omega), Blk.cell h (by omega), Blk.cell h (by omega), Blk.cell h (by omega), Blk.cell h (by omega)⟩
end

def fromZ (F T : Nat → Int) (f : Nat) (d : Int) : Int := if d = 1 then F f else T f
def toZ (F T : Nat → Int) (f : Nat) (d : Int) : Int := if d = 1 then T f else F f

set_option maxHeartbeats 1000000 in
theorem sides_any (S d : Int) (g n f : Nat) (F T : Nat → Int) (w : World) (hf : f < n) (hrow : Row w g 88 2 n (two F T)) :
    Calls Try.prog 109 #[.agg #[.int .i64 f, .int .i64 d], .agg #[.int .i64 S, .slice (some ⟨g, 0, none⟩) n n]] w fun e w' => e = .returned (.tuple #[.int .i64 (fromZ F T f d), .int .i64 (toZ F T f d)]) ∧ Below w.heap.size w w' := by
  have c0 := hrow.cell0 hf (by omega)
  have c1 := hrow.cell (j := 1) hf (by omega)
  simp only [two] at c0 c1
  have hf' : (f : Int) < (n : Int) := by omega
  have lg := hrow.lt
  clear hrow
  by_cases hd : d = 1
  · have e1 : fromZ F T f d = F f := by unfold fromZ; rw [if_pos hd]
    have e2 : toZ F T f d = T f := by unfold toZ; rw [if_pos hd]
    rw [e1, e2]
    subst hd
    clear e1 e2
    go_enter Try.func109, Try.ntmps109
    go_wp2
    go_region
    all_goals
      go_wp2
      go_ret2
      exact ⟨rfl, by first | exact (by repeat (first | exact Below.refl _ _ | assumption | refine below_alloc ?_ _ | refine Below.setCell ?_ (by first | omega | (simp; done) | (simp; omega)) _ | refine Below.alloc ?_ (by first | omega | (simp; done) | (simp; omega)) _ | refine Below.drew ?_)) | exact Below.drew (by repeat (first | exact Below.refl _ _ | assumption | refine below_alloc ?_ _ | refine Below.setCell ?_ (by first | omega | (simp; done) | (simp; omega)) _ | refine Below.alloc ?_ (by first | omega | (simp; done) | (simp; omega)) _ | refine Below.drew ?_))⟩
  · have e1 : fromZ F T f d = T f := by unfold fromZ; rw [if_neg hd]
    have e2 : toZ F T f d = F f := by unfold toZ; rw [if_neg hd]
    rw [e1, e2]
    clear e1 e2
    go_enter Try.func109, Try.ntmps109
    go_wp2
    go_region
    all_goals
      go_wp2
      go_ret2
      exact ⟨rfl, by first | exact (by repeat (first | exact Below.refl _ _ | assumption | refine below_alloc ?_ _ | refine Below.setCell ?_ (by first | omega | (simp; done) | (simp; omega)) _ | refine Below.alloc ?_ (by first | omega | (simp; done) | (simp; omega)) _ | refine Below.drew ?_)) | exact Below.drew (by repeat (first | exact Below.refl _ _ | assumption | refine below_alloc ?_ _ | refine Below.setCell ?_ (by first | omega | (simp; done) | (simp; omega)) _ | refine Below.alloc ?_ (by first | omega | (simp; done) | (simp; omega)) _ | refine Below.drew ?_))⟩

def passX (X : Nat → Sec) (there : Bool) (fr tt : Int) : Nat → Sec := cntSide (if there then cntSide X fr (-1) else X) tt 1

/-- what an axle's passing answers, and the sections behind it -/
def passC (D : Nat → Bool) (f : Nat) : Int := if D f then 2 else 0
def passY (F T : Nat → Int) (X : Nat → Sec) (D : Nat → Bool) (f : Nat) (d : Int) (there : Bool) : Nat → Sec := if D f then X else passX X there (fromZ F T f d) (toZ F T f d)

set_option maxHeartbeats 1000000 in
theorem pass_any (S d : Int) (g n B lo hi : Nat) (F T : Nat → Int) (ok : Bool) (gs c1 ns f : Nat) (a2 : Option Addr) (c2 : Nat) (there : Bool) (X : Nat → Sec) (D : Nat → Bool) (w : World) (hf : f < n) (hr : ∀ i, i < n → -1 ≤ F i ∧ F i < (ns : Int) ∧ -1 ≤ T i ∧ T i < (ns : Int)) (hc : ∀ k, k < ns → -1000000 ≤ (X k).count ∧ (X k).count ≤ 1000000)
    (hrow : Row w g 88 2 n (two F T)) (hL : Lst w lo hi (.slice (some ⟨gs, 0, none⟩) ns c1) ns X (.slice a2 n c2) n D) :
    Calls Try.prog 105 #[.agg #[.int .i64 S, .slice (some ⟨g, 0, none⟩) n n, .map (some B), .bool ok, .slice (some ⟨gs, 0, none⟩) ns c1, .slice a2 n c2], .agg #[.int .i64 f, .int .i64 d], .bool there] w fun e w' => e = .returned (.int .i64 (passC D f)) ∧ Lst w' lo hi (.slice (some ⟨gs, 0, none⟩) ns c1) ns (passY F T X D f d there) (.slice a2 n c2) n D ∧ Turned w w' isSt lo hi := by
  have cd := fun W (hW : Below w.heap.size w W) => isDead_any S g n B lo hi ok (some ⟨gs, 0, none⟩) a2 ns c1 c2 f D W hf (hL.2.on hW)
  cases hdf : D f
  · have e1 : passC D f = 0 := by unfold passC; rw [hdf]; rfl
    have e2 : passY F T X D f d there = passX X there (fromZ F T f d) (toZ F T f d) := by unfold passY; rw [hdf]; rfl
    rw [e1, e2]
    rw [hdf] at cd
    have rF : -1 ≤ fromZ F T f d ∧ fromZ F T f d < (ns : Int) ∧ -1 ≤ toZ F T f d ∧ toZ F T f d < (ns : Int) := by
      have := hr f hf
      unfold fromZ toZ
      split <;> omega
    have sd := fun W (hW : Below w.heap.size w W) => sides_any S d g n f F T W hf (hrow.on hW)
    obtain ⟨fr, efr⟩ : ∃ fr, fromZ F T f d = fr := ⟨_, rfl⟩
    obtain ⟨tt, eto⟩ : ∃ tt, toZ F T f d = tt := ⟨_, rfl⟩
    rw [efr, eto] at sd rF ⊢
    clear e1 e2 efr eto hdf
    obtain ⟨r1, r2, r3, r4⟩ := rF
    go_enter Try.func105, Try.ntmps105
    go_wp2_with fail
    refine (cd _ (by repeat (first | exact Below.refl _ _ | assumption | refine below_alloc ?_ _ | refine Below.setCell ?_ (by first | omega | (simp; done) | (simp; omega)) _ | refine Below.alloc ?_ (by first | omega | (simp; done) | (simp; omega)) _ | refine Below.drew ?_))).mono ?_
    rintro e w1 ⟨rfl, hb1⟩
    obtain ⟨q1, q2⟩ := bcell hb1
    have B1 := below_on (show Below w.heap.size w _ from (by repeat (first | exact Below.refl _ _ | assumption | refine below_alloc ?_ _ | refine Below.setCell ?_ (by first | omega | (simp; done) | (simp; omega)) _ | refine Below.alloc ?_ (by first | omega | (simp; done) | (simp; omega)) _ | refine Below.drew ?_))) hb1
    have l1 := hb1.size
    simp only [World.size_alloc] at l1
    go_wp2_with fail
    refine (sd _ B1).mono ?_
    rintro e w2 ⟨rfl, hb2⟩
    have B2 := below_on B1 hb2
    have bx := (((Bd6.lay w S g n B ok (.slice (some ⟨gs, 0, none⟩) ns c1) (.slice a2 n c2)).alloc (.cells #[.int .i64 f, .int .i64 d] 140)).on hb1).on hb2
    obtain ⟨d0, d1, d2, d3, d4, d5⟩ := bx.cells
    have L2 := hL.on B2
    have T2 : Turned w w2 isSt lo hi := Turned.of_below B2
    have HR : Hid _ := hr
    clear hb1 hb2 q1 q2 B1 hL hrow cd sd hr
    cases there
    · go_wp2_with fail
      refine (count_any S g n B lo hi ok gs c1 ns a2 c2 tt 1 X _ (.inl rfl) r3 r4 L2.1 hc).mono ?_
      rintro e w3 ⟨rfl, s3, t3⟩
      go_wp2
      go_ret
      exact ⟨rfl, ⟨s3, L2.2.turned t3 (.inl (by decide))⟩, T2.trans t3.st⟩
    · go_wp2_with fail
      refine (count_any S g n B lo hi ok gs c1 ns a2 c2 fr (-1) X _ (.inr rfl) r1 r2 L2.1 hc).mono ?_
      rintro e w3 ⟨rfl, s3, t3⟩
      have L3 : Lst w3 lo hi _ ns (cntSide X fr (-1)) _ n D := ⟨s3, L2.2.turned t3 (.inl (by decide))⟩
      have T3 := T2.trans t3.st
      have hc3 := countOk_side (side := fr) (way := -1) hc
      obtain ⟨d0, d1, d2, d3, d4, d5⟩ := (bx.turned t3 (by decide)).cells
      clear t3 s3 L2 T2 bx
      go_wp2_with fail
      refine (count_any S g n B lo hi ok gs c1 ns a2 c2 tt 1 _ _ (.inl rfl) r3 r4 L3.1 hc3).mono ?_
      rintro e w4 ⟨rfl, s4, t4⟩
      go_wp2
      go_ret
      exact ⟨rfl, ⟨s4, L3.2.turned t4 (.inl (by decide))⟩, T3.trans t4.st⟩
  · have e1 : passC D f = 2 := by unfold passC; rw [hdf]; rfl
    have e2 : passY F T X D f d there = X := by unfold passY; rw [hdf]; rfl
    rw [e1, e2]
    rw [hdf] at cd
    go_enter Try.func105, Try.ntmps105
    go_wp2_with fail
    refine (cd _ (by repeat (first | exact Below.refl _ _ | assumption | refine below_alloc ?_ _ | refine Below.setCell ?_ (by first | omega | (simp; done) | (simp; omega)) _ | refine Below.alloc ?_ (by first | omega | (simp; done) | (simp; omega)) _ | refine Below.drew ?_))).mono ?_
    rintro e w1 ⟨rfl, hb1⟩
    have B1 := below_on (show Below w.heap.size w _ from (by repeat (first | exact Below.refl _ _ | assumption | refine below_alloc ?_ _ | refine Below.setCell ?_ (by first | omega | (simp; done) | (simp; omega)) _ | refine Below.alloc ?_ (by first | omega | (simp; done) | (simp; omega)) _ | refine Below.drew ?_))) hb1
    go_wp2
    go_ret
    exact ⟨rfl, hL.on B1, Turned.of_below B1⟩

end Go.Proofs.Ytlpopfhaephfaab
