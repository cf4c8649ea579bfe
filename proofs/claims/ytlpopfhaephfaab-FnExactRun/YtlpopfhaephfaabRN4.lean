import Derived.Test.YtlpopfhaephfaabRN3
import Derived.Test.YtlpopfhaephfaabRE1
namespace Go.Proofs.Ytlpopfhaephfaab
open Go.RowKit Go.Maps

theorem Try.infoDn : (Try.prog.info? 46).map (fun i => (i.zero, i.size, i.bytes)) = some (some (.agg #[.int .i64 0, .bool false, .slice none 0 0, .slice none 0 0]), 4, 64) := by kernel_rfl

theorem made_dones (m : Nat) : ∃ C : Array Value, C.size = m * 4 ∧ ∀ W : World, m ≤ 2000 → (Instr.makeSlice 59 (.int .i64 0) (.int .i64 (m : Int))).run Try.prog W = .ok (.slice (some ⟨W.heap.size, 0, none⟩) 0 m) (W.alloc (.cells C 46)) := by
  obtain ⟨i0, hi, hz0, hz1, hz2⟩ := info_parts Try.infoDn
  refine ⟨madeCells (Value.cells (.agg #[.int .i64 0, .bool false, .slice none 0 0, .slice none 0 0])) (m * 4), size_madeCells _ _, fun W hn => ?_⟩
  have := run_make (P := Try.prog) W 59 46 i0 _ Try.underlying59 hi hz0 .i64 .i64 0 (m : Int) (by omega) (by omega) (by rw [hz2]; omega) (by omega)
  rw [hz1] at this
  simpa using this

/-- the cells of a list of Dones -/
def dnL (C : Nat → Int) (A1 A2 : Nat → Value) : Nat → List Value
  | 0 => []
  | k + 1 => dnL C A1 A2 k ++ [.int .i64 (C k), .bool true, A1 k, A2 k]

theorem dnL_len (C : Nat → Int) (A1 A2 : Nat → Value) (k : Nat) : (dnL C A1 A2 k).length = k * 4 := by
  induction k with
  | zero => rfl
  | succ k ih => simp only [dnL, List.length_append, ih, List.length_cons, List.length_nil]; omega

theorem dnL_get (C : Nat → Int) (A1 A2 : Nat → Value) (k i j : Nat) (hi : i < k) (hj : j < 4) : (dnL C A1 A2 k)[i * 4 + j]? = some (dnF (C i) true (A1 i) (A2 i) j) := by
  induction k with
  | zero => omega
  | succ k ih =>
    unfold dnL
    rcases (show i < k ∨ i = k by omega) with e | e
    · rw [List.getElem?_append_left (by rw [dnL_len]; omega)]; exact ih e
    · subst e
      rw [List.getElem?_append_right (by rw [dnL_len]; omega), dnL_len]
      rw [show i * 4 + j - i * 4 = j by omega]
      match j, hj with
      | 0, _ => rfl
      | 1, _ => rfl
      | 2, _ => rfl
      | 3, _ => rfl

theorem dnL_congr {C : Nat → Int} {A1 A2 A1' A2' : Nat → Value} {k : Nat} (h1 : ∀ i, i < k → A1' i = A1 i) (h2 : ∀ i, i < k → A2' i = A2 i) : dnL C A1' A2' k = dnL C A1 A2 k := by
  induction k with
  | zero => rfl
  | succ k ih => unfold dnL; rw [ih (fun i hi => h1 i (by omega)) (fun i hi => h2 i (by omega)), h1 k (by omega), h2 k (by omega)]

theorem own_blk {w : World} {base e sz n g : Nat} {v : Value} {xs : List Value} (h : w.ownsRow base e sz v n xs) (hg : v.ownBlock = some g) : base ≤ g ∧ ∃ m f, Blk w g e m f := by
  rcases h.2 with ⟨rfl, _⟩ | ⟨g', cap, cur, rfl, hb, hh, _⟩
  · cases hg
  · simp only [Value.ownBlock, Option.some.injEq] at hg
    subst hg
    exact ⟨hb, cur.size, fun i => cur.toList.getD i (.int .i64 0), cur, hh, rfl, fun i hi => by simp [hi]⟩

theorem own_turned {w w' : World} {base e sz n lo hi : Nat} {v : Value} {xs : List Value} {E : Nat → Prop} (h : w.ownsRow base e sz v n xs) (ht : Turned w w' E lo hi) (hd : ¬ E e) : w'.ownsRow base e sz v n xs := by
  refine ⟨h.1, ?_⟩
  rcases h.2 with hn | ⟨g, cap, cur, rfl, hb, hgg, rest⟩
  · exact .inl hn
  · obtain ⟨_, m, f, hB⟩ := own_blk h rfl
    refine .inr ⟨g, cap, cur, rfl, hb, ?_, rest⟩
    rcases ht.block g (Array.getElem?_eq_some_iff.1 hgg).1 with h' | ⟨_, _, e', m', f', a3, a4⟩
    · rw [h']; exact hgg
    · exact absurd (by rw [← a4.type_eq hB]; exact a3) hd

theorem own_on {w w' : World} {base e sz n : Nat} {v : Value} {xs : List Value} (h : w.ownsRow base e sz v n xs) (hb : Below w.heap.size w w') : w'.ownsRow base e sz v n xs := own_turned h (Turned.of_below (E := fun _ => False) (lo := 0) (hi := 0) hb) id

theorem own_grown {w w' : World} {base e sz n : Nat} {v : Value} {xs : List Value} (h : w.ownsRow base e sz v n xs) (hg : w.grownBy w' v.ownBlock) : Turned w w' (· = e) base w.heap.size := by
  refine ⟨hg.os, hg.tape, hg.output, hg.size, fun k hk => ?_⟩
  by_cases hk' : some k = v.ownBlock
  · obtain ⟨hb, m, f, hB⟩ := own_blk h hk'.symm
    exact .inr ⟨hb, hk, e, m, f, rfl, hB⟩
  · exact .inl (hg.block k hk hk')

theorem new_cells4 (w : World) (a b c d : Value) (e : TypeId) : ∀ j u, [a, b, c, d][j]? = some u → (w.alloc (.cells #[a, b, c, d] e)).cell? ((⟨w.heap.size, 0, none⟩ : Addr).add j) = some u := by
  intro j u hu
  have hj : j < 4 := (List.getElem?_eq_some_iff.1 hu).1
  have ea : (⟨w.heap.size, 0, none⟩ : Addr).add j = ⟨w.heap.size, j, none⟩ := by simp [Addr.add]; exact fun h => h.symm
  rw [ea]
  match j, hj with
  | 0, _ => simpa using hu
  | 1, _ => simpa using hu
  | 2, _ => simpa using hu
  | 3, _ => simpa using hu

/-- What stands of a run behind k events: the list in memory of its own (from base on), the states' lists in ranges that rise up to top. -/
def RunI (w : World) (base top : Nat) (v : Value) (k ns n : Nat) (C : Nat → Int) (X : Nat → Nat → Sec) (D : Nat → Nat → Bool) : Prop :=
  ∃ (A1 A2 : Nat → Value) (L : Nat → Nat), w.ownsRow base 46 4 v k (dnL C A1 A2 k) ∧ base ≤ L 0 ∧ L k ≤ top ∧ ∀ i, i < k → L i ≤ L (i + 1) ∧ SlF w 93 5 (L i) (L (i + 1)) (A1 i) ns (secs (X i)) ∧ SlF w 4 1 (L i) (L (i + 1)) (A2 i) n (bools (D i))

section
variable {w w' : World} {base top k ns n : Nat} {v : Value} {C : Nat → Int} {X : Nat → Nat → Sec} {D : Nat → Nat → Bool}
theorem RunI.turned {E : Nat → Prop} {lo hi : Nat} (h : RunI w base top v k ns n C X D) (ht : Turned w w' E lo hi) (h1 : ¬ E 46) (h2 : ¬ E 93) (h3 : ¬ E 4) : RunI w' base top v k ns n C X D := by
  obtain ⟨A1, A2, L, a1, a2, a3, a4⟩ := h
  exact ⟨A1, A2, L, own_turned a1 ht h1, a2, a3, fun i hi => ⟨(a4 i hi).1, (a4 i hi).2.1.turned ht (.inl h2), (a4 i hi).2.2.turned ht (.inl h3)⟩⟩
theorem RunI.on (h : RunI w base top v k ns n C X D) (hb : Below w.heap.size w w') : RunI w' base top v k ns n C X D := h.turned (Turned.of_below (E := fun _ => False) (lo := 0) (hi := 0) hb) id id id
theorem RunI.alloc (h : RunI w base top v k ns n C X D) (o : Obj) : RunI (w.alloc o) base top v k ns n C X D := h.on (below_alloc (Below.refl _ _) _)
theorem RunI.own (h : RunI w base top v k ns n C X D) : ∃ xs, w.ownsRow base 46 4 v k xs := by
  obtain ⟨A1, A2, L, a1, _⟩ := h
  exact ⟨_, a1⟩
theorem RunI.step {A1 A2 : Nat → Value} {L : Nat → Nat} (a1 : w.ownsRow base 46 4 v k (dnL C A1 A2 k)) (a2 : base ≤ L 0) (a3 : L k ≤ top) (a4 : ∀ i, i < k → L i ≤ L (i + 1) ∧ SlF w 93 5 (L i) (L (i + 1)) (A1 i) ns (secs (X i)) ∧ SlF w 4 1 (L i) (L (i + 1)) (A2 i) n (bools (D i)))
    {lo hi : Nat} {u1 u2 v' : Value} {c : Int} (hc : c = C k) (hl : Lst w lo hi u1 ns (X k) u2 n (D k)) (h1 : top ≤ lo) (h2 : lo ≤ hi)
    (ha : w'.ownsRow base 46 4 v' (k + 1) (dnL C A1 A2 k ++ [.int .i64 c, .bool true, u1, u2])) (hg : w.grownBy w' v.ownBlock) : RunI w' base hi v' (k + 1) ns n C X D := by
  subst hc
  have ht := own_grown a1 hg
  have f1 : ∀ i, i < k → (if i = k then u1 else A1 i) = A1 i := fun i hi => if_neg (by omega)
  have f2 : ∀ i, i < k → (if i = k then u2 else A2 i) = A2 i := fun i hi => if_neg (by omega)
  refine ⟨fun i => if i = k then u1 else A1 i, fun i => if i = k then u2 else A2 i, fun i => if i ≤ k then L i else hi, ?_, by simpa using a2, by show (if k + 1 ≤ k then _ else _) ≤ _; rw [if_neg (by omega)]; exact Nat.le_refl _, fun i hi' => ?_⟩
  · unfold dnL
    rw [dnL_congr (A1 := A1) (A2 := A2) f1 f2]
    simp only [if_true]
    exact ha
  · by_cases hk : i = k
    · subst hk
      simp only [if_true, Nat.le_refl, show ¬ i + 1 ≤ i by omega, if_false]
      exact ⟨by omega, (hl.1.turned ht (.inl (by decide))).wide (by omega) (Nat.le_refl _), (hl.2.turned ht (.inl (by decide))).wide (by omega) (Nat.le_refl _)⟩
    · have b1 : i ≤ k := by omega
      have b2 : i + 1 ≤ k := by omega
      simp only [b1, b2, hk, if_true, if_false]
      exact ⟨(a4 i b2).1, (a4 i b2).2.1.turned ht (.inl (by decide)), (a4 i b2).2.2.turned ht (.inl (by decide))⟩
theorem RunI.dones (h : RunI w base top v k ns n C X D) (h1 : top ≤ w.heap.size) : DnF w base w.heap.size v k ns n C (fun _ => true) X D := by
  obtain ⟨A1, A2, L, a1, a2, a3, a4⟩ := h
  exact ⟨A1, A2, L, SlF.of_ownsRow a1 (fun i hi j hj => dnL_get C A1 A2 k i j hi hj), a2, by omega, a4⟩
end

theorem bd6_sets {W : World} {b : Nat} {f : Nat → Value} (h : Blk W b 101 6 f) (S : Int) (g n B : Nat) (ok : Bool) (v1 v2 : Value) :
    Bd6 ((((((W.setCell ⟨b, 0, none⟩ (.int .i64 S)).setCell ⟨b, 1, none⟩ (.slice (some ⟨g, 0, none⟩) n n)).setCell ⟨b, 2, none⟩ (.map (some B))).setCell ⟨b, 3, none⟩ (.bool ok)).setCell ⟨b, 4, none⟩ v1).setCell ⟨b, 5, none⟩ v2) b S g n B ok v1 v2 ∧
    Turned W ((((((W.setCell ⟨b, 0, none⟩ (.int .i64 S)).setCell ⟨b, 1, none⟩ (.slice (some ⟨g, 0, none⟩) n n)).setCell ⟨b, 2, none⟩ (.map (some B))).setCell ⟨b, 3, none⟩ (.bool ok)).setCell ⟨b, 4, none⟩ v1).setCell ⟨b, 5, none⟩ v2) (· = 101) b (b + 1) := by
  have k := (((((h.set 0 (.int .i64 S)).set 1 (.slice (some ⟨g, 0, none⟩) n n)).set 2 (.map (some B))).set 3 (.bool ok)).set 4 v1).set 5 v2
  refine ⟨k.congr (fun i hi => by match i, hi with | 0, _ => rfl | 1, _ => rfl | 2, _ => rfl | 3, _ => rfl | 4, _ => rfl | 5, _ => rfl), ?_⟩
  exact Turned.of_grown (grown_set (grown_set (grown_set (grown_set (grown_set (grown_set (World.grownBy.refl _ _) _) _) _) _) _) _) (Nat.le_refl _) (by omega) rfl h

theorem bd6_state {W : World} {b : Nat} {S : Int} {g n B : Nat} {ok ok' : Bool} {v1 v2 v1' v2' : Value} (h : Bd6 W b S g n B ok v1 v2) :
    Bd6 (((W.setCell ⟨b, 3, none⟩ (.bool ok')).setCell ⟨b, 4, none⟩ v1').setCell ⟨b, 5, none⟩ v2') b S g n B ok' v1' v2' ∧
    Turned W (((W.setCell ⟨b, 3, none⟩ (.bool ok')).setCell ⟨b, 4, none⟩ v1').setCell ⟨b, 5, none⟩ v2') (· = 101) b (b + 1) := by
  have k := ((Blk.set h 3 (.bool ok')).set 4 v1').set 5 v2'
  refine ⟨k.congr (fun i hi => by match i, hi with | 0, _ => rfl | 1, _ => rfl | 2, _ => rfl | 3, _ => rfl | 4, _ => rfl | 5, _ => rfl), ?_⟩
  exact Turned.of_grown (grown_set (grown_set (grown_set (World.grownBy.refl _ _) _) _) _) (Nat.le_refl _) (by omega) rfl h

theorem three {w : World} {g e m n k : Nat} {f : Nat → Value} {P : Nat → Nat → Int} (h : Blk w g e m f) (hm : n * 3 ≤ m) (hk : k < n) (hf : ∀ i, i < n → ∀ j, j < 3 → f (i * 3 + j) = evs P i j) :
    w.cell? ⟨g, k * 3, none⟩ = some (.int .i64 (P k 0)) ∧ w.cell? ⟨g, k * 3 + 1, none⟩ = some (.int .i64 (P k 1)) ∧ w.cell? ⟨g, k * 3 + 2, none⟩ = some (.int .i64 (P k 2)) :=
  ⟨by rw [h.cell (by omega)]; exact congrArg some (hf k hk 0 (by omega)), by rw [h.cell (by omega), hf k hk 1 (by omega)]; rfl, by rw [h.cell (by omega), hf k hk 2 (by omega)]; rfl⟩

theorem runOk_any (S : Int) (g n m ce : Nat) (ae : Option Addr) (F T : Nat → Int) (w : World) (hm : m ≤ 1048576) (hrow : Row w g 88 2 n (two F T)) :
    Calls Try.prog 75 #[.agg #[.int .i64 S, .slice (some ⟨g, 0, none⟩) n n], .slice ae m ce] w fun e w' => e = .returned (.bool (lokZ S n F T == 0 && decide (m ≤ 2000))) ∧ Below w.heap.size w w' := by
  have kc := fun o => implLayoutOk_any S g n F T _ (hrow.alloc o)
  go_enter Try.func75, Try.ntmps75
  go_wp2_with fail
  refine (kc _).mono ?_
  rintro e w1 ⟨rfl, hb1⟩
  have B1 := below_on (show Below w.heap.size w _ from (by repeat (first | exact Below.refl _ _ | assumption | refine below_alloc ?_ _ | refine Below.setCell ?_ (by first | omega | (simp; done) | (simp; omega)) _ | refine Below.alloc ?_ (by first | omega | (simp; done) | (simp; omega)) _ | refine Below.drew ?_))) hb1
  clear hb1
  by_cases hl : lokZ S n F T = 0
  · have h1 : (lokZ S n F T == 0) = true := by simp [hl]
    rw [hl]
    by_cases hm2 : m ≤ 2000
    · have h2 : (m : Int) ≤ 2000 := by omega
      go_wp2
      go_ret
      exact ⟨by simp [hm2, hl], B1⟩
    · have h2 : ¬ (m : Int) ≤ 2000 := by omega
      go_wp2
      go_ret
      exact ⟨by simp [hm2]; omega, B1⟩
  · have h1 : (lokZ S n F T == 0) = false := by simp [hl]
    go_wp2
    go_ret
    exact ⟨by simp [hl], B1⟩

end Go.Proofs.Ytlpopfhaephfaab
