import Derived.Test.YtlpopfhaephfaaaH2
namespace Go.Proofs.Ytlpopfhaephfaaa
open Go.RowKit Go.Sort

/-- A heap of the program: its struct at block hb, its items in the slice v of the call's own. -/
def HeapAt (w : World) (hb lo : Nat) (v : Value) (L : List M3) : Prop := Blk w hb 148 2 (hcell v) ∧ w.ownsRow lo 111 3 v L.length (flat L)

theorem row_ne {w : World} {base e e' : Nat} {v : Value} {n : Nat} {xs : List Value} {sz g m : Nat} {f : Nat → Value} (h : w.ownsRow base e sz v n xs) (hb : Blk w g e' m f) (he : e' ≠ e) : v.ownBlock ≠ some g := by
  intro hv
  obtain ⟨ys, h1, _⟩ := hb
  rcases h.2 with ⟨rfl, _⟩ | ⟨g', cap, cur, rfl, _, hh, _⟩
  · cases hv
  · simp only [Value.ownBlock, Option.some.injEq] at hv
    subst hv
    rw [hh] at h1
    simp only [Option.some.injEq, Obj.cells.injEq] at h1
    exact he h1.2.1.symm

theorem HeapAt.open {w : World} {hb lo : Nat} {v : Value} {L : List M3} (h : HeapAt w hb lo v L) (hp : 0 < L.length) :
    ∃ g cap f, v = .slice (some ⟨g, 0, none⟩) L.length cap ∧ lo ≤ g ∧ L.length ≤ cap ∧ cap ≤ maxLen ∧ Blk w g 111 (cap * 3) f ∧ (∀ c, c < L.length * 3 → f c = cellL L c) ∧ HRead w hb g cap L := by
  rcases own_open h.2 with ⟨_, h0⟩ | ⟨g, cap, f, rfl, h1, h2, h3, h4, h5⟩
  · subst h0; simp at hp
  · have hl : L.length * 3 ≤ cap * 3 := Nat.mul_le_mul_right 3 h2
    refine ⟨g, cap, f, rfl, h1, h2, h3, h4, h5, ⟨h.1.cell (i := 0) (by omega), h.1.cell (i := 1) (by omega), fun i hi => ?_⟩⟩
    refine ⟨?_, ?_, ?_⟩
    · rw [h4.cell (by omega), h5 _ (by omega)]; unfold cellL; rw [show i * 3 / 3 = i by omega, show i * 3 % 3 = 0 by omega]; rfl
    · rw [h4.cell (by omega), h5 _ (by omega)]; unfold cellL; rw [show (i * 3 + 1) / 3 = i by omega, show (i * 3 + 1) % 3 = 1 by omega]; rfl
    · rw [h4.cell (by omega), h5 _ (by omega)]; unfold cellL; rw [show (i * 3 + 2) / 3 = i by omega, show (i * 3 + 2) % 3 = 2 by omega]; rfl

theorem HeapAt.on {w w' : World} {hb lo : Nat} {v : Value} {L : List M3} (h : HeapAt w hb lo v L) (hB : Below w.heap.size w w') : HeapAt w' hb lo v L := by
  refine ⟨h.1.below hB h.1.lt, h.2.1, ?_⟩
  rcases h.2.2 with h1 | ⟨g, cap, cur, h1, h2, h3, r⟩
  · exact .inl h1
  · exact .inr ⟨g, cap, cur, h1, h2, (hB.block g (Array.getElem?_eq_some_iff.1 h3).1).trans h3, r⟩

theorem swap_cells {L : List M3} {a b : Nat} (ha : a < L.length) (hb : b < L.length) {f : Nat → Value} (hf : ∀ c, c < L.length * 3 → f c = cellL L c) (c : Nat) (hc : c < L.length * 3) :
    (if c = b * 3 + 2 then Value.int .i64 (at3 L a).p else if c = b * 3 + 1 then Value.int .i64 (at3 L a).a else if c = b * 3 then Value.int .i64 (at3 L a).f else
      if c = a * 3 + 2 then Value.int .i64 (at3 L b).p else if c = a * 3 + 1 then Value.int .i64 (at3 L b).a else if c = a * 3 then Value.int .i64 (at3 L b).f else f c) = cellL (swapL L a b) c := by
  unfold cellL
  rw [swapL_at ha hb]
  by_cases e1 : c / 3 = b
  · rw [if_pos e1]
    rcases (show c % 3 = 0 ∨ c % 3 = 1 ∨ c % 3 = 2 by omega) with h | h | h
    · rw [if_neg (by omega), if_neg (by omega), if_pos (by omega), h]; rfl
    · rw [if_neg (by omega), if_pos (by omega), h]; rfl
    · rw [if_pos (by omega), h]; rfl
  · rw [if_neg e1, if_neg (show ¬ c = b * 3 + 2 by omega), if_neg (show ¬ c = b * 3 + 1 by omega), if_neg (show ¬ c = b * 3 by omega)]
    by_cases e2 : c / 3 = a
    · rw [if_pos e2]
      rcases (show c % 3 = 0 ∨ c % 3 = 1 ∨ c % 3 = 2 by omega) with h | h | h
      · rw [if_neg (by omega), if_neg (by omega), if_pos (by omega), h]; rfl
      · rw [if_neg (by omega), if_pos (by omega), h]; rfl
      · rw [if_pos (by omega), h]; rfl
    · rw [if_neg e2, if_neg (show ¬ c = a * 3 + 2 by omega), if_neg (show ¬ c = a * 3 + 1 by omega), if_neg (show ¬ c = a * 3 by omega), hf c hc]
      rfl

theorem grown_drew {w w' : World} {r : Option Nat} (h : w.grownBy w' r) : w.grownBy w'.drew r := ⟨h.os, h.tape, h.output, h.size, h.block⟩

theorem grown_set' {w wr : World} {g : Nat} (h : w.grownBy wr (some g)) {i : Nat} (v : Value) : w.grownBy (wr.setCell ⟨g, i, none⟩ v) (some g) :=
  ⟨h.os, h.tape, h.output, by simpa [World.setCell] using h.size, fun k hk hne => (Below.heap_setCell _ _ _ _ (fun e => hne (by rw [e]))).trans (h.block k hk hne)⟩

theorem swap_any (hb lo a b : Nat) (v : Value) (L : List M3) (w : World) (h : HeapAt w hb lo v L) (ha : a < L.length) (hb' : b < L.length) :
    Calls Try.prog 108 #[.pointer (some ⟨hb, 0, none⟩), .int .i64 a, .int .i64 b] w fun e w' => e = .returned (.tuple #[]) ∧ HeapAt w' hb lo v (swapL L a b) ∧ w.grownBy w' v.ownBlock := by
  obtain ⟨g, cap, f, rfl, h1, h2, h3, h4, h5, hr⟩ := h.open (by omega)
  have hne := row_ne h.2 h.1 (by decide)
  simp only [Value.ownBlock, ne_eq, Option.some.injEq] at hne
  have hl : L.length * 3 ≤ cap * 3 := Nat.mul_le_mul_right 3 h2
  refine (swap_walk hb g L.length cap (cap * 3) a b f (at3 L a) (at3 L b) w ha hb' hr.s0 h4 hl
    (fun j hj => by rw [h5 _ (by omega)]; unfold cellL; rw [show (a * 3 + j) / 3 = a by omega, show (a * 3 + j) % 3 = j by omega])
    (fun j hj => by rw [h5 _ (by omega)]; unfold cellL; rw [show (b * 3 + j) / 3 = b by omega, show (b * 3 + j) % 3 = j by omega])).mono ?_
  rintro e w' ⟨he, rfl⟩
  refine ⟨he, ⟨?_, ?_⟩, ?_⟩
  · exact ((((((h.1.set_other (fun x => hne x) _).set_other (fun x => hne x) _).set_other (fun x => hne x) _).set_other (fun x => hne x) _).set_other (fun x => hne x) _).set_other (fun x => hne x) _).drew
  · have := own_shut (base := lo) (e := 111) (L := swapL L a b) (cap := cap) h1 (by rw [swapL_length]; exact h2) h3 ((((((h4.set (a * 3) (.int .i64 (at3 L b).f)).set (a * 3 + 1) (.int .i64 (at3 L b).a)).set (a * 3 + 2) (.int .i64 (at3 L b).p)).set (b * 3) (.int .i64 (at3 L a).f)).set (b * 3 + 1) (.int .i64 (at3 L a).a)).set (b * 3 + 2) (.int .i64 (at3 L a).p)).drew
      (fun c hc => swap_cells ha hb' h5 c (by rw [swapL_length] at hc; exact hc))
    rw [swapL_length] at this ⊢
    exact this
  · exact grown_drew (grown_set' (grown_set' (grown_set' (grown_set' (grown_set' (grown_set' (World.grownBy.refl _ _) _) _) _) _) _) _)

theorem size_any (hb lo : Nat) (v : Value) (L : List M3) (w : World) (h : HeapAt w hb lo v L) :
    Calls Try.prog 67 #[.pointer (some ⟨hb, 0, none⟩)] w fun e w' => e = .returned (.int .i64 L.length) ∧ w' = w := by
  have hv : ∃ ao cap, v = .slice ao L.length cap := by
    rcases h.2.2 with ⟨rfl, h0⟩ | ⟨g, cap, cur, rfl, _⟩
    · exact ⟨none, 0, by rw [h0]⟩
    · exact ⟨_, cap, rfl⟩
  obtain ⟨ao, cap, rfl⟩ := hv
  have s0 : w.cell? ⟨hb, 0, none⟩ = some (.slice ao L.length cap) := h.1.cell (i := 0) (by omega)
  clear h
  go_enter Try.func67, Try.ntmps67
  go_wp2
  go_ret
  exact ⟨rfl, rfl⟩

end Go.Proofs.Ytlpopfhaephfaaa
