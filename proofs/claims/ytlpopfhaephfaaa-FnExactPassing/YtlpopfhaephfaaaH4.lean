import Derived.Test.YtlpopfhaephfaaaH3
namespace Go.Proofs.Ytlpopfhaephfaaa
open Go.RowKit Go.Sort

/-- All old blocks are as they were, but a heap's struct and the row of its items. -/
structure Fr (w w' : World) (hb : Nat) (r : Option Nat) : Prop where
  os : w'.os = w.os
  tape : w'.tape = w.tape
  output : w'.output = w.output
  size : w.heap.size ≤ w'.heap.size
  block : ∀ k, k < w.heap.size → k ≠ hb → some k ≠ r → w'.heap[k]? = w.heap[k]?

theorem Fr.refl (w : World) (hb : Nat) (r : Option Nat) : Fr w w hb r := ⟨rfl, rfl, rfl, Nat.le_refl _, fun _ _ _ _ => rfl⟩
theorem Fr.on {w w' w2 : World} {hb : Nat} {r : Option Nat} (h : Fr w w' hb r) (hB : Below w'.heap.size w' w2) : Fr w w2 hb r :=
  ⟨hB.os.trans h.os, hB.tape.trans h.tape, hB.output.trans h.output, Nat.le_trans h.size hB.size, fun k hk h1 h2 => (hB.block k (Nat.lt_of_lt_of_le hk h.size)).trans (h.block k hk h1 h2)⟩
theorem Fr.grown {w w' w2 : World} {hb : Nat} {r r' : Option Nat} (h : Fr w w' hb r) (hg : w'.grownBy w2 r') (hr : r' = r ∨ ∀ g, r' = some g → w.heap.size ≤ g) : Fr w w2 hb r :=
  ⟨hg.os.trans h.os, hg.tape.trans h.tape, hg.output.trans h.output, Nat.le_trans h.size hg.size, fun k hk h1 h2 => (hg.block k (Nat.lt_of_lt_of_le hk h.size) (fun e => by
    rcases hr with e1 | e1
    · exact h2 (e.trans e1)
    · have := e1 k e.symm; omega)).trans (h.block k hk h1 h2)⟩
theorem Fr.set {w w' : World} {hb : Nat} {r : Option Nat} (h : Fr w w' hb r) {i : Nat} (v : Value) : Fr w (w'.setCell ⟨hb, i, none⟩ v) hb r :=
  ⟨h.os, h.tape, h.output, by simpa [World.setCell] using h.size, fun k hk h1 h2 => (Below.heap_setCell _ _ _ _ h1).trans (h.block k hk h1 h2)⟩
theorem Fr.set_new {w w' : World} {hb : Nat} {r : Option Nat} (h : Fr w w' hb r) {a : Addr} (ha : w.heap.size ≤ a.block) (v : Value) : Fr w (w'.setCell a v) hb r :=
  ⟨h.os, h.tape, h.output, by simpa [World.setCell] using h.size, fun k hk h1 h2 => (Below.heap_setCell _ _ _ _ (by omega)).trans (h.block k hk h1 h2)⟩
theorem Fr.alloc {w w' : World} {hb : Nat} {r : Option Nat} (h : Fr w w' hb r) (o : Obj) : Fr w (w'.alloc o) hb r := h.on (below_alloc (Below.refl _ _) o)
theorem Fr.blk {w w' : World} {hb : Nat} {r : Option Nat} {g e m : Nat} {f : Nat → Value} (h : Fr w w' hb r) (hB : Blk w g e m f) (h1 : g ≠ hb) (h2 : some g ≠ r) : Blk w' g e m f := hB.of_block (h.block g hB.lt h1 h2)

theorem HeapAt.read {w : World} {hb lo g cap : Nat} {L : List M3} (h : HeapAt w hb lo (.slice (some ⟨g, 0, none⟩) L.length cap) L) : HRead w hb g cap L := by
  rcases Nat.eq_zero_or_pos L.length with h0 | hp
  · exact ⟨h.1.cell (i := 0) (by omega), h.1.cell (i := 1) (by omega), fun i hi => by omega⟩
  · obtain ⟨g', cap', f, hv, _, _, _, _, _, hr⟩ := h.open hp
    simp only [Value.slice.injEq, Option.some.injEq, Addr.mk.injEq, true_and] at hv
    obtain ⟨⟨rfl, _⟩, rfl⟩ := hv
    exact hr

theorem firstOf_all (hb g cap p : Nat) (L : List M3) (w : World) (h : HRead w hb g cap L) :
    Calls Try.prog 109 #[.pointer (some ⟨hb, 0, none⟩), .int .i64 p, .int .i64 (2 * (p : Int) + 1), .int .i64 (2 * (p : Int) + 2)] w fun e w' => e = .returned (.int .i64 (firstZ L p (2 * p + 1) (2 * p + 2))) ∧ Below w.heap.size w w' := by
  have e1 : (2 * (p : Int) + 1) = ((2 * p + 1 : Nat) : Int) := by omega
  have e2 : (2 * (p : Int) + 2) = ((2 * p + 2 : Nat) : Int) := by omega
  rw [e1, e2]
  by_cases h1 : 2 * p + 1 < L.length
  · exact firstOf_any hb g cap p (2 * p + 1) (2 * p + 2) L w h (by omega) (by omega)
  · exact firstOf_none hb g cap p (2 * p + 1) (2 * p + 2) L w h (by omega) (by omega)

theorem take_cells {L : List M3} {k : Nat} (hk : k ≤ L.length) {f : Nat → Value} (hf : ∀ c, c < L.length * 3 → f c = cellL L c) (c : Nat) (hc : c < (L.take k).length * 3) : f c = cellL (L.take k) c := by
  have hl : (L.take k).length = k := by simp; omega
  rw [hl] at hc
  rw [hf c (by omega)]
  unfold cellL at3
  have : (L.take k).getD (c / 3) m0 = L.getD (c / 3) m0 := by simp [List.getElem?_take_of_lt (show c / 3 < k by omega)]
  rw [this]

theorem swap_last {L : List M3} (hn : 0 < L.length) : (swapL L 0 (L.length - 1)).take (L.length - 1) ++ [at3 L 0] = swapL L 0 (L.length - 1) := by
  have hl : (swapL L 0 (L.length - 1)).length = L.length := swapL_length _ _ _
  have h1 := List.take_append_drop (L.length - 1) (swapL L 0 (L.length - 1))
  have h2 : (swapL L 0 (L.length - 1)).drop (L.length - 1) = [at3 L 0] := by
    rw [List.drop_eq_getElem_cons (by omega), List.drop_eq_nil_of_le (by omega)]
    have e := swapL_at (a := 0) (b := L.length - 1) hn (by omega) (L.length - 1)
    rw [if_pos rfl] at e
    unfold at3 at e ⊢
    rw [List.getD_eq_getElem?_getD, List.getElem?_eq_getElem (by omega)] at e
    simp only [Option.getD_some] at e
    rw [e]
  rw [h2] at h1
  exact h1

theorem pop_perm {L L' : List M3} (hn : 0 < L.length) (h : L'.Perm ((swapL L 0 (L.length - 1)).take (L.length - 1))) : (at3 L 0 :: L').Perm L := by
  have h1 : (at3 L 0 :: L').Perm (((swapL L 0 (L.length - 1)).take (L.length - 1)) ++ [at3 L 0]) := (List.Perm.cons _ h).trans (List.perm_append_singleton _ _).symm
  rw [swap_last hn] at h1
  exact h1.trans (swapL_perm hn (by omega))

theorem HeapAt.cut {w : World} {hb lo g cap k : Nat} {L : List M3} (h : HeapAt w hb lo (.slice (some ⟨g, 0, none⟩) L.length cap) L) (hp : 0 < L.length) (hk : k ≤ L.length) :
    HeapAt (w.setCell ⟨hb, 0, none⟩ (.slice (some ⟨g, 0, none⟩) k cap)) hb lo (.slice (some ⟨g, 0, none⟩) (L.take k).length cap) (L.take k) := by
  obtain ⟨g', cap', f, hv, h1, h2, h3, h4, h5, _⟩ := h.open hp
  simp only [Value.slice.injEq, Option.some.injEq, Addr.mk.injEq, true_and] at hv
  obtain ⟨⟨rfl, _⟩, rfl⟩ := hv
  have hl : (L.take k).length = k := by simp; omega
  have hne := row_ne h.2 h.1 (by decide)
  simp only [Value.ownBlock, ne_eq, Option.some.injEq] at hne
  refine ⟨(h.1.set 0 _).congr (fun i _ => ?_), own_shut h1 (by omega) h3 (h4.set_other (fun x => hne x.symm) _) (take_cells hk h5)⟩
  unfold hcell
  rw [hl]
  by_cases e : i = 0
  · simp [e]
  · simp [e]

theorem HeapAt.cut0 {w : World} {hb lo g cap k n : Nat} {L : List M3} (h : HeapAt w hb lo (.slice (some ⟨g, 0, none⟩) L.length cap) (swapL L 0 (n - 1))) (_hn : n = L.length) (hp : 0 < L.length) (hk : k ≤ L.length) :
    HeapAt (w.setCell ⟨hb, 0, none⟩ (.slice (some ⟨g, 0, none⟩) k cap)) hb lo (.slice (some ⟨g, 0, none⟩) ((swapL L 0 (n - 1)).take k).length cap) ((swapL L 0 (n - 1)).take k) := by
  have e : (swapL L 0 (n - 1)).length = L.length := swapL_length _ _ _
  rw [← e] at h
  exact h.cut (by omega) (by omega)

theorem own_set {w : World} {base e sz n : Nat} {v : Value} {xs : List Value} (h : w.ownsRow base e sz v n xs) {a : Addr} (ha : v.ownBlock ≠ some a.block) (u : Value) : (w.setCell a u).ownsRow base e sz v n xs := by
  refine ⟨h.1, ?_⟩
  rcases h.2 with h1 | ⟨g, cap, cur, rfl, h2, h3, r⟩
  · exact .inl h1
  · refine .inr ⟨g, cap, cur, rfl, h2, ?_, r⟩
    rw [Below.heap_setCell _ _ _ _ (fun x => ha (by simp [Value.ownBlock, x]))]
    exact h3

theorem heap_boxes {w : World} {hb lo B : Nat} {v : Value} {L : List M3} (h : HeapAt w hb lo v L) (hB : B ≠ hb) (hv : v.ownBlock ≠ some B) (u0 u1 u2 : Value) : HeapAt (((w.setCell ⟨B, 0, none⟩ u0).setCell ⟨B, 1, none⟩ u1).setCell ⟨B, 2, none⟩ u2) hb lo v L :=
  ⟨((h.1.set_other (a := ⟨B, 0, none⟩) hB _).set_other (a := ⟨B, 1, none⟩) hB _).set_other (a := ⟨B, 2, none⟩) hB _, own_set (own_set (own_set h.2 (a := ⟨B, 0, none⟩) hv _) (a := ⟨B, 1, none⟩) hv _) (a := ⟨B, 2, none⟩) hv _⟩

def topcell (m : M3) : Nat → Value := fun j => .int .i64 (fld m j)

set_option maxHeartbeats 2000000 in
theorem pop_any (hb lo : Nat) (v : Value) (L : List M3) (w : World) (h : HeapAt w hb lo v L) (hp : 0 < L.length) (hn : L.length ≤ 1000000) (hH : HeapL L) :
    Calls Try.prog 68 #[.pointer (some ⟨hb, 0, none⟩)] w fun e w' => e = .returned (.agg #[.int .i64 (at3 L 0).f, .int .i64 (at3 L 0).a, .int .i64 (at3 L 0).p]) ∧
      ∃ v' L', HeapAt w' hb lo v' L' ∧ HeapL L' ∧ (at3 L 0 :: L').Perm L ∧ v'.ownBlock = v.ownBlock ∧ Fr w w' hb v.ownBlock := by
  obtain ⟨g, cap, f, rfl, h1, h2, h3, h4, h5, hr⟩ := h.open hp
  have hne := row_ne h.2 h.1 (by decide)
  simp only [Value.ownBlock, ne_eq, Option.some.injEq] at hne
  have hg := h4.lt
  have hhb := h.1.lt
  have s0 := hr.s0
  obtain ⟨t0, t1, t2⟩ := hr.it 0 hp
  simp only [Nat.zero_mul, Nat.zero_add] at t0 t1 t2
  obtain ⟨n, hN⟩ : ∃ n, n = L.length := ⟨_, rfl⟩
  have HN : Hid (n = L.length) := hN
  obtain ⟨x, hx⟩ : ∃ x, at3 L 0 = x := ⟨_, rfl⟩
  rw [← hN] at s0
  have HX : Hid (at3 L 0 = x) := hx
  rw [hx] at t0 t1 t2 ⊢
  have hn0 : (0 : Int) < (n : Int) := by omega
  have hn1 : n ≤ 1000000 := by omega
  have hcs : n ≤ cap := by omega
  have hsw := fun W (hW : HeapAt W hb lo (.slice (some ⟨g, 0, none⟩) L.length cap) L) => swap_any hb lo 0 (n - 1) _ L W hW hp (by omega)
  have hc1 : ((n - 1 : Nat) : Int) = (n : Int) - 1 := by omega
  rw [hc1] at hsw
  have H : Hid (HeapAt w hb lo (.slice (some ⟨g, 0, none⟩) L.length cap) L) := h
  clear h hr hN hx hc1
  go_enter Try.func68, Try.ntmps68
  go_wp2_with fail
  refine (hsw _ (H.out.on (by repeat (first | exact Below.refl _ _ | assumption | refine below_alloc ?_ _ | refine Below.setCell ?_ (by first | omega | (simp; done) | (simp; omega)) _ | refine Below.alloc ?_ (by first | omega | (simp; done) | (simp; omega)) _ | refine Below.drew ?_)))).mono ?_
  rintro e w1 ⟨rfl, hA1, hG1⟩
  have bR : Blk w1 w.heap.size 111 3 (fun _ => .int .i64 0) := Blk.grown ((Blk.new w #[.int .i64 0, .int .i64 0, .int .i64 0] 111 (fun _ => .int .i64 0) (fun i hi => by match i, hi with | 0, _ => rfl | 1, _ => rfl | 2, _ => rfl)).alloc _) hG1 (by simp [Value.ownBlock]; omega)
  have bT : Blk w1 (w.heap.size + 1) 111 3 (topcell x) := by
    have := Blk.new (w.alloc (.cells #[.int .i64 0, .int .i64 0, .int .i64 0] 111)) #[.int .i64 x.f, .int .i64 x.a, .int .i64 x.p] 111 (topcell x) (fun i hi => by match i, hi with | 0, _ => rfl | 1, _ => rfl | 2, _ => rfl)
    rw [World.size_alloc] at this
    exact this.grown hG1 (by simp [Value.ownBlock]; omega)
  have F1 : Fr w w1 hb (some g) := (((Fr.refl w hb (some g)).alloc _).alloc _).grown hG1 (.inl rfl)
  have e0 : w1.cell? ⟨hb, 0, none⟩ = some (.slice (some ⟨g, 0, none⟩) n cap) := by have := hA1.1.cell (i := 0) (by omega); rw [this]; simp [hcell, HN.out]
  have z0 := hA1.1.frozen 0
  have HA : Hid (HeapAt w1 hb lo (.slice (some ⟨g, 0, none⟩) L.length cap) (swapL L 0 (n - 1))) := hA1
  have hc2 : (n : Int) - 1 ≤ (cap : Int) := by omega
  have hc3 : (0 : Int) ≤ (n : Int) - 1 := by omega
  clear hsw hA1 hG1 s0 t0 t1 t2
  go_wp2_with fail
  go_loopw [5] (fun q wr => ∃ (p : Nat) (L' : List M3), q = .int .i64 p ∧ L'.length = n - 1 ∧ (p = 0 ∨ p < n - 1) ∧ HeapAt wr hb lo (.slice (some ⟨g, 0, none⟩) L'.length cap) L' ∧ DownL L' p ∧ L'.Perm ((swapL L 0 (L.length - 1)).take (L.length - 1)) ∧
      Blk wr w.heap.size 111 3 (fun _ => .int .i64 0) ∧ Blk wr (w.heap.size + 1) 111 3 (topcell x) ∧ Fr w wr hb (some g)) (fun q _ => n - (intOf q).toNat)
  case atStart =>
    have hcut := HA.out.cut0 (n := n) HN.out hp (k := n - 1) (by have := HN.out; omega)
    have hL : (swapL L 0 (n - 1)).length = n := by rw [swapL_length, HN.out]
    refine ⟨0, (swapL L 0 (n - 1)).take (n - 1), rfl, by simp [hL], .inl rfl, hcut, ?_, ?_, bR.set_other (by simp; omega) _, bT.set_other (by simp; omega) _, F1.set _⟩
    · rw [HN.out]; exact DownL.start hH hp
    · rw [HN.out]
  case round =>
    obtain ⟨p, L', rfl, hl, hpp, hA, hD, hP, bR, bT, hF⟩ := hrel
    have hfo := firstOf_all hb g cap p L' wr hA.read
    obtain ⟨c, hc⟩ : ∃ c, firstZ L' p (2 * p + 1) (2 * p + 2) = c := ⟨_, rfl⟩
    rw [hc] at hfo
    have hp2 : (p : Int) ≤ 1000000 := by omega
    go_wp2_with fail
    refine hfo.mono ?_
    rintro e w2 ⟨rfl, hB2⟩
    have hA2 := hA.on hB2
    have bR2 := bR.below hB2 bR.lt
    have bT2 := bT.below hB2 bT.lt
    have hF2 := hF.on hB2
    clear hfo hA bR bT hF hB2
    by_cases hcp : c = p
    · have hh := firstZ_same hD (hc.trans hcp)
      subst hcp
      have q0 : w2.cell? ⟨w.heap.size + 1, 0, none⟩ = some (.int .i64 x.f) := bT2.cell (i := 0) (by omega)
      have q1 : w2.cell? ⟨w.heap.size + 1, 1, none⟩ = some (.int .i64 x.a) := bT2.cell (i := 1) (by omega)
      have q2 : w2.cell? ⟨w.heap.size + 1, 2, none⟩ = some (.int .i64 x.p) := bT2.cell (i := 2) (by omega)
      have r0 := bR2.cell (i := 0) (by omega)
      have r1 := bR2.cell (i := 1) (by omega)
      have r2 := bR2.cell (i := 2) (by omega)
      have y0 := bR2.frozen 0
      have y1 := bR2.frozen 1
      have y2 := bR2.frozen 2
      go_wp2
      have hA3 := heap_boxes hA2 (B := w.heap.size) (by omega) (by simp [Value.ownBlock]; omega) (.int .i64 x.f) (.int .i64 x.a) (.int .i64 x.p)
      have hF3 := ((hF2.set_new (a := ⟨w.heap.size, 0, none⟩) (Nat.le_refl _) (.int .i64 x.f)).set_new (a := ⟨w.heap.size, 1, none⟩) (Nat.le_refl _) (.int .i64 x.a)).set_new (a := ⟨w.heap.size, 2, none⟩) (Nat.le_refl _) (.int .i64 x.p)
      have hPP := pop_perm hp hP
      rw [HX.out] at hPP
      exact bodyPost_ret (v := .agg #[.int .i64 x.f, .int .i64 x.a, .int .i64 x.p]) (by simp [results, Try.results68, go_sem, r0, r1, r2]) rfl ⟨rfl, .slice (some ⟨g, 0, none⟩) L'.length cap, L', hA3, hh, hPP, rfl, hF3⟩
    · obtain ⟨hcl, hcc, _, _⟩ := firstZ_other hc hcp
      have hpl : p < L'.length := by omega
      have hD2 := hD.step hpl hc hcp
      have hP2 := (swapL_perm hcl hpl).trans hP
      have hsw := swap_any hb lo c p _ L' w2 hA2 hcl hpl
      have hne2 : ((c : Int) == (p : Int)) = false := by simp; omega
      have hne3 : (c == p) = false := by simp [hcp]
      go_wp2_with fail
      refine hsw.mono ?_
      rintro e w3 ⟨rfl, hA3, hG3⟩
      have hF3 := hF2.grown hG3 (.inl rfl)
      have bR3 := bR2.grown hG3 (by simp [Value.ownBlock]; omega)
      have bT3 := bT2.grown hG3 (by simp [Value.ownBlock]; omega)
      have hl3 : (swapL L' c p).length = L'.length := swapL_length _ _ _
      clear hsw hA2 bR2 bT2 hF2 hG3
      go_wp2_with fail
      go_roundw
      case rel => exact ⟨c, swapL L' c p, rfl, by omega, by omega, by rw [hl3]; exact hA3, hD2, hP2, bR3, bT3, hF3⟩
      case measure => simp [intOf]; omega

end Go.Proofs.Ytlpopfhaephfaaa
