import Derived.Test.YtlpopfhaephfaabST0
namespace Go.Proofs.Ytlpopfhaephfaab
open Go.RowKit

set_option maxHeartbeats 400000 in
theorem toSection_any (x : Sec) (w : World) :
    Calls Try.prog 91 #[.agg #[.int .i64 x.told, .int .i64 x.count, .bool x.lost, .bool x.sweep, .int .i64 x.last]] w fun e w' => e = .returned (.agg #[.int .i64 x.told, .int .i64 x.count, .bool x.lost, .bool x.sweep, .int .i64 x.last]) ∧ Below w.heap.size w w' := by
  go_enter Try.func91, Try.ntmps91
  go_wp2
  exact bodyPost_ret (v := .agg #[.int .i64 x.told, .int .i64 x.count, .bool x.lost, .bool x.sweep, .int .i64 x.last]) (by simp [results, Try.results91, go_sem]) rfl ⟨rfl, (by repeat (first | exact Below.refl _ _ | assumption | refine below_alloc ?_ _ | refine Below.setCell ?_ (by first | omega | (simp; done) | (simp; omega)) _ | refine Below.alloc ?_ (by first | omega | (simp; done) | (simp; omega)) _ | refine Below.drew ?_))⟩

def secsTo (k : Nat) (X : Nat → Sec) : Nat → Nat → Value := fun i j => if i < k then secs X i j else scell sec0 j

theorem row_step5 {w' : World} {b e n k : Nat} {X : Nat → Sec} (h : Row w' b e 5 n (secsTo k X)) :
    Row (((((w'.setCell ⟨b, k * 5, none⟩ (.int .i64 (X k).told)).setCell ⟨b, k * 5 + 1, none⟩ (.int .i64 (X k).count)).setCell ⟨b, k * 5 + 2, none⟩ (.bool (X k).lost)).setCell ⟨b, k * 5 + 3, none⟩ (.bool (X k).sweep)).setCell ⟨b, k * 5 + 4, none⟩ (.int .i64 (X k).last)) b e 5 n (secsTo (k + 1) X) := by
  refine (((((h.set0 (i := k) (by omega) _).set (i := k) (j := 1) (by omega) _).set (i := k) (j := 2) (by omega) _).set (i := k) (j := 3) (by omega) _).set (i := k) (j := 4) (by omega) _).congr fun i hi j hj => ?_
  unfold secsTo secs scell
  rcases Nat.lt_trichotomy i k with h1 | h1 | h1
  · have a1 : ¬ i = k := by omega
    have a2 : i < k + 1 := by omega
    simp [a1, a2, h1]
  · subst h1
    rcases (show j = 0 ∨ j = 1 ∨ j = 2 ∨ j = 3 ∨ j = 4 by omega) with rfl | rfl | rfl | rfl | rfl <;> simp
  · have a1 : ¬ i = k := by omega
    have a2 : ¬ i < k + 1 := by omega
    have a3 : ¬ i < k := by omega
    simp [a1, a2, a3]

/-- What a '[]Section' that came in reads as. -/
def CameS (w : World) (ao : Option Addr) (n : Nat) (X : Nat → Sec) : Prop :=
  n = 0 ∨ ∃ b off, ao = some ⟨b, off, none⟩ ∧ b < w.heap.size ∧ ∀ i, i < n → ∀ j, j < 5 → w.cell? ⟨b, off + i * 5 + j, none⟩ = some (scell (X i) j)

theorem CameS.below {w w' : World} {ao : Option Addr} {n : Nat} {X : Nat → Sec} (h : CameS w ao n X) (hb : Below w.heap.size w w') : CameS w' ao n X := by
  rcases h with h | ⟨b, off, h1, h2, h3⟩
  · exact .inl h
  · exact .inr ⟨b, off, h1, Nat.lt_of_lt_of_le h2 hb.size, fun i hi j hj => (hb.cell (p := ⟨b, off + i * 5 + j, none⟩) h2).trans (h3 i hi j hj)⟩

set_option maxHeartbeats 800000 in
theorem toSectionS_some (b off n cap : Nat) (X : Nat → Sec) (w : World) (hb : b < w.heap.size) (hn : n ≤ 1048576) (hF : ∀ i, i < n → ∀ j, j < 5 → w.cell? ⟨b, off + i * 5 + j, none⟩ = some (scell (X i) j)) :
    Calls Try.prog 59 #[.slice (some ⟨b, off, none⟩) n cap] w fun e w' => e = .returned (.slice (some ⟨w.heap.size, 0, none⟩) n n) ∧ Row w' w.heap.size 93 5 n (secs X) ∧ Below w.heap.size w w' := by
  obtain ⟨i0, hi, hz0, hz1, hz2⟩ := info_parts Try.infoS
  go_enter Try.func59, Try.ntmps59
  go_wp2_with (first
    | (at_make; refine wpList_make_full _ rfl _ _ 42 rfl w.heap.size 93 i0 _ 5 Try.underlying42 hi hz0 hz1 .i64 .i64 _ _ n rfl rfl rfl rfl (by rw [hz2]; omega) (by unfold maxLen; omega) (by simp) ?_; intro w1 hown hgrow))
  have hR : Row w1 w.heap.size 93 5 n (secsTo 0 X) := (Blk.made (g := scell sec0) hown rfl rfl (fun i hi => by match i, hi with | 0, _ => rfl | 1, _ => rfl | 2, _ => rfl | 3, _ => rfl | 4, _ => rfl)).congr (fun i _ => by simp [secsTo])
  have hB : Below w.heap.size w w1 := (Below.refl _ _).grown hgrow (Nat.le_refl _) (fun k hk => by simp at hk)
  clear hown hgrow
  go_loopw [4] (fun i wr => ∃ k : Nat, k ≤ n ∧ i = .int .i64 k ∧ Below w.heap.size w wr ∧ Row wr w.heap.size 93 5 n (secsTo k X)) (fun i _ => n - (intOf i).toNat)
  case atStart => exact ⟨0, Nat.zero_le _, rfl, hB, hR⟩
  case round =>
    obtain ⟨k, hk, rfl, hbel, hrow⟩ := hrel
    clear hR hB
    by_cases hlt : k < n
    · have h0 : wr.cell? ⟨b, off + k * 5, none⟩ = some (.int .i64 (X k).told) := (hbel.cell (p := ⟨b, off + k * 5, none⟩) hb).trans (hF k hlt 0 (by omega))
      have h1 : wr.cell? ⟨b, off + k * 5 + 1, none⟩ = some (.int .i64 (X k).count) := (hbel.cell (p := ⟨b, off + k * 5 + 1, none⟩) hb).trans (hF k hlt 1 (by omega))
      have h2 : wr.cell? ⟨b, off + k * 5 + 2, none⟩ = some (.bool (X k).lost) := (hbel.cell (p := ⟨b, off + k * 5 + 2, none⟩) hb).trans (hF k hlt 2 (by omega))
      have h3 : wr.cell? ⟨b, off + k * 5 + 3, none⟩ = some (.bool (X k).sweep) := (hbel.cell (p := ⟨b, off + k * 5 + 3, none⟩) hb).trans (hF k hlt 3 (by omega))
      have h4 : wr.cell? ⟨b, off + k * 5 + 4, none⟩ = some (.int .i64 (X k).last) := (hbel.cell (p := ⟨b, off + k * 5 + 4, none⟩) hb).trans (hF k hlt 4 (by omega))
      clear hF
      go_wp2_with (first | (go_at_call 91; refine (toSection_any _ _).mono ?_; rintro e w' ⟨rfl, hb1⟩; have hrow' := hrow.below hb1 hrow.lt; have c0 := hrow'.cell0 hlt (by omega); have c1 := hrow'.cell (j := 1) hlt (by omega); have c2 := hrow'.cell (j := 2) hlt (by omega); have c3 := hrow'.cell (j := 3) hlt (by omega); have c4 := hrow'.cell (j := 4) hlt (by omega); have f0 := hrow'.frozen (k * 5); have f1 := hrow'.frozen (k * 5 + 1); have f2 := hrow'.frozen (k * 5 + 2); have f3 := hrow'.frozen (k * 5 + 3); have f4 := hrow'.frozen (k * 5 + 4)))
      go_roundw
      case rel => exact ⟨k + 1, by omega, by go_num, (((((hbel.trans (hb1.mono (Nat.le_of_lt hrow.lt))).setCell (Nat.le_refl _) _).setCell (Nat.le_refl _) _).setCell (Nat.le_refl _) _).setCell (Nat.le_refl _) _).setCell (Nat.le_refl _) _, row_step5 hrow'⟩
      case measure => simp [intOf]; omega
    · go_wp2
      go_ret
      exact ⟨rfl, hrow.congr (fun i hi j _ => by simp [secsTo]; omega), hbel⟩

theorem toSectionS_none (ao : Option Addr) (cap : Nat) (X : Nat → Sec) (w : World) :
    Calls Try.prog 59 #[.slice ao 0 cap] w fun e w' => e = .returned (.slice (some ⟨w.heap.size, 0, none⟩) 0 0) ∧ Row w' w.heap.size 93 5 0 (secs X) ∧ Below w.heap.size w w' := by
  obtain ⟨i0, hi, hz0, hz1, hz2⟩ := info_parts Try.infoS
  go_enter Try.func59, Try.ntmps59
  go_wp2_with (first
    | (at_make; refine wpList_make_full _ rfl _ _ 42 rfl w.heap.size 93 i0 _ 5 Try.underlying42 hi hz0 hz1 .i64 .i64 _ _ 0 rfl rfl rfl rfl (by rw [hz2]; omega) (by unfold maxLen; omega) (by simp) ?_; intro w1 hown hgrow))
  have hR : Row w1 w.heap.size 93 5 0 (secs X) := (Blk.made (g := scell sec0) hown rfl rfl (fun i hi => by match i, hi with | 0, _ => rfl | 1, _ => rfl | 2, _ => rfl | 3, _ => rfl | 4, _ => rfl)).congr (fun i hi => by omega)
  have hB : Below w.heap.size w w1 := (Below.refl _ _).grown hgrow (Nat.le_refl _) (fun k hk => by simp at hk)
  clear hown hgrow
  refine wp_loop_rounds 1 ?_
  rw [rounds_succ]
  go_wp2
  go_ret
  exact ⟨rfl, hR, hB⟩

theorem toSectionS_any (ao : Option Addr) (n cap : Nat) (X : Nat → Sec) (w : World) (hn : n ≤ 1048576) (h : CameS w ao n X) :
    Calls Try.prog 59 #[.slice ao n cap] w fun e w' => e = .returned (.slice (some ⟨w.heap.size, 0, none⟩) n n) ∧ Row w' w.heap.size 93 5 n (secs X) ∧ Below w.heap.size w w' := by
  rcases h with rfl | ⟨b, off, rfl, h2, h3⟩
  · exact toSectionS_none ao cap X w
  · exact toSectionS_some b off n cap X w h2 hn h3

/-- What a '[]bool' that came in reads as. -/
def CameB (w : World) (ao : Option Addr) (n : Nat) (D : Nat → Bool) : Prop :=
  n = 0 ∨ ∃ b off, ao = some ⟨b, off, none⟩ ∧ b < w.heap.size ∧ ∀ i, i < n → w.cell? ⟨b, off + i, none⟩ = some (.bool (D i))

theorem CameB.below {w w' : World} {ao : Option Addr} {n : Nat} {D : Nat → Bool} (h : CameB w ao n D) (hb : Below w.heap.size w w') : CameB w' ao n D := by
  rcases h with h | ⟨b, off, h1, h2, h3⟩
  · exact .inl h
  · exact .inr ⟨b, off, h1, Nat.lt_of_lt_of_le h2 hb.size, fun i hi => (hb.cell (p := ⟨b, off + i, none⟩) h2).trans (h3 i hi)⟩

def boolTo (k : Nat) (D : Nat → Bool) : Nat → Value := fun i => if i < k then .bool (D i) else .bool false

theorem boolTo_step (k i : Nat) (D : Nat → Bool) : (if i = k then Value.bool (D k) else boolTo k D i) = boolTo (k + 1) D i := by
  unfold boolTo
  rcases Nat.lt_trichotomy i k with h | h | h
  · rw [if_neg (by omega), if_pos h, if_pos (by omega)]
  · subst h; rw [if_pos rfl, if_pos (by omega)]
  · rw [if_neg (by omega), if_neg (by omega), if_neg (by omega)]

set_option maxHeartbeats 400000 in
theorem toBoolS_some (b off n cap : Nat) (D : Nat → Bool) (w : World) (hb : b < w.heap.size) (hn : n ≤ 1048576) (hF : ∀ i, i < n → w.cell? ⟨b, off + i, none⟩ = some (.bool (D i))) :
    Calls Try.prog 60 #[.slice (some ⟨b, off, none⟩) n cap] w fun e w' => e = .returned (.slice (some ⟨w.heap.size, 0, none⟩) n n) ∧ Blk w' w.heap.size 4 n (fun i => .bool (D i)) ∧ Below w.heap.size w w' := by
  obtain ⟨i0, hi, hz0, hz1, hz2⟩ := info_parts Try.infoB
  go_enter Try.func60, Try.ntmps60
  go_wp2_with (first
    | (at_make; refine wpList_make_full _ rfl _ _ 38 rfl w.heap.size 4 i0 _ 1 Try.underlying38 hi hz0 hz1 .i64 .i64 _ _ n rfl rfl rfl rfl (by rw [hz2]; omega) (by unfold maxLen; omega) (by simp) ?_; intro w1 hown hgrow))
  have hR : Blk w1 w.heap.size 4 n (boolTo 0 D) := by
    have := Blk.made (g := fun _ => .bool false) hown rfl rfl (fun i hi => by match i, hi with | 0, _ => rfl)
    rw [Nat.mul_one] at this
    exact this.congr (fun i _ => by simp [boolTo])
  have hB : Below w.heap.size w w1 := (Below.refl _ _).grown hgrow (Nat.le_refl _) (fun k hk => by simp at hk)
  clear hown hgrow
  go_loopw [4] (fun i wr => ∃ k : Nat, k ≤ n ∧ i = .int .i64 k ∧ Below w.heap.size w wr ∧ Blk wr w.heap.size 4 n (boolTo k D)) (fun i _ => n - (intOf i).toNat)
  case atStart => exact ⟨0, Nat.zero_le _, rfl, hB, hR⟩
  case round =>
    obtain ⟨k, hk, rfl, hbel, hrow⟩ := hrel
    clear hR hB
    by_cases hlt : k < n
    · have h0 : wr.cell? ⟨b, off + k, none⟩ = some (.bool (D k)) := (hbel.cell (p := ⟨b, off + k, none⟩) hb).trans (hF k hlt)
      have c0 := hrow.cell hlt
      have f0 := hrow.frozen k
      clear hF
      go_wp2
      go_roundw
      case rel => exact ⟨k + 1, by omega, by go_num, hbel.setCell (Nat.le_refl _) _, (hrow.set k _).congr (fun i _ => boolTo_step k i D)⟩
      case measure => simp [intOf]; omega
    · go_wp2
      go_ret
      exact ⟨rfl, hrow.congr (fun i hi => by simp [boolTo]; omega), hbel⟩

theorem toBoolS_none (ao : Option Addr) (cap : Nat) (D : Nat → Bool) (w : World) :
    Calls Try.prog 60 #[.slice ao 0 cap] w fun e w' => e = .returned (.slice (some ⟨w.heap.size, 0, none⟩) 0 0) ∧ Blk w' w.heap.size 4 0 (fun i => .bool (D i)) ∧ Below w.heap.size w w' := by
  obtain ⟨i0, hi, hz0, hz1, hz2⟩ := info_parts Try.infoB
  go_enter Try.func60, Try.ntmps60
  go_wp2_with (first
    | (at_make; refine wpList_make_full _ rfl _ _ 38 rfl w.heap.size 4 i0 _ 1 Try.underlying38 hi hz0 hz1 .i64 .i64 _ _ 0 rfl rfl rfl rfl (by rw [hz2]; omega) (by unfold maxLen; omega) (by simp) ?_; intro w1 hown hgrow))
  have hR : Blk w1 w.heap.size 4 0 (fun i => .bool (D i)) := by
    have := Blk.made (g := fun _ => .bool false) hown rfl rfl (fun i hi => by match i, hi with | 0, _ => rfl)
    exact this.congr (fun i hi => by omega)
  have hB : Below w.heap.size w w1 := (Below.refl _ _).grown hgrow (Nat.le_refl _) (fun k hk => by simp at hk)
  clear hown hgrow
  refine wp_loop_rounds 1 ?_
  rw [rounds_succ]
  go_wp2
  go_ret
  exact ⟨rfl, hR, hB⟩

theorem toBoolS_any (ao : Option Addr) (n cap : Nat) (D : Nat → Bool) (w : World) (hn : n ≤ 1048576) (h : CameB w ao n D) :
    Calls Try.prog 60 #[.slice ao n cap] w fun e w' => e = .returned (.slice (some ⟨w.heap.size, 0, none⟩) n n) ∧ Blk w' w.heap.size 4 n (fun i => .bool (D i)) ∧ Below w.heap.size w w' := by
  rcases h with rfl | ⟨b, off, rfl, h2, h3⟩
  · exact toBoolS_none ao cap D w
  · exact toBoolS_some b off n cap D w h2 hn h3

set_option maxHeartbeats 800000 in
theorem toState_any (ok : Bool) (asx ad : Option Addr) (ns cs nd cd : Nat) (X : Nat → Sec) (D : Nat → Bool) (w : World) (hs : ns ≤ 1048576) (hd : nd ≤ 1048576) (h1 : CameS w asx ns X) (h2 : CameB w ad nd D) :
    Calls Try.prog 17 #[.agg #[.bool ok, .slice asx ns cs, .slice ad nd cd]] w fun e w' => ∃ g1 g2, e = .returned (.agg #[.bool ok, .slice (some ⟨g1, 0, none⟩) ns ns, .slice (some ⟨g2, 0, none⟩) nd nd]) ∧ w.heap.size ≤ g1 ∧ w.heap.size ≤ g2 ∧ Row w' g1 93 5 ns (secs X) ∧ Blk w' g2 4 nd (fun i => .bool (D i)) ∧ Below w.heap.size w w' := by
  have k1 : ∀ w1, Below w.heap.size w w1 → CameS w1 asx ns X := fun w1 hb => h1.below hb
  have k2 : ∀ w1, Below w.heap.size w w1 → CameB w1 ad nd D := fun w1 hb => h2.below hb
  clear h1 h2
  go_enter Try.func17, Try.ntmps17
  go_wp2_with fail
  refine (toSectionS_any _ _ _ X _ hs (k1 _ (by repeat (first | exact Below.refl _ _ | assumption | refine below_alloc ?_ _ | refine Below.setCell ?_ (by first | omega | (simp; done) | (simp; omega)) _ | refine Below.alloc ?_ (by first | omega | (simp; done) | (simp; omega)) _ | refine Below.drew ?_)))).mono ?_
  rintro e w1 ⟨rfl, r1, hb1⟩
  obtain ⟨q1, q2⟩ := bcell hb1
  have B1 := below_on (show Below w.heap.size w _ from (by repeat (first | exact Below.refl _ _ | assumption | refine below_alloc ?_ _ | refine Below.setCell ?_ (by first | omega | (simp; done) | (simp; omega)) _ | refine Below.alloc ?_ (by first | omega | (simp; done) | (simp; omega)) _ | refine Below.drew ?_))) hb1
  have l1 := r1.lt
  simp only [World.size_alloc] at l1 r1 ⊢
  have la : w.heap.size + 1 < w1.heap.size := by omega
  have lb : w.heap.size + 1 + 1 < w1.heap.size := by omega
  have lc : w.heap.size < w1.heap.size := by omega
  go_wp2_with fail
  have B1' : Below w.heap.size w (w1.setCell ⟨w.heap.size + 1 + 1, 1, none⟩ (.slice (some ⟨w.heap.size + 1 + 1 + 1, 0, none⟩) ns ns)) := B1.setCell (by simp; omega) _
  refine (toBoolS_any _ _ _ D _ hd (k2 _ B1')).mono ?_
  rintro e w2 ⟨rfl, r2, hb2⟩
  have szs : (w1.setCell ⟨w.heap.size + 1 + 1, 1, none⟩ (.slice (some ⟨w.heap.size + 1 + 1 + 1, 0, none⟩) ns ns)).heap.size = w1.heap.size := by simp [World.setCell]
  rw [szs] at hb2 r2 ⊢
  have u1 : ∀ b o, b < w1.heap.size → w2.cell? ⟨b, o, none⟩ = (w1.setCell ⟨w.heap.size + 1 + 1, 1, none⟩ (.slice (some ⟨w.heap.size + 1 + 1 + 1, 0, none⟩) ns ns)).cell? ⟨b, o, none⟩ := fun b o h => hb2.cell (p := ⟨b, o, none⟩) h
  have u2 : ∀ b o, b < w1.heap.size → w2.frozen? ⟨b, o, none⟩ = (w1.setCell ⟨w.heap.size + 1 + 1, 1, none⟩ (.slice (some ⟨w.heap.size + 1 + 1 + 1, 0, none⟩) ns ns)).frozen? ⟨b, o, none⟩ := fun b o h => hb2.frozen (p := ⟨b, o, none⟩) h
  have B2 : Below w.heap.size w w2 := B1'.trans (hb2.mono (by omega))
  have R1 : Row w2 (w.heap.size + 1 + 1 + 1) 93 5 ns (secs X) := Row.below (r1.set_other (by simp) _) hb2 l1
  have hl2 := r2.lt
  clear k1 k2 hb1 hb2 B1 B1' r1
  go_wp2
  refine bodyPost_ret (v := .agg #[.bool ok, .slice (some ⟨w.heap.size + 1 + 1 + 1, 0, none⟩) ns ns, .slice (some ⟨w1.heap.size, 0, none⟩) nd nd]) (by simp [results, Try.results17, go_sem, u1, q1, la]) rfl ⟨w.heap.size + 1 + 1 + 1, w1.heap.size, rfl, by omega, by omega, ?_, ?_, ?_⟩
  · exact (((R1.set_other (by simp) _).set_other (by simp) _).set_other (by simp) _).set_other (by simp) _
  · exact (((r2.set_other (by simp; omega) _).set_other (by simp; omega) _).set_other (by simp; omega) _).set_other (by simp; omega) _
  · exact (by repeat (first | exact Below.refl _ _ | assumption | refine below_alloc ?_ _ | refine Below.setCell ?_ (by first | omega | (simp; done) | (simp; omega)) _ | refine Below.alloc ?_ (by first | omega | (simp; done) | (simp; omega)) _ | refine Below.drew ?_))

end Go.Proofs.Ytlpopfhaephfaab
