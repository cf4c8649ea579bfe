import Derived.Test.YtlpopfhaephfaaaW1
import Derived.Test.YtlpopfhaephfaaaW8
namespace Go.Proofs.Ytlpopfhaephfaaa
open Go.RowKit

/-- numbers, cell by cell -/
def ints (P : Nat → Nat → Int) (i j : Nat) : Value := .int .i64 (P i j)

theorem Try.infoP : (Try.prog.info? 103).map (fun i => (i.zero, i.size, i.bytes)) = some (some (.agg #[.int .i64 0, .int .i64 0, .int .i64 0]), 3, 24) := by kernel_rfl

theorem szPostS_any (a : Option Addr) (len cap : Nat) (left : Int) (w : World) (hl : len ≤ maxLen) (h0 : 0 ≤ left) (h1 : left ≤ 1048576) :
    Calls Try.prog 34 #[.slice a len cap, .int .i64 left] w fun e w' => e = .returned (.int .i64 (if (len : Int) ≤ left then left - len else -1)) ∧ w' = w := by
  unfold maxLen at hl
  by_cases h : (len : Int) ≤ left
  · go_enter Try.func34, Try.ntmps34
    go_wp2
    go_ret
    exact ⟨rfl, rfl⟩
  · go_enter Try.func34, Try.ntmps34
    go_wp2
    go_ret
    exact ⟨rfl, rfl⟩

set_option maxHeartbeats 400000 in
theorem toPost_any (x y z : Int) (w : World) :
    Calls Try.prog 81 #[.agg #[.int .i64 x, .int .i64 y, .int .i64 z]] w fun e w' => e = .returned (.agg #[.int .i64 x, .int .i64 y, .int .i64 z]) ∧ Below w.heap.size w w' := by
  go_enter Try.func81, Try.ntmps81
  go_wp2
  exact bodyPost_ret (v := .agg #[.int .i64 x, .int .i64 y, .int .i64 z]) (by simp [results, Try.results81, go_sem]) rfl ⟨rfl, (by repeat (first | exact Below.refl _ _ | assumption | refine below_alloc ?_ _ | refine Below.setCell ?_ (by first | omega | (simp; done) | (simp; omega)) _ | refine Below.alloc ?_ (by first | omega | (simp; done) | (simp; omega)) _ | refine Below.drew ?_))⟩

def intsTo (k : Nat) (P : Nat → Nat → Int) : Nat → Nat → Value := fun i j => if i < k then ints P i j else .int .i64 0

theorem row_step3 {w' : World} {b e n k : Nat} {P : Nat → Nat → Int} (h : Row w' b e 3 n (intsTo k P)) :
    Row (((w'.setCell ⟨b, k * 3, none⟩ (.int .i64 (P k 0))).setCell ⟨b, k * 3 + 1, none⟩ (.int .i64 (P k 1))).setCell ⟨b, k * 3 + 2, none⟩ (.int .i64 (P k 2))) b e 3 n (intsTo (k + 1) P) := by
  refine (((h.set0 (i := k) (by omega) _).set (i := k) (j := 1) (by omega) _).set (i := k) (j := 2) (by omega) _).congr fun i hi j hj => ?_
  unfold intsTo ints
  rcases Nat.lt_trichotomy i k with h1 | h1 | h1
  · have a1 : ¬ i = k := by omega
    have a2 : i < k + 1 := by omega
    simp [a1, a2, h1]
  · subst h1
    rcases (show j = 0 ∨ j = 1 ∨ j = 2 by omega) with rfl | rfl | rfl <;> simp
  · have a1 : ¬ i = k := by omega
    have a2 : ¬ i < k + 1 := by omega
    have a3 : ¬ i < k := by omega
    simp [a1, a2, a3]

/-- What a slice of three-cell structs that came in reads as. -/
def Came3 (w : World) (ao : Option Addr) (n : Nat) (P : Nat → Nat → Int) : Prop :=
  n = 0 ∨ ∃ b off, ao = some ⟨b, off, none⟩ ∧ b < w.heap.size ∧ ∀ i, i < n → ∀ j, j < 3 → w.cell? ⟨b, off + i * 3 + j, none⟩ = some (.int .i64 (P i j))

theorem Came3.below {w w' : World} {ao : Option Addr} {n : Nat} {P : Nat → Nat → Int} (h : Came3 w ao n P) (hb : Below w.heap.size w w') : Came3 w' ao n P := by
  rcases h with h | ⟨b, off, h1, h2, h3⟩
  · exact .inl h
  · exact .inr ⟨b, off, h1, Nat.lt_of_lt_of_le h2 hb.size, fun i hi j hj => (hb.cell (p := ⟨b, off + i * 3 + j, none⟩) h2).trans (h3 i hi j hj)⟩

set_option maxHeartbeats 400000 in
theorem toPostS_some (b off n cap : Nat) (P : Nat → Nat → Int) (w : World) (hb : b < w.heap.size) (hn : n ≤ 1048576) (hF : ∀ i, i < n → ∀ j, j < 3 → w.cell? ⟨b, off + i * 3 + j, none⟩ = some (.int .i64 (P i j))) :
    Calls Try.prog 36 #[.slice (some ⟨b, off, none⟩) n cap] w fun e w' => e = .returned (.slice (some ⟨w.heap.size, 0, none⟩) n n) ∧ Row w' w.heap.size 103 3 n (ints P) ∧ Below w.heap.size w w' := by
  obtain ⟨i0, hi, hz0, hz1, hz2⟩ := info_parts Try.infoP
  go_enter Try.func36, Try.ntmps36
  go_wp2_with (first
    | (at_make; refine wpList_make_full _ rfl _ _ 53 rfl w.heap.size 103 i0 _ 3 Try.underlying53 hi hz0 hz1 .i64 .i64 _ _ n rfl rfl rfl rfl (by rw [hz2]; omega) (by unfold maxLen; omega) (by simp) ?_; intro w1 hown hgrow))
  have hR : Row w1 w.heap.size 103 3 n (intsTo 0 P) := (Blk.made (g := fun _ => .int .i64 0) hown rfl rfl (fun i hi => by match i, hi with | 0, _ => rfl | 1, _ => rfl | 2, _ => rfl)).congr (fun i _ => by simp [intsTo])
  have hB : Below w.heap.size w w1 := (Below.refl _ _).grown hgrow (Nat.le_refl _) (fun k hk => by simp at hk)
  clear hown hgrow
  go_loopw [4] (fun i wr => ∃ k : Nat, k ≤ n ∧ i = .int .i64 k ∧ Below w.heap.size w wr ∧ Row wr w.heap.size 103 3 n (intsTo k P)) (fun i _ => n - (intOf i).toNat)
  case atStart => exact ⟨0, Nat.zero_le _, rfl, hB, hR⟩
  case round =>
    obtain ⟨k, hk, rfl, hbel, hrow⟩ := hrel
    clear hR hB
    by_cases hlt : k < n
    · have h0 : wr.cell? ⟨b, off + k * 3, none⟩ = some (.int .i64 (P k 0)) := (hbel.cell (p := ⟨b, off + k * 3, none⟩) hb).trans (hF k hlt 0 (by omega))
      have h1 : wr.cell? ⟨b, off + k * 3 + 1, none⟩ = some (.int .i64 (P k 1)) := (hbel.cell (p := ⟨b, off + k * 3 + 1, none⟩) hb).trans (hF k hlt 1 (by omega))
      have h2 : wr.cell? ⟨b, off + k * 3 + 2, none⟩ = some (.int .i64 (P k 2)) := (hbel.cell (p := ⟨b, off + k * 3 + 2, none⟩) hb).trans (hF k hlt 2 (by omega))
      clear hF
      go_wp2_with (first | (go_at_call 81; refine (toPost_any _ _ _ _).mono ?_; rintro e w' ⟨rfl, hb1⟩; have hrow' := hrow.below hb1 hrow.lt; have c0 := hrow'.cell0 hlt (by omega); have c1 := hrow'.cell (j := 1) hlt (by omega); have c2 := hrow'.cell (j := 2) hlt (by omega); have f0 := hrow'.frozen (k * 3); have f1 := hrow'.frozen (k * 3 + 1); have f2 := hrow'.frozen (k * 3 + 2)))
      go_roundw
      case rel => exact ⟨k + 1, by omega, by go_num, (((hbel.trans (hb1.mono (Nat.le_of_lt hrow.lt))).setCell (Nat.le_refl _) _).setCell (Nat.le_refl _) _).setCell (Nat.le_refl _) _, row_step3 hrow'⟩
      case measure => simp [intOf]; omega
    · go_wp2
      go_ret
      exact ⟨rfl, hrow.congr (fun i hi j _ => by simp [intsTo]; omega), hbel⟩

theorem toPostS_none (ao : Option Addr) (cap : Nat) (P : Nat → Nat → Int) (w : World) :
    Calls Try.prog 36 #[.slice ao 0 cap] w fun e w' => e = .returned (.slice (some ⟨w.heap.size, 0, none⟩) 0 0) ∧ Row w' w.heap.size 103 3 0 (ints P) ∧ Below w.heap.size w w' := by
  obtain ⟨i0, hi, hz0, hz1, hz2⟩ := info_parts Try.infoP
  go_enter Try.func36, Try.ntmps36
  go_wp2_with (first
    | (at_make; refine wpList_make_full _ rfl _ _ 53 rfl w.heap.size 103 i0 _ 3 Try.underlying53 hi hz0 hz1 .i64 .i64 _ _ 0 rfl rfl rfl rfl (by rw [hz2]; omega) (by unfold maxLen; omega) (by simp) ?_; intro w1 hown hgrow))
  have hR : Row w1 w.heap.size 103 3 0 (ints P) := (Blk.made (g := fun _ => .int .i64 0) hown rfl rfl (fun i hi => by match i, hi with | 0, _ => rfl | 1, _ => rfl | 2, _ => rfl)).congr (fun i hi => by omega)
  have hB : Below w.heap.size w w1 := (Below.refl _ _).grown hgrow (Nat.le_refl _) (fun k hk => by simp at hk)
  clear hown hgrow
  refine wp_loop_rounds 1 ?_
  rw [rounds_succ]
  go_wp2
  go_ret
  exact ⟨rfl, hR, hB⟩

theorem toPostS_any (ao : Option Addr) (n cap : Nat) (P : Nat → Nat → Int) (w : World) (hn : n ≤ 1048576) (h : Came3 w ao n P) :
    Calls Try.prog 36 #[.slice ao n cap] w fun e w' => e = .returned (.slice (some ⟨w.heap.size, 0, none⟩) n n) ∧ Row w' w.heap.size 103 3 n (ints P) ∧ Below w.heap.size w w' := by
  rcases h with rfl | ⟨b, off, rfl, h2, h3⟩
  · exact toPostS_none ao cap P w
  · exact toPostS_some b off n cap P w h2 hn h3

/-- What a '[]int' that came in reads as. -/
def CameI (w : World) (ao : Option Addr) (n : Nat) (Z : Nat → Int) : Prop :=
  n = 0 ∨ ∃ b off, ao = some ⟨b, off, none⟩ ∧ b < w.heap.size ∧ ∀ i, i < n → w.cell? ⟨b, off + i, none⟩ = some (.int .i64 (Z i))

theorem CameI.below {w w' : World} {ao : Option Addr} {n : Nat} {Z : Nat → Int} (h : CameI w ao n Z) (hb : Below w.heap.size w w') : CameI w' ao n Z := by
  rcases h with h | ⟨b, off, h1, h2, h3⟩
  · exact .inl h
  · exact .inr ⟨b, off, h1, Nat.lt_of_lt_of_le h2 hb.size, fun i hi => (hb.cell (p := ⟨b, off + i, none⟩) h2).trans (h3 i hi)⟩

def intTo (k : Nat) (Z : Nat → Int) : Nat → Value := fun i => if i < k then .int .i64 (Z i) else .int .i64 0

theorem intTo_step (k i : Nat) (Z : Nat → Int) : (if i = k then Value.int .i64 (Z k) else intTo k Z i) = intTo (k + 1) Z i := by
  unfold intTo
  rcases Nat.lt_trichotomy i k with h | h | h
  · rw [if_neg (by omega), if_pos h, if_pos (by omega)]
  · subst h; rw [if_pos rfl, if_pos (by omega)]
  · rw [if_neg (by omega), if_neg (by omega), if_neg (by omega)]

set_option maxHeartbeats 400000 in
theorem toIntS_some (b off n cap : Nat) (Z : Nat → Int) (w : World) (hb : b < w.heap.size) (hn : n ≤ 1048576) (hF : ∀ i, i < n → w.cell? ⟨b, off + i, none⟩ = some (.int .i64 (Z i))) :
    Calls Try.prog 37 #[.slice (some ⟨b, off, none⟩) n cap] w fun e w' => e = .returned (.slice (some ⟨w.heap.size, 0, none⟩) n n) ∧ Blk w' w.heap.size 3 n (fun i => .int .i64 (Z i)) ∧ Below w.heap.size w w' := by
  obtain ⟨i0, hi, hz0, hz1, hz2⟩ := info_parts Try.infoI
  go_enter Try.func37, Try.ntmps37
  go_wp2_with (first
    | (at_make; refine wpList_make_full _ rfl _ _ 48 rfl w.heap.size 3 i0 _ 1 Try.underlying48 hi hz0 hz1 .i64 .i64 _ _ n rfl rfl rfl rfl (by rw [hz2]; omega) (by unfold maxLen; omega) (by simp) ?_; intro w1 hown hgrow))
  have hR : Blk w1 w.heap.size 3 n (intTo 0 Z) := by
    have := Blk.made (g := fun _ => .int .i64 0) hown rfl rfl (fun i hi => by match i, hi with | 0, _ => rfl)
    rw [Nat.mul_one] at this
    exact this.congr (fun i _ => by simp [intTo])
  have hB : Below w.heap.size w w1 := (Below.refl _ _).grown hgrow (Nat.le_refl _) (fun k hk => by simp at hk)
  clear hown hgrow
  go_loopw [4] (fun i wr => ∃ k : Nat, k ≤ n ∧ i = .int .i64 k ∧ Below w.heap.size w wr ∧ Blk wr w.heap.size 3 n (intTo k Z)) (fun i _ => n - (intOf i).toNat)
  case atStart => exact ⟨0, Nat.zero_le _, rfl, hB, hR⟩
  case round =>
    obtain ⟨k, hk, rfl, hbel, hrow⟩ := hrel
    clear hR hB
    by_cases hlt : k < n
    · have h0 : wr.cell? ⟨b, off + k, none⟩ = some (.int .i64 (Z k)) := (hbel.cell (p := ⟨b, off + k, none⟩) hb).trans (hF k hlt)
      have c0 := hrow.cell hlt
      have f0 := hrow.frozen k
      clear hF
      go_wp2
      go_roundw
      case rel => exact ⟨k + 1, by omega, by go_num, hbel.setCell (Nat.le_refl _) _, (hrow.set k _).congr (fun i _ => intTo_step k i Z)⟩
      case measure => simp [intOf]; omega
    · go_wp2
      go_ret
      exact ⟨rfl, hrow.congr (fun i hi => by simp [intTo]; omega), hbel⟩

theorem toIntS_none (ao : Option Addr) (cap : Nat) (Z : Nat → Int) (w : World) :
    Calls Try.prog 37 #[.slice ao 0 cap] w fun e w' => e = .returned (.slice (some ⟨w.heap.size, 0, none⟩) 0 0) ∧ Blk w' w.heap.size 3 0 (fun i => .int .i64 (Z i)) ∧ Below w.heap.size w w' := by
  obtain ⟨i0, hi, hz0, hz1, hz2⟩ := info_parts Try.infoI
  go_enter Try.func37, Try.ntmps37
  go_wp2_with (first
    | (at_make; refine wpList_make_full _ rfl _ _ 48 rfl w.heap.size 3 i0 _ 1 Try.underlying48 hi hz0 hz1 .i64 .i64 _ _ 0 rfl rfl rfl rfl (by rw [hz2]; omega) (by unfold maxLen; omega) (by simp) ?_; intro w1 hown hgrow))
  have hR : Blk w1 w.heap.size 3 0 (fun i => .int .i64 (Z i)) := by
    have := Blk.made (g := fun _ => .int .i64 0) hown rfl rfl (fun i hi => by match i, hi with | 0, _ => rfl)
    exact this.congr (fun i hi => by omega)
  have hB : Below w.heap.size w w1 := (Below.refl _ _).grown hgrow (Nat.le_refl _) (fun k hk => by simp at hk)
  clear hown hgrow
  refine wp_loop_rounds 1 ?_
  rw [rounds_succ]
  go_wp2
  go_ret
  exact ⟨rfl, hR, hB⟩

theorem toIntS_any (ao : Option Addr) (n cap : Nat) (Z : Nat → Int) (w : World) (hn : n ≤ 1048576) (h : CameI w ao n Z) :
    Calls Try.prog 37 #[.slice ao n cap] w fun e w' => e = .returned (.slice (some ⟨w.heap.size, 0, none⟩) n n) ∧ Blk w' w.heap.size 3 n (fun i => .int .i64 (Z i)) ∧ Below w.heap.size w w' := by
  rcases h with rfl | ⟨b, off, rfl, h2, h3⟩
  · exact toIntS_none ao cap Z w
  · exact toIntS_some b off n cap Z w h2 hn h3

end Go.Proofs.Ytlpopfhaephfaaa
