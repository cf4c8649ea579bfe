import Derived.Test.YtlpopfhaephfaabST3
import Derived.Test.YtlpopfhaephfaabW3
namespace Go.Proofs.Ytlpopfhaephfaab
open Go.RowKit

theorem lok_range {S : Int} {n : Nat} {F T : Nat → Int} (h : lokZ S n F T = 0) : 1 ≤ S ∧ S ≤ 60 ∧ n ≤ 120 := by
  unfold lokZ at h
  by_cases h1 : S < 1 ∨ 60 < S ∨ 120 < n
  · rw [if_pos h1] at h; omega
  · omega

theorem lok_sides {S : Int} {n : Nat} {F T : Nat → Int} (h : lokZ S n F T = 0) : ∀ i, i < n → -1 ≤ F i ∧ F i ≤ S - 1 ∧ -1 ≤ T i ∧ T i ≤ S - 1 ∧ F i ≠ T i := by
  intro i hi
  by_cases h1 : S < 1 ∨ 60 < S ∨ 120 < n
  · rw [lokZ_one h1] at h; omega
  · by_cases hb : badB S (F i) (T i) = true
    · rw [lokZ_two h1 hi hb] at h; omega
    · simp only [badB, Bool.or_eq_true, Bool.not_eq_true', Bool.and_eq_false_iff, decide_eq_true_eq, decide_eq_false_iff_not] at hb
      omega

theorem made_secs (ns : Nat) : ∃ C : Array Value, C.size = ns * 5 ∧ (∀ i, i < ns * 5 → C[i]? = some (scell sec0 (i % 5))) ∧ ∀ W : World, ns ≤ 1048576 → (Instr.makeSlice 42 (.int .i64 (ns : Int)) (.int .i64 (ns : Int))).run Try.prog W = .ok (.slice (some ⟨W.heap.size, 0, none⟩) ns ns) (W.alloc (.cells C 93)) := by
  obtain ⟨i0, hi, hz0, hz1, hz2⟩ := info_parts Try.infoS
  refine ⟨madeCells (Value.cells (.agg #[.int .i64 0, .int .i64 0, .bool false, .bool false, .int .i64 0])) (ns * 5), size_madeCells _ _, fun i hi => ?_, fun W hn => ?_⟩
  · have h5 : i % 5 < 5 := Nat.mod_lt _ (by omega)
    have e : (Value.cells (.agg #[.int .i64 0, .int .i64 0, .bool false, .bool false, .int .i64 0])) = #[.int .i64 0, .int .i64 0, .bool false, .bool false, .int .i64 0] := rfl
    simp only [madeCells, e, List.size_toArray, List.length_cons, List.length_nil, Array.getElem?_map, Array.getElem?_range, hi, if_true, Option.map_some, Nat.zero_add, Nat.reduceAdd]
    generalize i % 5 = j at *
    match j, h5 with | 0, _ => rfl | 1, _ => rfl | 2, _ => rfl | 3, _ => rfl | 4, _ => rfl
  · have := run_make (P := Try.prog) W 42 93 i0 _ Try.underlying42 hi hz0 .i64 .i64 (ns : Int) (ns : Int) (by omega) (by omega) (by rw [hz2]; omega) (by omega)
    rw [hz1] at this
    simpa using this

theorem made_bools (n : Nat) : ∃ C : Array Value, C.size = n ∧ (∀ i, i < n → C[i]? = some (.bool false)) ∧ ∀ W : World, n ≤ 1048576 → (Instr.makeSlice 38 (.int .i64 (n : Int)) (.int .i64 (n : Int))).run Try.prog W = .ok (.slice (some ⟨W.heap.size, 0, none⟩) n n) (W.alloc (.cells C 4)) := by
  obtain ⟨i0, hi, hz0, hz1, hz2⟩ := info_parts Try.infoB
  refine ⟨madeCells (Value.cells (.bool false)) n, size_madeCells _ _, fun i hi => ?_, fun W hn => ?_⟩
  · have e : Value.cells (.bool false) = #[.bool false] := rfl
    simp [madeCells, e, hi, Nat.mod_one]
  · have := run_make (P := Try.prog) W 38 4 i0 _ Try.underlying38 hi hz0 .i64 .i64 (n : Int) (n : Int) (by omega) (by omega) (by rw [hz2]; omega) (by omega)
    rw [hz1] at this
    simpa using this

/-- What Begin answers. -/
def BegF (w w' : World) (v : Value) (S : Int) (n : Nat) (ok : Bool) : Prop := StF w' w.heap.size w'.heap.size v ok (if ok then S.toNat else 0) (if ok then n else 0) (fun _ => sec0) (fun _ => false)

theorem st_cells {W : World} {b : Nat} {f : Nat → Value} (h : Blk W b 44 3 f) (x y z : Value) (o1 o2 : Obj) :
    ((((((W.setCell ⟨b, 0, none⟩ x).setCell ⟨b, 1, none⟩ y).setCell ⟨b, 2, none⟩ z).alloc o1).alloc o2).drew).cell? ⟨b, 0, none⟩ = some x ∧ ((((((W.setCell ⟨b, 0, none⟩ x).setCell ⟨b, 1, none⟩ y).setCell ⟨b, 2, none⟩ z).alloc o1).alloc o2).drew).cell? ⟨b, 1, none⟩ = some y ∧ ((((((W.setCell ⟨b, 0, none⟩ x).setCell ⟨b, 1, none⟩ y).setCell ⟨b, 2, none⟩ z).alloc o1).alloc o2).drew).cell? ⟨b, 2, none⟩ = some z := by
  have k := ((((((h.set 0 x).set 1 y).set 2 z).alloc o1).alloc o2).drew)
  exact ⟨k.cell (by omega), k.cell (by omega), k.cell (by omega)⟩

theorem begin_end1 {w W : World} {k ns n : Nat} {C1 C2 : Array Value} (hk : W.heap.size = k) (B : Below w.heap.size w W) (z1 : C1.size = ns * 5) (E1 : ∀ i, i < ns * 5 → C1[i]? = some (scell sec0 (i % 5))) (z2 : C2.size = n) (E2 : ∀ i, i < n → C2[i]? = some (.bool false)) :
    BegF w ((W.alloc (.cells C1 93)).alloc (.cells C2 4)).drew (.agg #[.bool true, .slice (some ⟨k, 0, none⟩) ns ns, .slice (some ⟨k + 1, 0, none⟩) n n]) (ns : Int) n true ∧ Below w.heap.size w ((W.alloc (.cells C1 93)).alloc (.cells C2 4)).drew := by
  subst hk
  have hb := B.size
  have b1 := (Blk.new W C1 93 (fun i => scell sec0 (i % 5)) (fun i hi => E1 i (by omega))).alloc (.cells C2 4)
  have b2 := Blk.new (W.alloc (.cells C1 93)) C2 4 (fun _ => .bool false) (fun i hi => E2 i (by omega))
  rw [World.size_alloc] at b2
  refine ⟨⟨_, _, rfl, ⟨_, _, rfl, .inr ⟨W.heap.size, C1.size, _, rfl, hb, by simp; omega, by simp; omega, b1, fun i _ j hj => ?_⟩⟩, ⟨_, _, rfl, .inr ⟨W.heap.size + 1, C2.size, _, rfl, by omega, by simp, by simp; omega, b2, fun i _ j hj => rfl⟩⟩⟩, (below_alloc (below_alloc B _) _).drew⟩
  simp only [secs, idx_mod hj]

theorem begin_end2 {w W : World} {k ns n : Nat} {C1 C2 : Array Value} (hk : W.heap.size = k) (B : Below w.heap.size w W) (z1 : C1.size = ns * 5) (E1 : ∀ i, i < ns * 5 → C1[i]? = some (scell sec0 (i % 5))) (z2 : C2.size = n) (E2 : ∀ i, i < n → C2[i]? = some (.bool false)) :
    BegF w ((W.alloc (.cells C2 4)).alloc (.cells C1 93)).drew (.agg #[.bool true, .slice (some ⟨k + 1, 0, none⟩) ns ns, .slice (some ⟨k, 0, none⟩) n n]) (ns : Int) n true ∧ Below w.heap.size w ((W.alloc (.cells C2 4)).alloc (.cells C1 93)).drew := by
  subst hk
  have hb := B.size
  have b1 := (Blk.new W C2 4 (fun _ => .bool false) (fun i hi => E2 i (by omega))).alloc (.cells C1 93)
  have b2 := Blk.new (W.alloc (.cells C2 4)) C1 93 (fun i => scell sec0 (i % 5)) (fun i hi => E1 i (by omega))
  rw [World.size_alloc] at b2
  refine ⟨⟨_, _, rfl, ⟨_, _, rfl, .inr ⟨W.heap.size + 1, C1.size, _, rfl, by omega, by simp, by simp; omega, b2, fun i _ j hj => ?_⟩⟩, ⟨_, _, rfl, .inr ⟨W.heap.size, C2.size, _, rfl, hb, by simp; omega, by simp; omega, b1, fun i _ j hj => rfl⟩⟩⟩, (below_alloc (below_alloc B _) _).drew⟩
  simp only [secs, idx_mod hj]

set_option maxHeartbeats 1000000 in
theorem specBegin_bad (S : Int) (g n : Nat) (F T : Nat → Int) (w : World) (hrow : Row w g 88 2 n (two F T)) (hl : (lokZ S n F T == 0) = false) :
    Calls Try.prog 74 #[.agg #[.int .i64 S, .slice (some ⟨g, 0, none⟩) n n]] w fun e w' => ∃ v, e = .returned v ∧ BegF w w' v S n false ∧ Below w.heap.size w w' := by
  have hl' : (lokZ S n F T != 0) = true := by simpa [bne] using hl
  go_enter Try.func74, Try.ntmps74
  go_wp2_with fail
  refine (specLayoutOk_any _ _ _ F T _ ((hrow.alloc _).alloc _)).mono ?_
  rintro e w1 ⟨rfl, hb1⟩
  obtain ⟨q1, q2⟩ := bcell hb1
  have B1 := below_on (show Below w.heap.size w _ from (by repeat (first | exact Below.refl _ _ | assumption | refine below_alloc ?_ _ | refine Below.setCell ?_ (by first | omega | (simp; done) | (simp; omega)) _ | refine Below.alloc ?_ (by first | omega | (simp; done) | (simp; omega)) _ | refine Below.drew ?_))) hb1
  have l1 := hb1.size
  simp only [World.size_alloc] at l1
  go_wp2
  refine bodyPost_ret (v := .agg #[.bool false, .slice none 0 0, .slice none 0 0]) (by simp [results, Try.results74, go_sem, q1]) rfl ⟨_, rfl, ⟨_, _, rfl, ⟨none, 0, rfl, .inl rfl⟩, ⟨none, 0, rfl, .inl rfl⟩⟩, ?_⟩
  exact ((B1.setCell (by first | omega | (simp; done) | (simp; omega)) _).setCell (by first | omega | (simp; done) | (simp; omega)) _).setCell (by first | omega | (simp; done) | (simp; omega)) _

set_option maxHeartbeats 1000000 in
theorem specBegin_ok (S : Int) (g n : Nat) (F T : Nat → Int) (w : World) (hrow : Row w g 88 2 n (two F T)) (hl : lokZ S n F T = 0) :
    Calls Try.prog 74 #[.agg #[.int .i64 S, .slice (some ⟨g, 0, none⟩) n n]] w fun e w' => ∃ v, e = .returned v ∧ BegF w w' v S n true ∧ Below w.heap.size w w' := by
  obtain ⟨s1, s2, s3⟩ := lok_range hl
  obtain ⟨ns, rfl⟩ : ∃ ns : Nat, S = (ns : Int) := ⟨S.toNat, by omega⟩
  obtain ⟨C1, z1, e1, m1⟩ := made_secs ns
  obtain ⟨C2, z2, e2, m2⟩ := made_bools n
  have m1' := fun W => m1 W (by omega)
  have m2' := fun W => m2 W (by omega)
  have E1 : Hid (∀ i, i < ns * 5 → C1[i]? = some (scell sec0 (i % 5))) := e1
  have E2 : Hid (∀ i, i < n → C2[i]? = some (.bool false)) := e2
  clear m1 m2 e1 e2
  go_enter Try.func74, Try.ntmps74
  go_wp2_with fail
  refine (specLayoutOk_any _ _ _ F T _ ((hrow.alloc _).alloc _)).mono ?_
  rintro e w1 ⟨rfl, hb1⟩
  have B1 := below_on (show Below w.heap.size w _ from (by repeat (first | exact Below.refl _ _ | assumption | refine below_alloc ?_ _ | refine Below.setCell ?_ (by first | omega | (simp; done) | (simp; omega)) _ | refine Below.alloc ?_ (by first | omega | (simp; done) | (simp; omega)) _ | refine Below.drew ?_))) hb1
  have l1 := hb1.size
  simp only [World.size_alloc] at l1
  rw [hl]
  have d0 : w1.cell? ⟨w.heap.size, 0, none⟩ = some (.int .i64 (ns : Int)) := (hb1.cell (p := ⟨w.heap.size, 0, none⟩) (by first | omega | (simp; done) | (simp; omega))).trans (by simp)
  have d1 : w1.cell? ⟨w.heap.size, 1, none⟩ = some (.slice (some ⟨g, 0, none⟩) n n) := (hb1.cell (p := ⟨w.heap.size, 1, none⟩) (by first | omega | (simp; done) | (simp; omega))).trans (by simp)
  have hB := (Blk.lay3 (w.alloc (.cells #[.int .i64 (ns : Int), .slice (some ⟨g, 0, none⟩) n n] 31)) (.bool false) (.slice none 0 0) (.slice none 0 0) 44).on hb1
  rw [World.size_alloc] at hB
  have d2 : w1.cell? ⟨w.heap.size + 1, 0, none⟩ = some (.bool false) := (hb1.cell (p := ⟨w.heap.size + 1, 0, none⟩) (by first | omega | (simp; done) | (simp; omega))).trans (by simp)
  have d3 : w1.cell? ⟨w.heap.size + 1, 1, none⟩ = some (.slice none 0 0) := (hb1.cell (p := ⟨w.heap.size + 1, 1, none⟩) (by first | omega | (simp; done) | (simp; omega))).trans (by simp)
  have d4 : w1.cell? ⟨w.heap.size + 1, 2, none⟩ = some (.slice none 0 0) := (hb1.cell (p := ⟨w.heap.size + 1, 2, none⟩) (by first | omega | (simp; done) | (simp; omega))).trans (by simp)
  have f0 : w1.frozen? ⟨w.heap.size + 1, 0, none⟩ = false := (hb1.frozen (p := ⟨w.heap.size + 1, 0, none⟩) (by first | omega | (simp; done) | (simp; omega))).trans (by simp)
  have f1 : w1.frozen? ⟨w.heap.size + 1, 1, none⟩ = false := (hb1.frozen (p := ⟨w.heap.size + 1, 1, none⟩) (by first | omega | (simp; done) | (simp; omega))).trans (by simp)
  have f2 : w1.frozen? ⟨w.heap.size + 1, 2, none⟩ = false := (hb1.frozen (p := ⟨w.heap.size + 1, 2, none⟩) (by first | omega | (simp; done) | (simp; omega))).trans (by simp)
  have la : w.heap.size + 1 < w1.heap.size := by omega
  have lb : w.heap.size < w1.heap.size := by omega
  clear hb1
  go_wp2_with fail
  go_region
  · go_wp2
    obtain ⟨r0, r1, r2⟩ := st_cells hB (.bool true) (.slice (some ⟨w1.heap.size, 0, none⟩) ns ns) (.slice (some ⟨w1.heap.size + 1, 0, none⟩) n n) (.cells C1 93) (.cells C2 4)
    exact bodyPost_ret (v := .agg #[.bool true, .slice (some ⟨w1.heap.size, 0, none⟩) ns ns, .slice (some ⟨w1.heap.size + 1, 0, none⟩) n n]) (by simp only [results, Try.results74]; simp [go_sem, r0, r1, r2]) rfl ⟨_, rfl, begin_end1 (by simp [World.setCell]) (((B1.setCell (by first | omega | (simp; done) | (simp; omega)) _).setCell (by first | omega | (simp; done) | (simp; omega)) _).setCell (by first | omega | (simp; done) | (simp; omega)) _) z1 E1 z2 E2⟩
  · go_wp2
    obtain ⟨r0, r1, r2⟩ := st_cells hB (.bool true) (.slice (some ⟨w1.heap.size + 1, 0, none⟩) ns ns) (.slice (some ⟨w1.heap.size, 0, none⟩) n n) (.cells C2 4) (.cells C1 93)
    exact bodyPost_ret (v := .agg #[.bool true, .slice (some ⟨w1.heap.size + 1, 0, none⟩) ns ns, .slice (some ⟨w1.heap.size, 0, none⟩) n n]) (by simp only [results, Try.results74]; simp [go_sem, r0, r1, r2]) rfl ⟨_, rfl, begin_end2 (by simp [World.setCell]) (((B1.setCell (by first | omega | (simp; done) | (simp; omega)) _).setCell (by first | omega | (simp; done) | (simp; omega)) _).setCell (by first | omega | (simp; done) | (simp; omega)) _) z1 E1 z2 E2⟩

set_option maxHeartbeats 1000000 in
theorem implBegin_bad (S : Int) (g n : Nat) (F T : Nat → Int) (w : World) (hrow : Row w g 88 2 n (two F T)) (hl : (lokZ S n F T == 0) = false) :
    Calls Try.prog 76 #[.agg #[.int .i64 S, .slice (some ⟨g, 0, none⟩) n n]] w fun e w' => ∃ v, e = .returned v ∧ BegF w w' v S n false ∧ Below w.heap.size w w' := by
  have hl' : (lokZ S n F T != 0) = true := by simpa [bne] using hl
  go_enter Try.func76, Try.ntmps76
  go_wp2_with fail
  refine (implLayoutOk_any _ _ _ F T _ ((hrow.alloc _).alloc _)).mono ?_
  rintro e w1 ⟨rfl, hb1⟩
  obtain ⟨q1, q2⟩ := bcell hb1
  have B1 := below_on (show Below w.heap.size w _ from (by repeat (first | exact Below.refl _ _ | assumption | refine below_alloc ?_ _ | refine Below.setCell ?_ (by first | omega | (simp; done) | (simp; omega)) _ | refine Below.alloc ?_ (by first | omega | (simp; done) | (simp; omega)) _ | refine Below.drew ?_))) hb1
  have l1 := hb1.size
  simp only [World.size_alloc] at l1
  go_wp2
  refine bodyPost_ret (v := .agg #[.bool false, .slice none 0 0, .slice none 0 0]) (by simp [results, Try.results76, go_sem, q1]) rfl ⟨_, rfl, ⟨_, _, rfl, ⟨none, 0, rfl, .inl rfl⟩, ⟨none, 0, rfl, .inl rfl⟩⟩, ?_⟩
  exact ((B1.setCell (by first | omega | (simp; done) | (simp; omega)) _).setCell (by first | omega | (simp; done) | (simp; omega)) _).setCell (by first | omega | (simp; done) | (simp; omega)) _

set_option maxHeartbeats 1000000 in
theorem implBegin_ok (S : Int) (g n : Nat) (F T : Nat → Int) (w : World) (hrow : Row w g 88 2 n (two F T)) (hl : lokZ S n F T = 0) :
    Calls Try.prog 76 #[.agg #[.int .i64 S, .slice (some ⟨g, 0, none⟩) n n]] w fun e w' => ∃ v, e = .returned v ∧ BegF w w' v S n true ∧ Below w.heap.size w w' := by
  obtain ⟨s1, s2, s3⟩ := lok_range hl
  obtain ⟨ns, rfl⟩ : ∃ ns : Nat, S = (ns : Int) := ⟨S.toNat, by omega⟩
  obtain ⟨C1, z1, e1, m1⟩ := made_secs ns
  obtain ⟨C2, z2, e2, m2⟩ := made_bools n
  have m1' := fun W => m1 W (by omega)
  have m2' := fun W => m2 W (by omega)
  have E1 : Hid (∀ i, i < ns * 5 → C1[i]? = some (scell sec0 (i % 5))) := e1
  have E2 : Hid (∀ i, i < n → C2[i]? = some (.bool false)) := e2
  clear m1 m2 e1 e2
  go_enter Try.func76, Try.ntmps76
  go_wp2_with fail
  refine (implLayoutOk_any _ _ _ F T _ ((hrow.alloc _).alloc _)).mono ?_
  rintro e w1 ⟨rfl, hb1⟩
  have B1 := below_on (show Below w.heap.size w _ from (by repeat (first | exact Below.refl _ _ | assumption | refine below_alloc ?_ _ | refine Below.setCell ?_ (by first | omega | (simp; done) | (simp; omega)) _ | refine Below.alloc ?_ (by first | omega | (simp; done) | (simp; omega)) _ | refine Below.drew ?_))) hb1
  have l1 := hb1.size
  simp only [World.size_alloc] at l1
  rw [hl]
  have d0 : w1.cell? ⟨w.heap.size, 0, none⟩ = some (.int .i64 (ns : Int)) := (hb1.cell (p := ⟨w.heap.size, 0, none⟩) (by first | omega | (simp; done) | (simp; omega))).trans (by simp)
  have d1 : w1.cell? ⟨w.heap.size, 1, none⟩ = some (.slice (some ⟨g, 0, none⟩) n n) := (hb1.cell (p := ⟨w.heap.size, 1, none⟩) (by first | omega | (simp; done) | (simp; omega))).trans (by simp)
  have hB := (Blk.lay3 (w.alloc (.cells #[.int .i64 (ns : Int), .slice (some ⟨g, 0, none⟩) n n] 31)) (.bool false) (.slice none 0 0) (.slice none 0 0) 44).on hb1
  rw [World.size_alloc] at hB
  have d2 : w1.cell? ⟨w.heap.size + 1, 0, none⟩ = some (.bool false) := (hb1.cell (p := ⟨w.heap.size + 1, 0, none⟩) (by first | omega | (simp; done) | (simp; omega))).trans (by simp)
  have d3 : w1.cell? ⟨w.heap.size + 1, 1, none⟩ = some (.slice none 0 0) := (hb1.cell (p := ⟨w.heap.size + 1, 1, none⟩) (by first | omega | (simp; done) | (simp; omega))).trans (by simp)
  have d4 : w1.cell? ⟨w.heap.size + 1, 2, none⟩ = some (.slice none 0 0) := (hb1.cell (p := ⟨w.heap.size + 1, 2, none⟩) (by first | omega | (simp; done) | (simp; omega))).trans (by simp)
  have f0 : w1.frozen? ⟨w.heap.size + 1, 0, none⟩ = false := (hb1.frozen (p := ⟨w.heap.size + 1, 0, none⟩) (by first | omega | (simp; done) | (simp; omega))).trans (by simp)
  have f1 : w1.frozen? ⟨w.heap.size + 1, 1, none⟩ = false := (hb1.frozen (p := ⟨w.heap.size + 1, 1, none⟩) (by first | omega | (simp; done) | (simp; omega))).trans (by simp)
  have f2 : w1.frozen? ⟨w.heap.size + 1, 2, none⟩ = false := (hb1.frozen (p := ⟨w.heap.size + 1, 2, none⟩) (by first | omega | (simp; done) | (simp; omega))).trans (by simp)
  have la : w.heap.size + 1 < w1.heap.size := by omega
  have lb : w.heap.size < w1.heap.size := by omega
  clear hb1
  go_wp2_with fail
  go_region
  · go_wp2
    obtain ⟨r0, r1, r2⟩ := st_cells hB (.bool true) (.slice (some ⟨w1.heap.size, 0, none⟩) ns ns) (.slice (some ⟨w1.heap.size + 1, 0, none⟩) n n) (.cells C1 93) (.cells C2 4)
    exact bodyPost_ret (v := .agg #[.bool true, .slice (some ⟨w1.heap.size, 0, none⟩) ns ns, .slice (some ⟨w1.heap.size + 1, 0, none⟩) n n]) (by simp only [results, Try.results76]; simp [go_sem, r0, r1, r2]) rfl ⟨_, rfl, begin_end1 (by simp [World.setCell]) (((B1.setCell (by first | omega | (simp; done) | (simp; omega)) _).setCell (by first | omega | (simp; done) | (simp; omega)) _).setCell (by first | omega | (simp; done) | (simp; omega)) _) z1 E1 z2 E2⟩
  · go_wp2
    obtain ⟨r0, r1, r2⟩ := st_cells hB (.bool true) (.slice (some ⟨w1.heap.size + 1, 0, none⟩) ns ns) (.slice (some ⟨w1.heap.size, 0, none⟩) n n) (.cells C2 4) (.cells C1 93)
    exact bodyPost_ret (v := .agg #[.bool true, .slice (some ⟨w1.heap.size + 1, 0, none⟩) ns ns, .slice (some ⟨w1.heap.size, 0, none⟩) n n]) (by simp only [results, Try.results76]; simp [go_sem, r0, r1, r2]) rfl ⟨_, rfl, begin_end2 (by simp [World.setCell]) (((B1.setCell (by first | omega | (simp; done) | (simp; omega)) _).setCell (by first | omega | (simp; done) | (simp; omega)) _).setCell (by first | omega | (simp; done) | (simp; omega)) _) z1 E1 z2 E2⟩

end Go.Proofs.Ytlpopfhaephfaab
