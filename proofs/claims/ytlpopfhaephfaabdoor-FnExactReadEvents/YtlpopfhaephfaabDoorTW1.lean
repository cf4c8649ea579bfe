import Derived.Test.YtlpopfhaephfaabDoorTX3
import Derived.Lib.QuietBelow
import Derived.BigQuiet
import Derived.Deep.Cut
namespace Go.Proofs.YtlpopfhaephfaabDoor
open Go.RowKit

set_option maxRecDepth 100000 in
theorem l4decimal_any (n : Int) (h0 : 0 ≤ n) (h1 : n ≤ 1000000) (w : World) :
    Calls Tryd.prog 53 #[.int .i64 n] w fun e w' => e = .returned (.string ⟨(Lib.itoa n).toArray⟩) ∧ Below w.heap.size w w' := by
  rcases (show n = 0 ∨ 0 < n by omega) with rfl | hp
  · rw [show Lib.itoa 0 = [48] from by decide +kernel]
    go_enter Tryd.func53, Tryd.ntmps53
    go_wp2
    go_ret
    exact ⟨rfl, Below.refl _ _⟩
  · obtain ⟨u, rfl⟩ : ∃ u : Nat, n = (u : Int) := ⟨n.toNat, by omega⟩
    have hu : 0 < u := by omega
    have e0 : Lib.itoa (u : Int) = decD u := itoa_dec hu
    have hlen := Lib.itoa_length_le (u : Int) (by omega) (by omega)
    rw [e0] at hlen ⊢
    have n0 : ¬ ((u : Int) = 0) := by omega
    have n1 : ¬ ((u : Int) < 0) := by omega
    have hlen : Hid ((decD u).length ≤ 21) := hlen
    clear e0 hu hp h0
    go_enter Tryd.func53, Tryd.ntmps53
    go_wp2
    go_loopw [0, 4] (fun x o wr => ∃ (k : Nat) (l : List UInt8), x = .int .i64 (k : Int) ∧ o = .string ⟨l.toArray⟩ ∧ k ≤ u ∧ decD k ++ l = decD u ∧ Below w.heap.size w wr) (fun x _ _ => (intOf x).toNat)
    case atStart => exact ⟨u, [], rfl, rfl, Nat.le_refl _, by simp, Below.refl _ _⟩
    case round =>
      obtain ⟨k, l, rfl, rfl, hk, hl, hb⟩ := hrel
      rename World => wr
      have hll : l.length ≤ 21 := by have := congrArg List.length hl; have := hlen.out; simp at *; omega
      rcases Nat.eq_zero_or_pos k with rfl | hkp
      · have hz : ¬ (0 : Int) < 0 := by omega
        have hl : Hid _ := hl
        go_wp2
        go_ret
        have e1 := hl.out
        simp only [decD, if_true, List.nil_append] at e1
        exact ⟨by rw [e1]; rfl, hb⟩
      · have hz : (0 : Int) < (k : Int) := by omega
        obtain ⟨c, hc⟩ : ∃ c, UInt8.ofNat (48 + k % 10) = c := ⟨_, rfl⟩
        have hcn : (c.toNat : Int) = 48 + (k : Int) % 10 := by
          rw [← hc, UInt8.toNat_ofNat']
          omega
        have hcv : (convert 63 9 (.slice (some ⟨wr.heap.size, 0, none⟩) 1 1)).run Tryd.prog (wr.alloc (.cells #[.int .u8 (48 + (k : Int) % 10)] 5)) = .ok (.string ⟨[c].toArray⟩) (wr.alloc (.cells #[.int .u8 (48 + (k : Int) % 10)] 5)) :=
          run_convert_bytes_back _ _ _ 5 ⟨wr.heap.size, 0, none⟩ 1 [c] Tryd.underlying63 Tryd.underlying5 Tryd.underlying9 (fun j hj => by
            obtain rfl : j = 0 := by simpa using hj
            show (wr.alloc _).cell? ⟨wr.heap.size, 0 + 0, none⟩ = _
            simp [hcn])
        have hadd : ∀ W : World, (Op.stringOp .add ⟨[c].toArray⟩ ⟨l.toArray⟩).run Tryd.prog W = .ok (.string ⟨(c :: l).toArray⟩) W := fun W => run_string_add_lists W [c] l (by simp) (by omega)
        have hl2 : Hid (decD (k / 10) ++ c :: l = decD u) := by
          have := decD_step hkp
          rw [this, List.append_assoc, hc] at hl
          exact hl
        have hbb : Below w.heap.size w (wr.alloc (.cells #[.int .u8 (48 + (k : Int) % 10)] 5)) := below_alloc hb _
        clear hl hc hcn
        go_wp2
        exact ⟨⟨k / 10, c :: l, by simp, rfl, by omega, hl2.out, hbb⟩, by simp [intOf]; omega⟩

/-- The words' cells. -/
def wordsA : Array Value := #[.string ⟨#[]⟩, .string ⟨#[112, 97, 115, 115]⟩, .string ⟨#[103, 104, 111, 115, 116]⟩, .string ⟨#[100, 101, 97, 100]⟩, .string ⟨#[97, 108, 105, 118, 101]⟩, .string ⟨#[114, 101, 115, 101, 116]⟩]

theorem wordsA_at {o : Nat} (h : o < 6) : wordsA[o]? = some (.string ⟨(wordB (o : Int)).toArray⟩) := by
  rcases (show o = 0 ∨ o = 1 ∨ o = 2 ∨ o = 3 ∨ o = 4 ∨ o = 5 by omega) with rfl | rfl | rfl | rfl | rfl | rfl <;> rfl

theorem l4words_any (w : World) : Calls Tryd.prog 52 #[] w fun e w' => e = .returned (.slice (some ⟨w.heap.size, 0, none⟩) 6 6) ∧ w' = w.alloc (.cells wordsA 9) := by
  go_enter Tryd.func52, Tryd.ntmps52
  go_wp2
  go_ret
  exact ⟨rfl, rfl⟩

set_option maxRecDepth 100000 in
set_option maxHeartbeats 1000000 in
theorem l4line_any (op f d : Int) (o1 : 1 ≤ op) (o2 : op ≤ 5) (f0 : 0 ≤ f) (f1 : f ≤ 1000000) (hd : d = 1 ∨ d = -1 ∨ d = 0) (w : World) :
    Calls Tryd.prog 32 #[.agg #[.int .i64 op, .int .i64 f, .int .i64 d]] w fun e w' => e = .returned (.string ⟨(lineB op f d).toArray⟩) ∧ Below w.heap.size w w' := by
  obtain ⟨o, rfl⟩ : ∃ o : Nat, op = (o : Int) := ⟨op.toNat, by omega⟩
  obtain ⟨wb, hwb⟩ : ∃ wb, wordB (o : Int) = wb := ⟨_, rfl⟩
  obtain ⟨nb, hnb⟩ : ∃ nb, Lib.itoa f = nb := ⟨_, rfl⟩
  have lw : wb.length ≤ 5 := by rw [← hwb]; exact wordB_length _
  have ln : nb.length ≤ 21 := by rw [← hnb]; exact Lib.itoa_length_le f (by omega) (by omega)
  obtain ⟨s1, hs1⟩ : ∃ s1, wb ++ [32] = s1 := ⟨_, rfl⟩
  obtain ⟨s2, hs2⟩ : ∃ s2, s1 ++ nb = s2 := ⟨_, rfl⟩
  obtain ⟨s3, hs3⟩ : ∃ s3, s2 ++ signB d = s3 := ⟨_, rfl⟩
  have e0 : lineB (o : Int) f d = s3 := by rw [← hs3, ← hs2, ← hs1]; unfold lineB; rw [hwb, hnb]; simp
  have l1 : s1.length ≤ 6 := by rw [← hs1]; simp; omega
  have l2 : s2.length ≤ 27 := by rw [← hs2]; simp; omega
  obtain ⟨W, hW⟩ : ∃ W, (w.alloc (.cells #[.int .i64 (o : Int), .int .i64 f, .int .i64 d] 51)).alloc (.cells wordsA 9) = W := ⟨_, rfl⟩
  have bW : Below w.heap.size w W := by rw [← hW]; exact below_alloc (below_alloc (Below.refl _ _) _) _
  have c0 : W.cell? ⟨w.heap.size, 0, none⟩ = some (.int .i64 (o : Int)) := by rw [← hW]; simp
  have c1 : W.cell? ⟨w.heap.size, 1, none⟩ = some (.int .i64 f) := by rw [← hW]; simp
  have c2 : W.cell? ⟨w.heap.size, 2, none⟩ = some (.int .i64 d) := by rw [← hW]; simp
  have cw : W.cell? ⟨w.heap.size + 1, o, none⟩ = some (.string ⟨wb.toArray⟩) := by
    rw [← hW, ← hwb]
    have := wordsA_at (o := o) (by omega)
    simp [this]
  have kc := fun dd os => Calls.regrown_of (l4decimal_any f f0 f1 (Sort.grow (redrawn W dd) os))
  rw [hnb] at kc
  have k0 := cell_regrown c0
  have k1 := cell_regrown c1
  have kw := cell_regrown cw
  have hw6 : (o : Int) < 6 := by omega
  have hadd1 : ∀ X : World, (Op.stringOp .add ⟨wb.toArray⟩ ⟨#[32]⟩).run Tryd.prog X = .ok (.string ⟨s1.toArray⟩) X := fun X => by rw [← hs1]; exact run_string_add_lists X wb [32] (by omega) (by simp)
  have hadd2 : ∀ X : World, (Op.stringOp .add ⟨s1.toArray⟩ ⟨nb.toArray⟩).run Tryd.prog X = .ok (.string ⟨s2.toArray⟩) X := fun X => by rw [← hs2]; exact run_string_add_lists X s1 nb (by omega) (by omega)
  rw [e0]
  have HW : Hid _ := hW
  have HS : Hid _ := hs3
  clear hW hwb hnb o2 e0 hs1 hs2 hs3
  go_enter Tryd.func32, Tryd.ntmps32
  go_wp2_with fail
  refine (l4words_any _).mono ?_
  rintro e w1 ⟨rfl, rfl⟩
  go_upto_region 2 with fail
  rw [HW.out]
  refine wp_region_quiet_below (by kernel_rfl) (by kernel_rfl) ?_
  repeat (go_big_quiet_step (first | with_reducible exact kc _ _))
  refine wpQuiet_nil ?_
  intro _ hw'
  obtain ⟨⟨dq, osq⟩, hw''⟩ := hw'
  have hBq := below_on bW (below_regrown W dq osq)
  have j2 := cell_regrown c2 dq osq
  subst hw''
  clear kc k0 k1 kw c0 c1 c2 cw HW bW
  generalize Sort.grow (redrawn W dq) osq = wq at *
  rcases hd with rfl | rfl | rfl
  · have hs : s2 ++ [32, 43] = s3 := HS.out
    have hadd3 : ∀ X : World, (Op.stringOp .add ⟨s2.toArray⟩ ⟨#[32, 43]⟩).run Tryd.prog X = .ok (.string ⟨s3.toArray⟩) X := fun X => by rw [← hs]; exact run_string_add_lists X s2 [32, 43] (by omega) (by simp)
    clear hs
    go_wp2
    go_ret
    exact ⟨rfl, hBq⟩
  · have hs : s2 ++ [32, 45] = s3 := HS.out
    have hadd3 : ∀ X : World, (Op.stringOp .add ⟨s2.toArray⟩ ⟨#[32, 45]⟩).run Tryd.prog X = .ok (.string ⟨s3.toArray⟩) X := fun X => by rw [← hs]; exact run_string_add_lists X s2 [32, 45] (by omega) (by simp)
    clear hs
    go_wp2
    go_ret
    exact ⟨rfl, hBq⟩
  · have hs : s2 ++ [] = s3 := HS.out
    rw [List.append_nil] at hs
    subst hs
    go_wp2
    go_ret
    exact ⟨rfl, hBq⟩

end Go.Proofs.YtlpopfhaephfaabDoor
