import Derived.Test.YtlpopfhaephfaaaGreatDoorCU0
import Derived.BigQuiet
import Derived.WalkSmall
import Derived.Deep.QuietTactic
namespace Go.Proofs.YtlpopfhaephfaaaGreatDoor
open Go.RowKit

/-- m bytes of a slice that lies below B -/
def Cod (w : World) (B : Nat) (ao : Option Addr) (m : Nat) (C : Nat → Int) : Prop :=
  m = 0 ∨ ∃ b off, ao = some ⟨b, off, none⟩ ∧ b < B ∧ ∀ i, i < m → w.cell? ⟨b, off + i, none⟩ = some (.int .u8 (C i)) ∧ 0 ≤ C i ∧ C i < 256
theorem Cod.below {w w' : World} {B : Nat} {ao : Option Addr} {m : Nat} {C : Nat → Int} (h : Cod w B ao m C) (hb : Below B w w') : Cod w' B ao m C := by
  rcases h with h | ⟨b, off, h1, h2, h3⟩
  · exact .inl h
  · exact .inr ⟨b, off, h1, h2, fun i hi => ⟨(hb.cell (p := ⟨b, off + i, none⟩) h2).trans (h3 i hi).1, (h3 i hi).2⟩⟩

/-- a cursor at p, over bytes that lie below B -/
def Cur (w : World) (B p : Nat) (ao : Option Addr) (m cap : Nat) (C : Nat → Int) (c : Cu) : Prop :=
  Box3 w p 39 (.slice ao m cap) (.int .i64 c.pos) (.int .u64 c.sd) ∧ Cod w B ao m C ∧ B ≤ p ∧ 0 ≤ c.sd ∧ m ≤ maxLen

section
variable {w w' : World} {B p m cap : Nat} {ao : Option Addr} {C : Nat → Int} {c : Cu}
theorem Cur.lt (h : Cur w B p ao m cap C c) : p < w.heap.size := Blk.lt h.1
theorem Cur.on (h : Cur w B p ao m cap C c) (hb : Below w.heap.size w w') : Cur w' B p ao m cap C c := by
  have h1 := h.lt
  obtain ⟨a, b, d, e, f⟩ := h
  exact ⟨a.on hb, b.below (hb.mono (by omega)), d, e, f⟩
theorem Cur.alloc (h : Cur w B p ao m cap C c) (o : Obj) : Cur (w.alloc o) B p ao m cap C c := h.on (by repeat (first | exact Below.refl _ _ | assumption | refine below_alloc ?_ _ | refine Below.setCell ?_ (by first | omega | (simp; done) | (simp; omega)) _ | refine Below.alloc ?_ (by first | omega | (simp; done) | (simp; omega)) _ | refine Below.drew ?_))
theorem Cur.drew (h : Cur w B p ao m cap C c) : Cur w.drew B p ao m cap C c := h
theorem Cur.turned {E : Nat → Prop} {lo hi : Nat} (h : Cur w B p ao m cap C c) (ht : Turned w w' E lo hi) (hE : ¬ E 39 ∨ p < lo ∨ hi ≤ p) (hl : B ≤ lo) : Cur w' B p ao m cap C c := by
  have h1 := h.lt
  obtain ⟨a, b, d, e, f⟩ := h
  exact ⟨a.turned ht hE, b.below (ht.below hl (by omega)), d, e, f⟩
end

theorem Box3.put1 {w : World} {b e : Nat} {x y z : Value} (h : Box3 w b e x y z) (v : Value) : Box3 (w.setCell ⟨b, 1, none⟩ v) b e x v z :=
  (Blk.set h 1 v).congr fun i hi => by match i, hi with | 0, _ => rfl | 1, _ => rfl | 2, _ => rfl
theorem Box3.put2 {w : World} {b e : Nat} {x y z : Value} (h : Box3 w b e x y z) (v : Value) : Box3 (w.setCell ⟨b, 2, none⟩ v) b e x y v :=
  (Blk.set h 2 v).congr fun i hi => by match i, hi with | 0, _ => rfl | 1, _ => rfl | 2, _ => rfl
theorem Turned.set {w : World} {E : Nat → Prop} {b e m i : Nat} {f : Nat → Value} {lo hi : Nat} (h : Blk w b e m f) (hE : E e) (h1 : lo ≤ b) (h2 : b < hi) (v : Value) : Turned w (w.setCell ⟨b, i, none⟩ v) E lo hi :=
  Turned.of_grown (grown_set (World.grownBy.refl _ _) v) h1 h2 hE h

theorem Turned.more {w w1 w2 : World} {E : Nat → Prop} {lo hi : Nat} (h : Turned w w1 E lo hi) (hb : Below w.heap.size w1 w2) : Turned w w2 E lo hi := by
  refine ⟨hb.os.trans h.os, hb.tape.trans h.tape, hb.output.trans h.output, Nat.le_trans h.size hb.size, fun k hk => ?_⟩
  rw [hb.block k hk]
  exact h.block k hk
theorem Turned.draw {w w1 : World} {E : Nat → Prop} {lo hi : Nat} (h : Turned w w1 E lo hi) : Turned w w1.drew E lo hi := h.trans (Turned.of_below (Below.refl _ _).drew)

theorem wrap_u64_nn (x : Int) : 0 ≤ IntKind.u64.wrap x := by rw [IntKind.wrap_u64]; omega

theorem wrap_u64_lt (x : Int) : IntKind.u64.wrap x ≤ 18446744073709551615 := by rw [IntKind.wrap_u64]; omega
theorem low_byte (s : Int) (h0 : 0 ≤ s) (h1 : s ≤ 18446744073709551615) : wrap64 (bits BinOp.and IntKind.u64 (s / 1099511627776) 255) = sdV s := by
  have h := bits_and_u64_nat (s / 1099511627776).toNat 255 (by omega) (by omega)
  have e1 : (((s / 1099511627776).toNat : Nat) : Int) = s / 1099511627776 := by omega
  rw [e1] at h
  have e2 : ((255 : Nat) : Int) = 255 := rfl
  rw [e2] at h
  rw [h, show (255 : Nat) = 2 ^ 8 - 1 from rfl, Nat.and_two_pow_sub_one_eq_mod]
  unfold sdV wrap64
  omega

set_option maxHeartbeats 1000000 in
theorem next_in (B p m cap b off : Nat) (C : Nat → Int) (c : Cu) (w : World) (h : Cur w B p (some ⟨b, off, none⟩) m cap C c) (hb : b < B) (hp : c.pos < m) (hc : ∀ i, i < m → w.cell? ⟨b, off + i, none⟩ = some (.int .u8 (C i)) ∧ 0 ≤ C i ∧ C i < 256) :
    Calls Tryz.prog 48 #[.pointer (some ⟨p, 0, none⟩)] w fun e w' => e = .returned (.int .i64 (C c.pos)) ∧ Cur w' B p (some ⟨b, off, none⟩) m cap C ⟨c.pos + 1, sdA c.sd (C c.pos)⟩ ∧ Turned w w' (· = 39) p (p + 1) := by
  obtain ⟨k1, k2, k3, k4, k5⟩ := id h
  obtain ⟨c0, c1, c2⟩ := k1.cells
  have f0 := Blk.frozen k1 1
  have f1 := Blk.frozen k1 2
  obtain ⟨d0, d1, d2⟩ := hc _ hp
  have hlt := Blk.lt k1
  have hmm : m ≤ 9223372036854775807 := k5
  have hpi : (c.pos : Int) < m := by omega
  have hbp : ¬ b = p := by omega
  go_enter Tryz.func48, Tryz.ntmps48
  go_wp2
  go_region
  go_wp2
  go_region
  go_wp2
  go_ret
  have j1 : Box3 _ p 39 _ _ _ := (k1.put1 (.int .i64 ((c.pos : Int) + 1))).put2 (.int .u64 (sdA c.sd (C c.pos)))
  have t1 : Turned w _ (· = 39) p (p + 1) := (Turned.set (E := (· = 39)) (i := 1) k1 rfl (Nat.le_refl _) (Nat.lt_succ_self _) (.int .i64 ((c.pos : Int) + 1))).trans (Turned.set (E := (· = 39)) (i := 2) (k1.put1 (.int .i64 ((c.pos : Int) + 1))) rfl (Nat.le_refl _) (Nat.lt_succ_self _) (.int .u64 (sdA c.sd (C c.pos))))
  exact ⟨rfl, ⟨j1, k2.below (t1.draw.draw.below k3 (by omega)), k3, wrap_u64_nn _, k5⟩, t1.draw.draw⟩

set_option maxHeartbeats 1000000 in
theorem next_out (B p m cap : Nat) (ao : Option Addr) (C : Nat → Int) (c : Cu) (w : World) (h : Cur w B p ao m cap C c) (hp : ¬ c.pos < m) (hq : c.pos < 1000000) :
    Calls Tryz.prog 48 #[.pointer (some ⟨p, 0, none⟩)] w fun e w' => e = .returned (.int .i64 (sdV (sdB c.sd))) ∧ Cur w' B p ao m cap C ⟨c.pos + 1, sdB c.sd⟩ ∧ Turned w w' (· = 39) p (p + 1) := by
  obtain ⟨k1, k2, k3, k4, k5⟩ := id h
  obtain ⟨c0, c1, c2⟩ := k1.cells
  have f0 := Blk.frozen k1 1
  have f1 := Blk.frozen k1 2
  have hlt := Blk.lt k1
  have hpi : ¬ (c.pos : Int) < m := by omega
  have hqi : (c.pos : Int) < 1000000 := by omega
  go_enter Tryz.func48, Tryz.ntmps48
  go_wp2
  go_region
  go_wp2
  go_ret
  have j1 : Box3 _ p 39 _ _ _ := (k1.put2 (.int .u64 (sdB c.sd))).put1 (.int .i64 ((c.pos : Int) + 1))
  have t1 : Turned w _ (· = 39) p (p + 1) := (Turned.set (E := (· = 39)) (i := 2) k1 rfl (Nat.le_refl _) (Nat.lt_succ_self _) (.int .u64 (sdB c.sd))).trans (Turned.set (E := (· = 39)) (i := 1) (k1.put2 (.int .u64 (sdB c.sd))) rfl (Nat.le_refl _) (Nat.lt_succ_self _) (.int .i64 ((c.pos : Int) + 1)))
  refine ⟨?_, ⟨j1, k2.below (t1.draw.below k3 (by omega)), k3, wrap_u64_nn _, k5⟩, t1.draw⟩
  rw [show sdV (sdB c.sd) = wrap64 (bits BinOp.and IntKind.u64 (sdB c.sd / 1099511627776) 255) from (low_byte _ (wrap_u64_nn _) (wrap_u64_lt _)).symm]
  rfl

theorem next_any (B p m cap : Nat) (ao : Option Addr) (C : Nat → Int) (c : Cu) (w : World) (h : Cur w B p ao m cap C c) (hq : c.pos < 1000000) :
    Calls Tryz.prog 48 #[.pointer (some ⟨p, 0, none⟩)] w fun e w' => e = .returned (.int .i64 (nxV C m c)) ∧ Cur w' B p ao m cap C (nxC C m c) ∧ Turned w w' (· = 39) p (p + 1) := by
  unfold nxV nxC
  by_cases hp : c.pos < m
  · simp only [hp, if_true]
    rcases h.2.1 with h0 | ⟨b, off, rfl, h2, h3⟩
    · omega
    · exact next_in B p m cap b off C c w h h2 hp h3
  · simp only [hp, if_false]
    exact next_out B p m cap ao C c w h hp hq

theorem sdV_range (s : Int) : 0 ≤ sdV s ∧ sdV s < 256 := by unfold sdV; omega
theorem nxV_range {w : World} {B p m cap : Nat} {ao : Option Addr} {C : Nat → Int} {c : Cu} (h : Cur w B p ao m cap C c) : 0 ≤ nxV C m c ∧ nxV C m c < 256 := by
  unfold nxV
  split
  · rcases h.2.1 with h0 | ⟨b, off, _, _, h3⟩
    · omega
    · exact (h3 _ (by assumption)).2
  · exact sdV_range _

set_option maxHeartbeats 1000000 in
theorem pick_any (B p m cap : Nat) (ao : Option Addr) (C : Nat → Int) (c : Cu) (n : Int) (w : World) (h : Cur w B p ao m cap C c) (hq : c.pos < 1000000) (hn : n ≤ 200) :
    Calls Tryz.prog 29 #[.pointer (some ⟨p, 0, none⟩), .int .i64 n] w fun e w' => e = .returned (.int .i64 (pkV C m c n)) ∧ Cur w' B p ao m cap C (pkC C m c n) ∧ Turned w w' (· = 39) p (p + 1) := by
  unfold pkV pkC
  by_cases h1 : n ≤ 1
  · simp only [h1, if_true]
    go_enter Tryz.func29, Tryz.ntmps29
    go_wp2
    go_ret
    exact ⟨rfl, h, Turned.refl _ _ _ _⟩
  · simp only [h1, if_false]
    obtain ⟨r1, r2⟩ := nxV_range h
    have kc := next_any B p m cap ao C c w h hq
    obtain ⟨v, ev⟩ : ∃ v, nxV C m c = v := ⟨_, rfl⟩
    rw [ev] at r1 r2 kc
    rw [ev]
    have h1' : 1 < n := by omega
    have h2' : ¬ 200 < n := by omega
    go_enter Tryz.func29, Tryz.ntmps29
    go_wp2_with fail
    refine kc.mono ?_
    rintro e w1 ⟨rfl, k1, k2⟩
    go_wp2
    go_ret
    exact ⟨rfl, k1, k2⟩

end Go.Proofs.YtlpopfhaephfaaaGreatDoor
