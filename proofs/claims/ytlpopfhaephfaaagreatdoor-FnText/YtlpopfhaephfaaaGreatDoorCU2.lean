import Derived.Test.YtlpopfhaephfaaaGreatDoorCU1
namespace Go.Proofs.YtlpopfhaephfaaaGreatDoor
open Go.RowKit

theorem Tryz.infoCn : (Tryz.prog.info? 75).map (fun i => (i.zero, i.size, i.bytes)) = some (some (.agg #[.int .i64 0, .int .i64 0]), 2, 16) := by kernel_rfl

def Box2 (w : World) (b : Nat) (e : TypeId) (x y : Value) : Prop := Blk w b e 2 (fun i => if i = 0 then x else y)
section
variable {w w' : World} {b e : Nat} {x y : Value}
theorem Box2.cells (h : Box2 w b e x y) : w.cell? ⟨b, 0, none⟩ = some x ∧ w.cell? ⟨b, 1, none⟩ = some y := ⟨Blk.cell h (by omega), Blk.cell h (by omega)⟩
theorem Box2.lt (h : Box2 w b e x y) : b < w.heap.size := Blk.lt h
theorem Box2.frozen (h : Box2 w b e x y) : w.frozen? ⟨b, 0, none⟩ = false ∧ w.frozen? ⟨b, 1, none⟩ = false := ⟨Blk.frozen h 0, Blk.frozen h 1⟩
theorem Box2.on (h : Box2 w b e x y) (hb : Below w.heap.size w w') : Box2 w' b e x y := Blk.on h hb
theorem Box2.alloc (h : Box2 w b e x y) (o : Obj) : Box2 (w.alloc o) b e x y := Blk.alloc h o
theorem Box2.turned {E : Nat → Prop} {lo hi : Nat} (hb : Box2 w b e x y) (h : Turned w w' E lo hi) (hd : ¬ E e ∨ b < lo ∨ hi ≤ b) : Box2 w' b e x y := Blk.turned hb h hd
theorem Box2.lay (w : World) (x y : Value) (e : TypeId) : Box2 (w.alloc (.cells #[x, y] e)) w.heap.size e x y :=
  Blk.new w #[x, y] e _ (fun i hi => by match i, hi with | 0, _ => rfl | 1, _ => rfl)
theorem Box2.set1 (h : Box2 w b e x y) (v : Value) : Box2 (w.setCell ⟨b, 1, none⟩ v) b e x v :=
  (Blk.set h 1 v).congr fun i hi => by match i, hi with | 0, _ => rfl | 1, _ => rfl
theorem Box2.set_other (h : Box2 w b e x y) {a : Addr} (ha : a.block ≠ b) (v : Value) : Box2 (w.setCell a v) b e x y := Blk.set_other h ha v
end
theorem ow_set {w : World} {base e sz n : Nat} {v : Value} {xs : List Value} (h : w.ownsRow base e sz v n xs) {a : Addr} (ha : a.block < base) (x : Value) : (w.setCell a x).ownsRow base e sz v n xs := by
  refine ⟨h.1, ?_⟩
  rcases h.2 with hn | ⟨g, cap, cur, rfl, hb, hgg, rest⟩
  · exact .inl hn
  · exact .inr ⟨g, cap, cur, rfl, hb, (Below.heap_setCell _ _ _ _ (by omega)).trans hgg, rest⟩
theorem Cur.set_other {w : World} {B p m cap : Nat} {ao : Option Addr} {C : Nat → Int} {c : Cu} (h : Cur w B p ao m cap C c) {a : Addr} (ha : p < a.block) (v : Value) : Cur (w.setCell a v) B p ao m cap C c := by
  obtain ⟨h1, h2, h3, h4, h5⟩ := h
  exact ⟨Blk.set_other h1 (by omega) v, h2.below ((Below.refl _ _).setCell (by omega) v), h3, h4, h5⟩

theorem Turned.of_set2 {w : World} {r e : Nat} {x y : Value} (h : Box2 w r e x y) (u v : Value) : Turned w ((w.setCell ⟨r, 0, none⟩ u).setCell ⟨r, 1, none⟩ v) (· = e) r (r + 1) :=
  (Turned.set (E := (· = e)) (i := 0) h rfl (Nat.le_refl _) (Nat.lt_succ_self _) u).trans (Turned.set (E := (· = e)) (i := 1) (Blk.set h 0 u) rfl (Nat.le_refl _) (Nat.lt_succ_self _) v)

/-- what stands ahead of a round of the first loop: the layout's block q, the result's block r -/
structure LyI (w wr : World) (B p : Nat) (ao : Option Addr) (m cap : Nat) (C : Nat → Int) (q r : Nat) (S : Int) (u : Value) (z : Cu × List (Int × Int)) : Prop where
  cur : Cur wr B p ao m cap C z.1
  lay : Box2 wr q 25 (.int .i64 S) u
  own : wr.ownsRow (q + 1) 75 2 u z.2.length (prC z.2)
  res : Box2 wr r 25 (.int .i64 0) (.slice none 0 0)
  tur : Turned w wr (· = 39) p (p + 1)
  rq : w.heap.size ≤ r ∧ r < q
theorem LyI.on {w wr w' : World} {B p : Nat} {ao : Option Addr} {m cap : Nat} {C : Nat → Int} {q r : Nat} {S : Int} {u : Value} {z : Cu × List (Int × Int)} (h : LyI w wr B p ao m cap C q r S u z) (hb : Below wr.heap.size wr w') : LyI w w' B p ao m cap C q r S u z :=
  ⟨h.cur.on hb, h.lay.on hb, ow_on h.own hb, h.res.on hb, h.tur.trans (Turned.of_below hb), h.rq⟩
theorem LyI.alloc {w wr : World} {B p : Nat} {ao : Option Addr} {m cap : Nat} {C : Nat → Int} {q r : Nat} {S : Int} {u : Value} {z : Cu × List (Int × Int)} (h : LyI w wr B p ao m cap C q r S u z) (o : Obj) : LyI w (wr.alloc o) B p ao m cap C q r S u z := h.on (by repeat (first | exact Below.refl _ _ | assumption | refine below_alloc ?_ _ | refine Below.setCell ?_ (by first | omega | (simp; done) | (simp; omega)) _ | refine Below.alloc ?_ (by first | omega | (simp; done) | (simp; omega)) _ | refine Below.drew ?_))
theorem LyI.pick {w wr w2 : World} {B p : Nat} {ao : Option Addr} {m cap : Nat} {C : Nat → Int} {q r : Nat} {S : Int} {u : Value} {z : Cu × List (Int × Int)} (h : LyI w wr B p ao m cap C q r S u z) {c : Cu} (hc : Cur w2 B p ao m cap C c) (ht : Turned wr w2 (· = 39) p (p + 1)) : LyI w w2 B p ao m cap C q r S u (c, z.2) :=
  ⟨hc, h.lay.turned ht (.inl (by decide)), ow_turned h.own ht (by decide), h.res.turned ht (.inl (by decide)), h.tur.trans ht, h.rq⟩
/-- one more counter -/
theorem LyI.app {w U w6 : World} {B p : Nat} {ao : Option Addr} {m cap : Nat} {C : Nat → Int} {q r : Nat} {S : Int} {u v : Value} {z : Cu × List (Int × Int)} (h : LyI w U B p ao m cap C q r S u z) (x : Int × Int) (hpw : p < w.heap.size) (hown : w6.ownsRow (q + 1) 75 2 v (z.2.length + 1) (prC z.2 ++ [.int .i64 x.1, .int .i64 x.2])) (hg : Turned U w6 (· = 75) (q + 1) U.heap.size) : LyI w (w6.setCell ⟨q, 1, none⟩ v) B p ao m cap C q r S v (z.1, z.2 ++ [x]) := by
  obtain ⟨h1, h2⟩ := h.rq
  have h3 := h.cur.2.2.1
  have h4 := h.lay.lt
  have c6 : Cur w6 B p ao m cap C z.1 := h.cur.turned hg (.inl (by decide)) (by omega)
  refine ⟨c6.set_other (show p < q by omega) v, (h.lay.turned hg (.inl (by decide))).set1 v, ?_, (h.res.turned hg (.inl (by decide))).set_other (show q ≠ r by omega) v, ?_, h.rq⟩
  · rw [prC_snoc, List.length_append]
    exact ow_set hown (show q < q + 1 by omega) v
  · exact h.tur.more (((hg.below (Nat.le_refl _) (by omega)).mono (by omega)).setCell (show w.heap.size ≤ q by omega) v)

set_option maxRecDepth 100000 in
set_option maxHeartbeats 4000000 in
theorem layout_any (B p m cap : Nat) (ao : Option Addr) (C : Nat → Int) (c : Cu) (w : World) (h : Cur w B p ao m cap C c) (hq : c.pos < 1000) :
    Calls Tryz.prog 11 #[.pointer (some ⟨p, 0, none⟩)] w fun e w' => ∃ g, e = .returned (.agg #[.int .i64 (lyS C m c : Int), .slice (gA g) (lyZ C m c).2.length (gC g)]) ∧ CRow w' g (lyZ C m c).2.length (fstF (lyZ C m c).2) (sndF (lyZ C m c).2) ∧ Cur w' B p ao m cap C (lyZ C m c).1 ∧ Turned w w' (· = 39) p (p + 1) := by
  obtain ⟨i0, hi, hz0, hz1, hz2⟩ := info_parts Tryz.infoCn
  obtain ⟨s1, s2, s3⟩ := lyS_range C m c
  have hpw := h.lt
  have eR : lyR C m c = lyA C m (lyS C m c : Int) (pkC C m c 5) (lyS C m c + 1) := rfl
  have eZ : lyZ C m c = lyB C m (lyS C m c : Int) (pkC C m (lyR C m c).1 3, (lyR C m c).2) (pkV C m (lyR C m c).1 3).toNat := rfl
  obtain ⟨zf1, zf2, zf3⟩ := lyR_facts C m c
  obtain ⟨S, eS⟩ : ∃ S, lyS C m c = S := ⟨_, rfl⟩
  rw [eS] at s1 s2 s3 eR eZ zf3 ⊢
  obtain ⟨Z, eZ'⟩ : ∃ Z, lyZ C m c = Z := ⟨_, rfl⟩
  rw [eZ'] at eZ ⊢
  go_enter Tryz.func11, Tryz.ntmps11
  go_wp2_with fail
  refine (pick_any B p m cap ao C c 5 _ (h.alloc _) (by omega) (by omega)).mono ?_
  rintro e w1 ⟨rfl, k1, t1⟩
  have r1 := (Box2.lay w (.int .i64 0) (.slice none 0 0) 25).turned t1 (.inl (by decide))
  have T1 : Turned w w1 (· = 39) p (p + 1) := (Turned.of_below (show Below w.heap.size w _ from (by repeat (first | exact Below.refl _ _ | assumption | refine below_alloc ?_ _ | refine Below.setCell ?_ (by first | omega | (simp; done) | (simp; omega)) _ | refine Below.alloc ?_ (by first | omega | (simp; done) | (simp; omega)) _ | refine Below.drew ?_)))).trans t1
  have p5 := pk_pos C m c 5
  obtain ⟨v, ev⟩ : ∃ v, pkV C m c 5 = v := ⟨_, rfl⟩
  rw [ev] at s1 ⊢
  obtain ⟨c1, ec1⟩ : ∃ c1, pkC C m c 5 = c1 := ⟨_, rfl⟩
  rw [ec1] at k1 p5 eR
  have I1 : LyI w (w1.alloc (.cells #[.int .i64 (1 + v), .slice none 0 0] 25)) B p ao m cap C w1.heap.size w.heap.size (1 + v) (.slice none 0 0) (lyA C m (S : Int) c1 0) :=
    ⟨k1.alloc _, Box2.lay w1 _ _ _, World.ownsRow_nil _ _ _ _, r1.alloc _, T1.trans (Turned.of_below (by repeat (first | exact Below.refl _ _ | assumption | refine below_alloc ?_ _ | refine Below.setCell ?_ (by first | omega | (simp; done) | (simp; omega)) _ | refine Below.alloc ?_ (by first | omega | (simp; done) | (simp; omega)) _ | refine Below.drew ?_))), Nat.le_refl _, r1.lt⟩
  have hv0 : 0 ≤ v := by omega
  have hv1 : v < 5 := by omega
  obtain ⟨q, eq⟩ : ∃ q, w1.heap.size = q := ⟨_, rfl⟩
  have S1 : Hid ((S : Int) = 1 + v) := s1
  have ER : Hid _ := eR
  have EZ : Hid _ := eZ
  have EQ : Hid _ := eq
  clear h k1 t1 T1 r1 eR eZ s1 ev ec1 eS eZ'
  go_wp2
  rw [EQ.out] at I1
  go_loopw [4] (fun i wr => ∃ (k : Nat) (u : Value), k ≤ S + 1 ∧ i = .int .i64 k ∧ LyI w wr B p ao m cap C q w.heap.size (1 + v) u (lyA C m (S : Int) c1 k)) (fun i _ => S + 1 - (intOf i).toNat)
  case atStart => exact ⟨0, _, Nat.zero_le _, rfl, I1⟩
  case round =>
    clear I1
    obtain ⟨k, u, hk, rfl, I⟩ := hrel
    obtain ⟨b0, b1⟩ := I.lay.cells
    have lq := I.lay.lt
    by_cases hlt : k ≤ S
    · have hi1 : (k : Int) ≤ 1 + v := by have := S1.out; omega
      obtain ⟨f1, f2, _⟩ := lyA_facts C m (S : Int) c1 k (by omega) (by omega)
      have eA : lyA C m (S : Int) c1 (k + 1) = (pkC C m (lyA C m (S : Int) c1 k).1 12, (lyA C m (S : Int) c1 k).2 ++ (if 0 < pkV C m (lyA C m (S : Int) c1 k).1 12 then [((k : Int) - 1, if (k : Int) = (S : Int) then -1 else (k : Int))] else [])) := rfl
      obtain ⟨z, ez⟩ : ∃ z, lyA C m (S : Int) c1 k = z := ⟨_, rfl⟩
      rw [ez] at I f1 f2 eA
      clear ez
      by_cases hkS : (k : Int) = 1 + v
      · have e : 1 + v = (k : Int) := hkS.symm
        rw [e] at I b0
        have HE : Hid (1 + v = (k : Int)) := e
        clear e hkS hi1 hv0 hv1
        have hU := I.on (show Below wr.heap.size wr (wr.alloc (.cells #[.int .i64 ((k : Int) - 1), .int .i64 (-1)] 75)) from (by repeat (first | exact Below.refl _ _ | assumption | refine below_alloc ?_ _ | refine Below.setCell ?_ (by first | omega | (simp; done) | (simp; omega)) _ | refine Below.alloc ?_ (by first | omega | (simp; done) | (simp; omega)) _ | refine Below.drew ?_)))
        have hx := Box2.lay wr (.int .i64 ((k : Int) - 1)) (.int .i64 (-1)) 75
        go_wp2_with fail
        refine (pick_any B p m cap ao C z.1 12 _ hU.cur (by omega) (by omega)).mono ?_
        rintro e w2 ⟨rfl, c2, t2⟩
        have J := hU.pick c2 t2
        have X2 := hx.turned t2 (.inl (by decide))
        obtain ⟨y, ey⟩ : ∃ y, pkV C m z.1 12 = y := ⟨_, rfl⟩
        rw [ey] at eA ⊢
        have EA : Hid _ := eA
        clear hU hx c2 t2 I b0 b1 lq ey eA
        obtain ⟨l0, l1⟩ := J.lay.cells
        obtain ⟨x0, x1⟩ := X2.cells
        have lq := J.lay.lt
        have lx := X2.lt
        have zl : z.2.length ≤ 6 := by omega
        have hrq := J.rq
        by_cases hy : 0 < y
        · have ownU := ow_on J.own (show Below w2.heap.size w2 (w2.alloc (.cells #[.int .i64 ((k : Int) - 1), .int .i64 (-1)] 75)) from (by repeat (first | exact Below.refl _ _ | assumption | refine below_alloc ?_ _ | refine Below.setCell ?_ (by first | omega | (simp; done) | (simp; omega)) _ | refine Below.alloc ?_ (by first | omega | (simp; done) | (simp; omega)) _ | refine Below.drew ?_)))
          have hnw := nw_cells2 w2 (.int .i64 ((k : Int) - 1)) (.int .i64 (-1)) 75
          have h1c : ∀ x ∈ [Value.int .i64 ((k : Int) - 1), .int .i64 (-1)], x.oneCell' = true := fun x hx => by
            simp only [List.mem_cons, List.not_mem_nil, or_false] at hx
            rcases hx with rfl | rfl <;> rfl
          have JU := J.alloc (.cells #[.int .i64 ((k : Int) - 1), .int .i64 (-1)] 75)
          have kq := fun w6 (hh : Nat) (tg : Turned (w2.alloc (.cells #[.int .i64 ((k : Int) - 1), .int .i64 (-1)] 75)) w6 (· = 75) (q + 1) hh) => JU.lay.turned tg (.inl (by decide))
          have HJ : Hid _ := JU
          have hbq : q + 1 ≤ (w2.alloc (.cells #[.int .i64 ((k : Int) - 1), .int .i64 (-1)] 75)).heap.size := by rw [World.size_alloc]; omega
          clear J X2 JU
          go_wp2_with (first
            | (at_builtin; refine wpList_append_own _ rfl _ _ 23 rfl (q + 1) 75 i0 _ 2 16 Tryz.underlying23 hi hz0 hz1 hz2 rfl (by decide) _ _ _ rfl ownU ⟨w2.heap.size, 0, none⟩ 1 1 [.int .i64 ((k : Int) - 1), .int .i64 (-1)] rfl rfl hnw h1c (by unfold maxLen; omega) (by omega) hbq ?_; intro v' w6 hown' hgrow hnil; obtain ⟨g6, cap6, rfl⟩ := ow_some hown' (by omega); have tg := ow_grown ownU hgrow; obtain ⟨n0, n1⟩ := (kq _ _ tg).cells; obtain ⟨m0, m1⟩ := (kq _ _ tg).frozen))
          go_roundw
          case rel => exact ⟨k + 1, _, by omega, by go_num, by rw [HE.out]; rw [EA.out, if_pos hy, (show (if (k : Int) = (S : Int) then (-1 : Int) else (k : Int)) = -1 from if_pos (by have := S1.out; have := HE.out; omega))]; exact LyI.app HJ.out ((k : Int) - 1, -1) hpw hown' tg⟩
          case measure => simp [intOf]; omega
        · have HJ : Hid _ := J
          clear J X2
          go_wp2
          go_roundw
          case rel => exact ⟨k + 1, u, by omega, by go_num, by rw [HE.out]; rw [EA.out, if_neg (by omega), List.append_nil]; exact HJ.out⟩
          case measure => simp [intOf]; omega
      · have hkS' : ¬ 1 + v = (k : Int) := fun e => hkS e.symm
        have hU := I.on (show Below wr.heap.size wr (wr.alloc (.cells #[.int .i64 ((k : Int) - 1), .int .i64 (k : Int)] 75)) from (by repeat (first | exact Below.refl _ _ | assumption | refine below_alloc ?_ _ | refine Below.setCell ?_ (by first | omega | (simp; done) | (simp; omega)) _ | refine Below.alloc ?_ (by first | omega | (simp; done) | (simp; omega)) _ | refine Below.drew ?_)))
        have hx := (Box2.lay wr (.int .i64 ((k : Int) - 1)) (.int .i64 (k : Int)) 75)
        go_wp2_with fail
        refine (pick_any B p m cap ao C z.1 12 _ hU.cur (by omega) (by omega)).mono ?_
        rintro e w2 ⟨rfl, c2, t2⟩
        have J := hU.pick c2 t2
        have X2 := hx.turned t2 (.inl (by decide))
        obtain ⟨y, ey⟩ : ∃ y, pkV C m z.1 12 = y := ⟨_, rfl⟩
        rw [ey] at eA ⊢
        have EA : Hid _ := eA
        clear hU hx c2 t2 I b0 b1 lq ey eA
        obtain ⟨l0, l1⟩ := J.lay.cells
        obtain ⟨x0, x1⟩ := X2.cells
        have lq := J.lay.lt
        have lx := X2.lt
        have zl : z.2.length ≤ 6 := by omega
        have hrq := J.rq
        by_cases hy : 0 < y
        · have ownU := ow_on J.own (show Below w2.heap.size w2 (w2.alloc (.cells #[.int .i64 ((k : Int) - 1), .int .i64 (k : Int)] 75)) from (by repeat (first | exact Below.refl _ _ | assumption | refine below_alloc ?_ _ | refine Below.setCell ?_ (by first | omega | (simp; done) | (simp; omega)) _ | refine Below.alloc ?_ (by first | omega | (simp; done) | (simp; omega)) _ | refine Below.drew ?_)))
          have hnw := nw_cells2 w2 (.int .i64 ((k : Int) - 1)) (.int .i64 (k : Int)) 75
          have h1c : ∀ x ∈ [Value.int .i64 ((k : Int) - 1), .int .i64 (k : Int)], x.oneCell' = true := fun x hx => by
            simp only [List.mem_cons, List.not_mem_nil, or_false] at hx
            rcases hx with rfl | rfl <;> rfl
          have JU := J.alloc (.cells #[.int .i64 ((k : Int) - 1), .int .i64 (k : Int)] 75)
          have kq := fun w6 (hh : Nat) (tg : Turned (w2.alloc (.cells #[.int .i64 ((k : Int) - 1), .int .i64 (k : Int)] 75)) w6 (· = 75) (q + 1) hh) => JU.lay.turned tg (.inl (by decide))
          have HJ : Hid _ := JU
          have hbq : q + 1 ≤ (w2.alloc (.cells #[.int .i64 ((k : Int) - 1), .int .i64 (k : Int)] 75)).heap.size := by rw [World.size_alloc]; omega
          clear J X2 JU
          go_wp2_with (first
            | (at_builtin; refine wpList_append_own _ rfl _ _ 23 rfl (q + 1) 75 i0 _ 2 16 Tryz.underlying23 hi hz0 hz1 hz2 rfl (by decide) _ _ _ rfl ownU ⟨w2.heap.size, 0, none⟩ 1 1 [.int .i64 ((k : Int) - 1), .int .i64 (k : Int)] rfl rfl hnw h1c (by unfold maxLen; omega) (by omega) hbq ?_; intro v' w6 hown' hgrow hnil; obtain ⟨g6, cap6, rfl⟩ := ow_some hown' (by omega); have tg := ow_grown ownU hgrow; obtain ⟨n0, n1⟩ := (kq _ _ tg).cells; obtain ⟨m0, m1⟩ := (kq _ _ tg).frozen))
          go_roundw
          case rel => exact ⟨k + 1, _, by omega, by go_num, by rw [EA.out, if_pos hy, (show (if (k : Int) = (S : Int) then (-1 : Int) else (k : Int)) = k from if_neg (by have := S1.out; omega))]; exact LyI.app HJ.out ((k : Int) - 1, (k : Int)) hpw hown' tg⟩
          case measure => simp [intOf]; omega
        · have HJ : Hid _ := J
          clear J X2
          go_wp2
          go_roundw
          case rel => exact ⟨k + 1, u, by omega, by go_num, by rw [EA.out, if_neg (by omega), List.append_nil]; exact HJ.out⟩
          case measure => simp [intOf]; omega
    · have hkS : k = S + 1 := by omega
      subst hkS
      have hi1 : ¬ ((S + 1 : Nat) : Int) ≤ 1 + v := by have := S1.out; omega
      rw [← ER.out] at I
      go_wp2_with fail
      refine (pick_any B p m cap ao C (lyR C m c).1 3 _ I.cur (by omega) (by omega)).mono ?_
      rintro e w2 ⟨rfl, c2, t2⟩
      have J := I.pick c2 t2
      rw [← S1.out] at J
      have y1 := pk_range C m (lyR C m c).1 3
      have y2 := y1.2 (by omega)
      have y3 := pk_pos C m (lyR C m c).1 3
      obtain ⟨N, eN⟩ : ∃ N : Nat, pkV C m (lyR C m c).1 3 = N := ⟨_, (Int.toNat_of_nonneg y1.1).symm⟩
      obtain ⟨z0, ez0⟩ : ∃ z0, (pkC C m (lyR C m c).1 3, (lyR C m c).2) = z0 := ⟨_, rfl⟩
      have ZZ : Hid (Z = lyB C m (S : Int) z0 N) := by
        show Z = _
        rw [EZ.out, ez0, eN]; rfl
      have zp : z0.1.pos ≤ c.pos + 8 := by rw [← ez0]; show (pkC C m (lyR C m c).1 3).pos ≤ _; omega
      have zl : z0.2.length ≤ 6 := by rw [← ez0]; exact zf2
      have zg : goodL (S : Int) z0.2 := by rw [← ez0]; exact zf3
      rw [ez0] at J
      rw [eN] at y1 y2 ⊢
      have hN : N < 3 := by omega
      clear I c2 t2 b0 b1 lq ER EZ ez0 eN y1 y2 y3 zf1 zf2 zf3 hi1 S1 hv0 hv1 hlt hk
      go_wp2
      go_loopw [6] (fun i wr => ∃ (k : Nat) (u : Value), k ≤ N ∧ i = .int .i64 ((N : Int) - k) ∧ LyI w wr B p ao m cap C q w.heap.size (S : Int) u (lyB C m (S : Int) z0 k)) (fun i _ => (intOf i).toNat)
      case atStart => exact ⟨0, u, Nat.zero_le _, by simp, J⟩
      case round =>
        clear J
        obtain ⟨k, u, hk, rfl, I⟩ := hrel
        rename World => wq
        obtain ⟨b0, b1⟩ := I.lay.cells
        have lq := I.lay.lt
        obtain ⟨f1, f2, _⟩ := lyB_facts C m (S : Int) z0 k (by omega) zg
        by_cases hlt : k < N
        · have hi1 : (k : Int) < (N : Int) := by omega
          have eA : lyB C m (S : Int) z0 (k + 1) = (pkC C m (pkC C m (lyB C m (S : Int) z0 k).1 ((S : Int) + 1)) ((S : Int) + 1), (lyB C m (S : Int) z0 k).2 ++ (if pkV C m (lyB C m (S : Int) z0 k).1 ((S : Int) + 1) - 1 = pkV C m (pkC C m (lyB C m (S : Int) z0 k).1 ((S : Int) + 1)) ((S : Int) + 1) - 1 then [] else [(pkV C m (lyB C m (S : Int) z0 k).1 ((S : Int) + 1) - 1, pkV C m (pkC C m (lyB C m (S : Int) z0 k).1 ((S : Int) + 1)) ((S : Int) + 1) - 1)])) := rfl
          obtain ⟨z, ez⟩ : ∃ z, lyB C m (S : Int) z0 k = z := ⟨_, rfl⟩
          rw [ez] at I f1 f2 eA
          clear ez
          have g1 := pk_pos C m z.1 ((S : Int) + 1)
          have a1 := pk_range C m z.1 ((S : Int) + 1)
          have a2 := a1.2 (by omega)
          have d1 := pk_range C m (pkC C m z.1 ((S : Int) + 1)) ((S : Int) + 1)
          have d2 := d1.2 (by omega)
          go_wp2_with fail
          refine (pick_any B p m cap ao C z.1 ((S : Int) + 1) _ I.cur (by omega) (by omega)).mono ?_
          rintro e w2 ⟨rfl, c2, t2⟩
          have J := I.pick c2 t2
          obtain ⟨xa, exa⟩ : ∃ xa, pkV C m z.1 ((S : Int) + 1) = xa := ⟨_, rfl⟩
          obtain ⟨ca, eca⟩ : ∃ ca, pkC C m z.1 ((S : Int) + 1) = ca := ⟨_, rfl⟩
          rw [exa, eca] at eA
          rw [eca] at J g1 d1 d2
          rw [exa] at a1 a2 ⊢
          obtain ⟨a0, _⟩ := a1
          clear I c2 t2 b0 b1 lq exa eca
          obtain ⟨b0, b1⟩ := J.lay.cells
          have lq := J.lay.lt
          go_wp2_with fail
          refine (pick_any B p m cap ao C ca ((S : Int) + 1) _ J.cur (by omega) (by omega)).mono ?_
          rintro e w3 ⟨rfl, c3, t3⟩
          have K := J.pick c3 t3
          obtain ⟨xb, exb⟩ : ∃ xb, pkV C m ca ((S : Int) + 1) = xb := ⟨_, rfl⟩
          rw [exb] at eA d1 d2 ⊢
          obtain ⟨d0, _⟩ := d1
          have EA : Hid _ := eA
          clear J c3 t3 b0 b1 lq exb eA
          obtain ⟨b0, b1⟩ := K.lay.cells
          have lq := K.lay.lt
          have zl : z.2.length ≤ 8 := by omega
          by_cases hy : xa = xb
          · subst hy
            have HJ : Hid _ := K
            clear K
            go_wp2
            go_roundw
            case rel => exact ⟨k + 1, u, by omega, by go_num, by rw [EA.out, if_pos trivial, List.append_nil]; exact HJ.out⟩
            case measure => simp [intOf]; omega
          · have hy' : ¬ xb = xa := fun e => hy e.symm
            have ownU := ow_on K.own (show Below w3.heap.size w3 (w3.alloc (.cells #[.int .i64 (xa - 1), .int .i64 (xb - 1)] 75)) from (by repeat (first | exact Below.refl _ _ | assumption | refine below_alloc ?_ _ | refine Below.setCell ?_ (by first | omega | (simp; done) | (simp; omega)) _ | refine Below.alloc ?_ (by first | omega | (simp; done) | (simp; omega)) _ | refine Below.drew ?_)))
            have hnw := nw_cells2 w3 (.int .i64 (xa - 1)) (.int .i64 (xb - 1)) 75
            have h1c : ∀ x ∈ [Value.int .i64 (xa - 1), .int .i64 (xb - 1)], x.oneCell' = true := fun x hx => by
              simp only [List.mem_cons, List.not_mem_nil, or_false] at hx
              rcases hx with rfl | rfl <;> rfl
            have JU := K.alloc (.cells #[.int .i64 (xa - 1), .int .i64 (xb - 1)] 75)
            have kq := fun w6 (hh : Nat) (tg : Turned (w3.alloc (.cells #[.int .i64 (xa - 1), .int .i64 (xb - 1)] 75)) w6 (· = 75) (q + 1) hh) => JU.lay.turned tg (.inl (by decide))
            have HJ : Hid _ := JU
            have hbq : q + 1 ≤ (w3.alloc (.cells #[.int .i64 (xa - 1), .int .i64 (xb - 1)] 75)).heap.size := by rw [World.size_alloc]; omega
            have hne : ¬ xa - 1 = xb - 1 := by omega
            clear K JU
            go_wp2_with (first
              | (at_builtin; refine wpList_append_own _ rfl _ _ 23 rfl (q + 1) 75 i0 _ 2 16 Tryz.underlying23 hi hz0 hz1 hz2 rfl (by decide) _ _ _ rfl ownU ⟨w3.heap.size, 0, none⟩ 1 1 [.int .i64 (xa - 1), .int .i64 (xb - 1)] rfl rfl hnw h1c (by unfold maxLen; omega) (by omega) hbq ?_; intro v' w6 hown' hgrow hnil; obtain ⟨g6, cap6, rfl⟩ := ow_some hown' (by omega); have tg := ow_grown ownU hgrow; obtain ⟨n0, n1⟩ := (kq _ _ tg).cells; obtain ⟨m0, m1⟩ := (kq _ _ tg).frozen))
            go_roundw
            case rel => exact ⟨k + 1, _, by omega, by go_num, by rw [EA.out, if_neg (by omega)]; exact LyI.app HJ.out (xa - 1, xb - 1) hpw hown' tg⟩
            case measure => simp [intOf]; omega
        · have hkN : k = N := by omega
          subst hkN
          rw [← ZZ.out] at I
          obtain ⟨g, rfl, hC⟩ := CRow.of_own I.own
          obtain ⟨r0, r1⟩ := I.res.cells
          obtain ⟨r2, r3⟩ := I.res.frozen
          have lr := I.res.lt
          have hrq := I.rq
          have hne : ¬ w.heap.size = q := by omega
          have hne' : ¬ q = w.heap.size := by omega
          have hi1 : ¬ (0 : Int) < 0 := by omega
          have fin : Below w.heap.size wq ((wq.setCell ⟨w.heap.size, 0, none⟩ (.int .i64 (S : Int))).setCell ⟨w.heap.size, 1, none⟩ (.slice (gA g) Z.2.length (gC g))) := (by repeat (first | exact Below.refl _ _ | assumption | refine below_alloc ?_ _ | refine Below.setCell ?_ (by first | omega | (simp; done) | (simp; omega)) _ | refine Below.alloc ?_ (by first | omega | (simp; done) | (simp; omega)) _ | refine Below.drew ?_))
          have hCf := hC.turned (Turned.of_set2 I.res (.int .i64 (S : Int)) (.slice (gA g) Z.2.length (gC g))) (by decide)
          have hcu := (I.cur.set_other (a := ⟨w.heap.size, 0, none⟩) hpw (.int .i64 (S : Int))).set_other (a := ⟨w.heap.size, 1, none⟩) hpw (.slice (gA g) Z.2.length (gC g))
          have htu := I.tur.more fin
          clear I hC
          go_wp2
          exact bodyPost_ret (v := .agg #[.int .i64 (S : Int), .slice (gA g) Z.2.length (gC g)]) (by simp [results, Tryz.results11, go_sem, r0, r1]) rfl ⟨g, rfl, hCf, hcu, htu⟩

end Go.Proofs.YtlpopfhaephfaaaGreatDoor
