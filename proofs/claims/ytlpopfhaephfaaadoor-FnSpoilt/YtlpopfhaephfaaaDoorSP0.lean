import Derived.Test.YtlpopfhaephfaaaDoorCU2
namespace Go.Proofs.YtlpopfhaephfaaaDoor
open Go.RowKit

set_option maxRecDepth 100000 in
set_option maxHeartbeats 4000000 in
theorem layout_own (B p m cap : Nat) (ao : Option Addr) (C : Nat → Int) (c : Cu) (w : World) (h : Cur w B p ao m cap C c) (hq : c.pos < 1000) :
    Calls Tryd.prog 21 #[.pointer (some ⟨p, 0, none⟩)] w fun e w' => ∃ g, e = .returned (.agg #[.int .i64 (lyS C m c : Int), .slice (gA g) (lyZ C m c).2.length (gC g)]) ∧ CRow w' g (lyZ C m c).2.length (fstF (lyZ C m c).2) (sndF (lyZ C m c).2) ∧ Cur w' B p ao m cap C (lyZ C m c).1 ∧ Turned w w' (· = 61) p (p + 1) ∧ ∀ ad, gA g = some ad → w.heap.size ≤ ad.block := by
  obtain ⟨i0, hi, hz0, hz1, hz2⟩ := info_parts Tryd.infoCn
  obtain ⟨s1, s2, s3⟩ := lyS_range C m c
  have hpw := h.lt
  have eR : lyR C m c = lyA C m (lyS C m c : Int) (pkC C m c 5) (lyS C m c + 1) := rfl
  have eZ : lyZ C m c = lyB C m (lyS C m c : Int) (pkC C m (lyR C m c).1 3, (lyR C m c).2) (pkV C m (lyR C m c).1 3).toNat := rfl
  obtain ⟨zf1, zf2, zf3⟩ := lyR_facts C m c
  obtain ⟨S, eS⟩ : ∃ S, lyS C m c = S := ⟨_, rfl⟩
  rw [eS] at s1 s2 s3 eR eZ zf3 ⊢
  obtain ⟨Z, eZ'⟩ : ∃ Z, lyZ C m c = Z := ⟨_, rfl⟩
  rw [eZ'] at eZ ⊢
  go_enter Tryd.func21, Tryd.ntmps21
  go_wp2_with fail
  refine (pick_any B p m cap ao C c 5 _ (h.alloc _) (by omega) (by omega)).mono ?_
  rintro e w1 ⟨rfl, k1, t1⟩
  have r1 := (Box2.lay w (.int .i64 0) (.slice none 0 0) 25).turned t1 (.inl (by decide))
  have T1 : Turned w w1 (· = 61) p (p + 1) := (Turned.of_below (show Below w.heap.size w _ from (by repeat (first | exact Below.refl _ _ | assumption | refine below_alloc ?_ _ | refine Below.setCell ?_ (by first | omega | (simp; done) | (simp; omega)) _ | refine Below.alloc ?_ (by first | omega | (simp; done) | (simp; omega)) _ | refine Below.drew ?_)))).trans t1
  have p5 := pk_pos C m c 5
  obtain ⟨v, ev⟩ : ∃ v, pkV C m c 5 = v := ⟨_, rfl⟩
  rw [ev] at s1 ⊢
  obtain ⟨c1, ec1⟩ : ∃ c1, pkC C m c 5 = c1 := ⟨_, rfl⟩
  rw [ec1] at k1 p5 eR
  have I1 : LyI w (w1.alloc (.cells #[.int .i64 (1 + v), .slice none 0 0] 25)) B p ao m cap C w1.heap.size w.heap.size (1 + v) (.slice none 0 0) (lyA C m (S : Int) c1 0) :=
    ⟨k1.alloc _, Box2.lay w1 _ _ _, World.ownsRow_nil _ _ _ _, r1.alloc _, T1.trans (Turned.of_below (by repeat (first | exact Below.refl _ _ | assumption | refine below_alloc ?_ _ | refine Below.setCell ?_ (by first | omega | (simp; done) | (simp; omega)) _ | refine Below.alloc ?_ (by first | omega | (simp; done) | (simp; omega)) _ | refine Below.drew ?_))), Nat.le_refl _, r1.lt⟩
  have hv0 : 0 ≤ v := by omega
  have hv1 : v < 5 := by omega
  obtain ⟨q, eq⟩ : ∃ q, w1.heap.size = q := ⟨_, rfl⟩
  have S1 : Hid ((S : Int) = 1 + v) := s1
  have ER : Hid _ := eR
  have EZ : Hid _ := eZ
  have EQ : Hid _ := eq
  clear h k1 t1 T1 r1 eR eZ s1 ev ec1 eS eZ'
  go_wp2
  rw [EQ.out] at I1
  go_loopw [4] (fun i wr => ∃ (k : Nat) (u : Value), k ≤ S + 1 ∧ i = .int .i64 k ∧ LyI w wr B p ao m cap C q w.heap.size (1 + v) u (lyA C m (S : Int) c1 k)) (fun i _ => S + 1 - (intOf i).toNat)
  case atStart => exact ⟨0, _, Nat.zero_le _, rfl, I1⟩
  case round =>
    clear I1
    obtain ⟨k, u, hk, rfl, I⟩ := hrel
    obtain ⟨b0, b1⟩ := I.lay.cells
    have lq := I.lay.lt
    by_cases hlt : k ≤ S
    · have hi1 : (k : Int) ≤ 1 + v := by have := S1.out; omega
      obtain ⟨f1, f2, _⟩ := lyA_facts C m (S : Int) c1 k (by omega) (by omega)
      have eA : lyA C m (S : Int) c1 (k + 1) = (pkC C m (lyA C m (S : Int) c1 k).1 12, (lyA C m (S : Int) c1 k).2 ++ (if 0 < pkV C m (lyA C m (S : Int) c1 k).1 12 then [((k : Int) - 1, if (k : Int) = (S : Int) then -1 else (k : Int))] else [])) := rfl
      obtain ⟨z, ez⟩ : ∃ z, lyA C m (S : Int) c1 k = z := ⟨_, rfl⟩
      rw [ez] at I f1 f2 eA
      clear ez
      by_cases hkS : (k : Int) = 1 + v
      · have e : 1 + v = (k : Int) := hkS.symm
        rw [e] at I b0
        have HE : Hid (1 + v = (k : Int)) := e
        clear e hkS hi1 hv0 hv1
        have hU := I.on (show Below wr.heap.size wr (wr.alloc (.cells #[.int .i64 ((k : Int) - 1), .int .i64 (-1)] 74)) from (by repeat (first | exact Below.refl _ _ | assumption | refine below_alloc ?_ _ | refine Below.setCell ?_ (by first | omega | (simp; done) | (simp; omega)) _ | refine Below.alloc ?_ (by first | omega | (simp; done) | (simp; omega)) _ | refine Below.drew ?_)))
        have hx := Box2.lay wr (.int .i64 ((k : Int) - 1)) (.int .i64 (-1)) 74
        go_wp2_with fail
        refine (pick_any B p m cap ao C z.1 12 _ hU.cur (by omega) (by omega)).mono ?_
        rintro e w2 ⟨rfl, c2, t2⟩
        have J := hU.pick c2 t2
        have X2 := hx.turned t2 (.inl (by decide))
        obtain ⟨y, ey⟩ : ∃ y, pkV C m z.1 12 = y := ⟨_, rfl⟩
        rw [ey] at eA ⊢
        have EA : Hid _ := eA
        clear hU hx c2 t2 I b0 b1 lq ey eA
        obtain ⟨l0, l1⟩ := J.lay.cells
        obtain ⟨x0, x1⟩ := X2.cells
        have lq := J.lay.lt
        have lx := X2.lt
        have zl : z.2.length ≤ 6 := by omega
        have hrq := J.rq
        by_cases hy : 0 < y
        · have ownU := ow_on J.own (show Below w2.heap.size w2 (w2.alloc (.cells #[.int .i64 ((k : Int) - 1), .int .i64 (-1)] 74)) from (by repeat (first | exact Below.refl _ _ | assumption | refine below_alloc ?_ _ | refine Below.setCell ?_ (by first | omega | (simp; done) | (simp; omega)) _ | refine Below.alloc ?_ (by first | omega | (simp; done) | (simp; omega)) _ | refine Below.drew ?_)))
          have hnw := nw_cells2 w2 (.int .i64 ((k : Int) - 1)) (.int .i64 (-1)) 74
          have h1c : ∀ x ∈ [Value.int .i64 ((k : Int) - 1), .int .i64 (-1)], x.oneCell' = true := fun x hx => by
            simp only [List.mem_cons, List.not_mem_nil, or_false] at hx
            rcases hx with rfl | rfl <;> rfl
          have JU := J.alloc (.cells #[.int .i64 ((k : Int) - 1), .int .i64 (-1)] 74)
          have kq := fun w6 (hh : Nat) (tg : Turned (w2.alloc (.cells #[.int .i64 ((k : Int) - 1), .int .i64 (-1)] 74)) w6 (· = 74) (q + 1) hh) => JU.lay.turned tg (.inl (by decide))
          have HJ : Hid _ := JU
          have hbq : q + 1 ≤ (w2.alloc (.cells #[.int .i64 ((k : Int) - 1), .int .i64 (-1)] 74)).heap.size := by rw [World.size_alloc]; omega
          clear J X2 JU
          go_wp2_with (first
            | (at_builtin; refine wpList_append_own _ rfl _ _ 23 rfl (q + 1) 74 i0 _ 2 16 Tryd.underlying23 hi hz0 hz1 hz2 rfl (by decide) _ _ _ rfl ownU ⟨w2.heap.size, 0, none⟩ 1 1 [.int .i64 ((k : Int) - 1), .int .i64 (-1)] rfl rfl hnw h1c (by unfold maxLen; omega) (by omega) hbq ?_; intro v' w6 hown' hgrow hnil; obtain ⟨g6, cap6, rfl⟩ := ow_some hown' (by omega); have tg := ow_grown ownU hgrow; obtain ⟨n0, n1⟩ := (kq _ _ tg).cells; obtain ⟨m0, m1⟩ := (kq _ _ tg).frozen))
          go_roundw
          case rel => exact ⟨k + 1, _, by omega, by go_num, by rw [HE.out]; rw [EA.out, if_pos hy, (show (if (k : Int) = (S : Int) then (-1 : Int) else (k : Int)) = -1 from if_pos (by have := S1.out; have := HE.out; omega))]; exact LyI.app HJ.out ((k : Int) - 1, -1) hpw hown' tg⟩
          case measure => simp [intOf]; omega
        · have HJ : Hid _ := J
          clear J X2
          go_wp2
          go_roundw
          case rel => exact ⟨k + 1, u, by omega, by go_num, by rw [HE.out]; rw [EA.out, if_neg (by omega), List.append_nil]; exact HJ.out⟩
          case measure => simp [intOf]; omega
      · have hkS' : ¬ 1 + v = (k : Int) := fun e => hkS e.symm
        have hU := I.on (show Below wr.heap.size wr (wr.alloc (.cells #[.int .i64 ((k : Int) - 1), .int .i64 (k : Int)] 74)) from (by repeat (first | exact Below.refl _ _ | assumption | refine below_alloc ?_ _ | refine Below.setCell ?_ (by first | omega | (simp; done) | (simp; omega)) _ | refine Below.alloc ?_ (by first | omega | (simp; done) | (simp; omega)) _ | refine Below.drew ?_)))
        have hx := (Box2.lay wr (.int .i64 ((k : Int) - 1)) (.int .i64 (k : Int)) 74)
        go_wp2_with fail
        refine (pick_any B p m cap ao C z.1 12 _ hU.cur (by omega) (by omega)).mono ?_
        rintro e w2 ⟨rfl, c2, t2⟩
        have J := hU.pick c2 t2
        have X2 := hx.turned t2 (.inl (by decide))
        obtain ⟨y, ey⟩ : ∃ y, pkV C m z.1 12 = y := ⟨_, rfl⟩
        rw [ey] at eA ⊢
        have EA : Hid _ := eA
        clear hU hx c2 t2 I b0 b1 lq ey eA
        obtain ⟨l0, l1⟩ := J.lay.cells
        obtain ⟨x0, x1⟩ := X2.cells
        have lq := J.lay.lt
        have lx := X2.lt
        have zl : z.2.length ≤ 6 := by omega
        have hrq := J.rq
        by_cases hy : 0 < y
        · have ownU := ow_on J.own (show Below w2.heap.size w2 (w2.alloc (.cells #[.int .i64 ((k : Int) - 1), .int .i64 (k : Int)] 74)) from (by repeat (first | exact Below.refl _ _ | assumption | refine below_alloc ?_ _ | refine Below.setCell ?_ (by first | omega | (simp; done) | (simp; omega)) _ | refine Below.alloc ?_ (by first | omega | (simp; done) | (simp; omega)) _ | refine Below.drew ?_)))
          have hnw := nw_cells2 w2 (.int .i64 ((k : Int) - 1)) (.int .i64 (k : Int)) 74
          have h1c : ∀ x ∈ [Value.int .i64 ((k : Int) - 1), .int .i64 (k : Int)], x.oneCell' = true := fun x hx => by
            simp only [List.mem_cons, List.not_mem_nil, or_false] at hx
            rcases hx with rfl | rfl <;> rfl
          have JU := J.alloc (.cells #[.int .i64 ((k : Int) - 1), .int .i64 (k : Int)] 74)
          have kq := fun w6 (hh : Nat) (tg : Turned (w2.alloc (.cells #[.int .i64 ((k : Int) - 1), .int .i64 (k : Int)] 74)) w6 (· = 74) (q + 1) hh) => JU.lay.turned tg (.inl (by decide))
          have HJ : Hid _ := JU
          have hbq : q + 1 ≤ (w2.alloc (.cells #[.int .i64 ((k : Int) - 1), .int .i64 (k : Int)] 74)).heap.size := by rw [World.size_alloc]; omega
          clear J X2 JU
          go_wp2_with (first
            | (at_builtin; refine wpList_append_own _ rfl _ _ 23 rfl (q + 1) 74 i0 _ 2 16 Tryd.underlying23 hi hz0 hz1 hz2 rfl (by decide) _ _ _ rfl ownU ⟨w2.heap.size, 0, none⟩ 1 1 [.int .i64 ((k : Int) - 1), .int .i64 (k : Int)] rfl rfl hnw h1c (by unfold maxLen; omega) (by omega) hbq ?_; intro v' w6 hown' hgrow hnil; obtain ⟨g6, cap6, rfl⟩ := ow_some hown' (by omega); have tg := ow_grown ownU hgrow; obtain ⟨n0, n1⟩ := (kq _ _ tg).cells; obtain ⟨m0, m1⟩ := (kq _ _ tg).frozen))
          go_roundw
          case rel => exact ⟨k + 1, _, by omega, by go_num, by rw [EA.out, if_pos hy, (show (if (k : Int) = (S : Int) then (-1 : Int) else (k : Int)) = k from if_neg (by have := S1.out; omega))]; exact LyI.app HJ.out ((k : Int) - 1, (k : Int)) hpw hown' tg⟩
          case measure => simp [intOf]; omega
        · have HJ : Hid _ := J
          clear J X2
          go_wp2
          go_roundw
          case rel => exact ⟨k + 1, u, by omega, by go_num, by rw [EA.out, if_neg (by omega), List.append_nil]; exact HJ.out⟩
          case measure => simp [intOf]; omega
    · have hkS : k = S + 1 := by omega
      subst hkS
      have hi1 : ¬ ((S + 1 : Nat) : Int) ≤ 1 + v := by have := S1.out; omega
      rw [← ER.out] at I
      go_wp2_with fail
      refine (pick_any B p m cap ao C (lyR C m c).1 3 _ I.cur (by omega) (by omega)).mono ?_
      rintro e w2 ⟨rfl, c2, t2⟩
      have J := I.pick c2 t2
      rw [← S1.out] at J
      have y1 := pk_range C m (lyR C m c).1 3
      have y2 := y1.2 (by omega)
      have y3 := pk_pos C m (lyR C m c).1 3
      obtain ⟨N, eN⟩ : ∃ N : Nat, pkV C m (lyR C m c).1 3 = N := ⟨_, (Int.toNat_of_nonneg y1.1).symm⟩
      obtain ⟨z0, ez0⟩ : ∃ z0, (pkC C m (lyR C m c).1 3, (lyR C m c).2) = z0 := ⟨_, rfl⟩
      have ZZ : Hid (Z = lyB C m (S : Int) z0 N) := by
        show Z = _
        rw [EZ.out, ez0, eN]; rfl
      have zp : z0.1.pos ≤ c.pos + 8 := by rw [← ez0]; show (pkC C m (lyR C m c).1 3).pos ≤ _; omega
      have zl : z0.2.length ≤ 6 := by rw [← ez0]; exact zf2
      have zg : goodL (S : Int) z0.2 := by rw [← ez0]; exact zf3
      rw [ez0] at J
      rw [eN] at y1 y2 ⊢
      have hN : N < 3 := by omega
      clear I c2 t2 b0 b1 lq ER EZ ez0 eN y1 y2 y3 zf1 zf2 zf3 hi1 S1 hv0 hv1 hlt hk
      go_wp2
      go_loopw [6] (fun i wr => ∃ (k : Nat) (u : Value), k ≤ N ∧ i = .int .i64 ((N : Int) - k) ∧ LyI w wr B p ao m cap C q w.heap.size (S : Int) u (lyB C m (S : Int) z0 k)) (fun i _ => (intOf i).toNat)
      case atStart => exact ⟨0, u, Nat.zero_le _, by simp, J⟩
      case round =>
        clear J
        obtain ⟨k, u, hk, rfl, I⟩ := hrel
        rename World => wq
        obtain ⟨b0, b1⟩ := I.lay.cells
        have lq := I.lay.lt
        obtain ⟨f1, f2, _⟩ := lyB_facts C m (S : Int) z0 k (by omega) zg
        by_cases hlt : k < N
        · have hi1 : (k : Int) < (N : Int) := by omega
          have eA : lyB C m (S : Int) z0 (k + 1) = (pkC C m (pkC C m (lyB C m (S : Int) z0 k).1 ((S : Int) + 1)) ((S : Int) + 1), (lyB C m (S : Int) z0 k).2 ++ (if pkV C m (lyB C m (S : Int) z0 k).1 ((S : Int) + 1) - 1 = pkV C m (pkC C m (lyB C m (S : Int) z0 k).1 ((S : Int) + 1)) ((S : Int) + 1) - 1 then [] else [(pkV C m (lyB C m (S : Int) z0 k).1 ((S : Int) + 1) - 1, pkV C m (pkC C m (lyB C m (S : Int) z0 k).1 ((S : Int) + 1)) ((S : Int) + 1) - 1)])) := rfl
          obtain ⟨z, ez⟩ : ∃ z, lyB C m (S : Int) z0 k = z := ⟨_, rfl⟩
          rw [ez] at I f1 f2 eA
          clear ez
          have g1 := pk_pos C m z.1 ((S : Int) + 1)
          have a1 := pk_range C m z.1 ((S : Int) + 1)
          have a2 := a1.2 (by omega)
          have d1 := pk_range C m (pkC C m z.1 ((S : Int) + 1)) ((S : Int) + 1)
          have d2 := d1.2 (by omega)
          go_wp2_with fail
          refine (pick_any B p m cap ao C z.1 ((S : Int) + 1) _ I.cur (by omega) (by omega)).mono ?_
          rintro e w2 ⟨rfl, c2, t2⟩
          have J := I.pick c2 t2
          obtain ⟨xa, exa⟩ : ∃ xa, pkV C m z.1 ((S : Int) + 1) = xa := ⟨_, rfl⟩
          obtain ⟨ca, eca⟩ : ∃ ca, pkC C m z.1 ((S : Int) + 1) = ca := ⟨_, rfl⟩
          rw [exa, eca] at eA
          rw [eca] at J g1 d1 d2
          rw [exa] at a1 a2 ⊢
          obtain ⟨a0, _⟩ := a1
          clear I c2 t2 b0 b1 lq exa eca
          obtain ⟨b0, b1⟩ := J.lay.cells
          have lq := J.lay.lt
          go_wp2_with fail
          refine (pick_any B p m cap ao C ca ((S : Int) + 1) _ J.cur (by omega) (by omega)).mono ?_
          rintro e w3 ⟨rfl, c3, t3⟩
          have K := J.pick c3 t3
          obtain ⟨xb, exb⟩ : ∃ xb, pkV C m ca ((S : Int) + 1) = xb := ⟨_, rfl⟩
          rw [exb] at eA d1 d2 ⊢
          obtain ⟨d0, _⟩ := d1
          have EA : Hid _ := eA
          clear J c3 t3 b0 b1 lq exb eA
          obtain ⟨b0, b1⟩ := K.lay.cells
          have lq := K.lay.lt
          have zl : z.2.length ≤ 8 := by omega
          by_cases hy : xa = xb
          · subst hy
            have HJ : Hid _ := K
            clear K
            go_wp2
            go_roundw
            case rel => exact ⟨k + 1, u, by omega, by go_num, by rw [EA.out, if_pos trivial, List.append_nil]; exact HJ.out⟩
            case measure => simp [intOf]; omega
          · have hy' : ¬ xb = xa := fun e => hy e.symm
            have ownU := ow_on K.own (show Below w3.heap.size w3 (w3.alloc (.cells #[.int .i64 (xa - 1), .int .i64 (xb - 1)] 74)) from (by repeat (first | exact Below.refl _ _ | assumption | refine below_alloc ?_ _ | refine Below.setCell ?_ (by first | omega | (simp; done) | (simp; omega)) _ | refine Below.alloc ?_ (by first | omega | (simp; done) | (simp; omega)) _ | refine Below.drew ?_)))
            have hnw := nw_cells2 w3 (.int .i64 (xa - 1)) (.int .i64 (xb - 1)) 74
            have h1c : ∀ x ∈ [Value.int .i64 (xa - 1), .int .i64 (xb - 1)], x.oneCell' = true := fun x hx => by
              simp only [List.mem_cons, List.not_mem_nil, or_false] at hx
              rcases hx with rfl | rfl <;> rfl
            have JU := K.alloc (.cells #[.int .i64 (xa - 1), .int .i64 (xb - 1)] 74)
            have kq := fun w6 (hh : Nat) (tg : Turned (w3.alloc (.cells #[.int .i64 (xa - 1), .int .i64 (xb - 1)] 74)) w6 (· = 74) (q + 1) hh) => JU.lay.turned tg (.inl (by decide))
            have HJ : Hid _ := JU
            have hbq : q + 1 ≤ (w3.alloc (.cells #[.int .i64 (xa - 1), .int .i64 (xb - 1)] 74)).heap.size := by rw [World.size_alloc]; omega
            have hne : ¬ xa - 1 = xb - 1 := by omega
            clear K JU
            go_wp2_with (first
              | (at_builtin; refine wpList_append_own _ rfl _ _ 23 rfl (q + 1) 74 i0 _ 2 16 Tryd.underlying23 hi hz0 hz1 hz2 rfl (by decide) _ _ _ rfl ownU ⟨w3.heap.size, 0, none⟩ 1 1 [.int .i64 (xa - 1), .int .i64 (xb - 1)] rfl rfl hnw h1c (by unfold maxLen; omega) (by omega) hbq ?_; intro v' w6 hown' hgrow hnil; obtain ⟨g6, cap6, rfl⟩ := ow_some hown' (by omega); have tg := ow_grown ownU hgrow; obtain ⟨n0, n1⟩ := (kq _ _ tg).cells; obtain ⟨m0, m1⟩ := (kq _ _ tg).frozen))
            go_roundw
            case rel => exact ⟨k + 1, _, by omega, by go_num, by rw [EA.out, if_neg (by omega)]; exact LyI.app HJ.out (xa - 1, xb - 1) hpw hown' tg⟩
            case measure => simp [intOf]; omega
        · have hkN : k = N := by omega
          subst hkN
          rw [← ZZ.out] at I
          obtain ⟨g, rfl, hC⟩ := CRow.of_own I.own
          have hlo : ∀ ad, gA g = some ad → w.heap.size ≤ ad.block := fun ad had => by
            have hrq' := I.rq
            rcases I.own.2 with ⟨e, _⟩ | ⟨g', cap', cur', e, hb', _⟩
            · simp only [Value.slice.injEq] at e
              rw [had] at e
              exact absurd e.1 (by simp)
            · simp only [Value.slice.injEq] at e
              rw [had] at e
              have e1 := e.1
              simp only [Option.some.injEq] at e1
              rw [e1]
              show w.heap.size ≤ g'
              omega
          have HLO : Hid _ := hlo
          clear hlo
          obtain ⟨r0, r1⟩ := I.res.cells
          obtain ⟨r2, r3⟩ := I.res.frozen
          have lr := I.res.lt
          have hrq := I.rq
          have hne : ¬ w.heap.size = q := by omega
          have hne' : ¬ q = w.heap.size := by omega
          have hi1 : ¬ (0 : Int) < 0 := by omega
          have fin : Below w.heap.size wq ((wq.setCell ⟨w.heap.size, 0, none⟩ (.int .i64 (S : Int))).setCell ⟨w.heap.size, 1, none⟩ (.slice (gA g) Z.2.length (gC g))) := (by repeat (first | exact Below.refl _ _ | assumption | refine below_alloc ?_ _ | refine Below.setCell ?_ (by first | omega | (simp; done) | (simp; omega)) _ | refine Below.alloc ?_ (by first | omega | (simp; done) | (simp; omega)) _ | refine Below.drew ?_))
          have hCf := hC.turned (Turned.of_set2 I.res (.int .i64 (S : Int)) (.slice (gA g) Z.2.length (gC g))) (by decide)
          have hcu := (I.cur.set_other (a := ⟨w.heap.size, 0, none⟩) hpw (.int .i64 (S : Int))).set_other (a := ⟨w.heap.size, 1, none⟩) hpw (.slice (gA g) Z.2.length (gC g))
          have htu := I.tur.more fin
          clear I hC
          go_wp2
          exact bodyPost_ret (v := .agg #[.int .i64 (S : Int), .slice (gA g) Z.2.length (gC g)]) (by simp [results, Tryd.results21, go_sem, r0, r1]) rfl ⟨g, rfl, hCf, hcu, htu, HLO.out⟩

end Go.Proofs.YtlpopfhaephfaaaDoor
