import Derived.Test.YtlpopfhaephfaaaGreatDoorCR
import Derived.Test.YtlpopfhaephfaaaGreatDoorQS
namespace Go.Proofs.YtlpopfhaephfaaaGreatDoor
open Go.RowKit Go.Maps

theorem Sc.cells {w : World} {b : Nat} {S : Int} {g n mo md : Nat} {rest : List UInt8} {k : Int} (h : Sc w b S g n mo md rest k) :
    (w.cell? ⟨b, 0, none⟩ = some (.int .i64 S) ∧ w.cell? ⟨b, 1, none⟩ = some (.slice (gA g) n (gC g))) ∧ (w.cell? ⟨b, 2, none⟩ = some (.map (some mo)) ∧ w.cell? ⟨b, 3, none⟩ = some (.map (some md))) ∧ w.cell? ⟨b, 4, none⟩ = some (.string ⟨rest.toArray⟩) ∧ w.cell? ⟨b, 5, none⟩ = some (.int .i64 k) :=
  ⟨⟨Blk.cell h (i := 0) (by omega), Blk.cell h (i := 1) (by omega)⟩, ⟨Blk.cell h (i := 2) (by omega), Blk.cell h (i := 3) (by omega)⟩, Blk.cell h (i := 4) (by omega), Blk.cell h (i := 5) (by omega)⟩

theorem Sc.on {w w' : World} {b : Nat} {S : Int} {g n mo md : Nat} {rest : List UInt8} {k : Int} (h : Sc w b S g n mo md rest k) (hb : Below w.heap.size w w') : Sc w' b S g n mo md rest k := Blk.below h hb (Blk.lt h)

theorem Sc.line {w : World} {b : Nat} {S : Int} {g n mo md : Nat} {rest : List UInt8} {k : Int} (h : Sc w b S g n mo md rest k) (k' : Int) : Sc (w.setCell ⟨b, 5, none⟩ (.int .i64 k')) b S g n mo md rest k' :=
  (Blk.set h 5 _).congr fun i hi => by
    match i, hi with
    | 0, _ => rfl
    | 1, _ => rfl
    | 2, _ => rfl
    | 3, _ => rfl
    | 4, _ => rfl
    | 5, _ => rfl

theorem Sc.rest {w : World} {b : Nat} {S : Int} {g n mo md : Nat} {rest : List UInt8} {k : Int} (h : Sc w b S g n mo md rest k) (r' : List UInt8) : Sc (w.setCell ⟨b, 4, none⟩ (.string ⟨r'.toArray⟩)) b S g n mo md r' k :=
  (Blk.set h 4 _).congr fun i hi => by
    match i, hi with
    | 0, _ => rfl
    | 1, _ => rfl
    | 2, _ => rfl
    | 3, _ => rfl
    | 4, _ => rfl
    | 5, _ => rfl

theorem Knows.but {w w' : World} {b c : Nat} {f : List UInt8 → Option Int} (h : Knows w c f) (hb : w.grownBy w' (some b)) (hc : c ≠ b) : Knows w' c f := by
  obtain ⟨n, D, hn, ho, h2⟩ := h
  exact ⟨n, D, hn, ho.kept hb (fun e => hc (by injection e)), h2⟩

theorem drewN_below (w : World) (n : Nat) : Below w.heap.size w (w.drewN n) := ⟨rfl, rfl, rfl, Nat.le_refl _, fun _ _ => rfl⟩

theorem Box3.put3 {w : World} {b : Nat} {e : TypeId} {x y z : Value} (h : Box3 w b e x y z) (x' y' z' : Value) : Box3 (((w.setCell ⟨b, 0, none⟩ x').setCell ⟨b, 1, none⟩ y').setCell ⟨b, 2, none⟩ z') b e x' y' z' :=
  (((Blk.set h 0 x').set 1 y').set 2 z').congr fun i hi => by
    match i, hi with
    | 0, _ => rfl
    | 1, _ => rfl
    | 2, _ => rfl

theorem but_new {w w1 : World} {b r i : Nat} {v : Value} (h : w.grownBy w1 (some b)) (hr : w.heap.size ≤ r) : w.grownBy (w1.setCell ⟨r, i, none⟩ v) (some b) :=
  ⟨h.os, h.tape, h.output, by simpa using h.size, fun j hj hne => (Below.heap_setCell _ _ _ _ (fun e => by rw [e] at hj; simp at hj; omega)).trans (h.block j hj hne)⟩

/-- The block is none of the variables that are read. -/
def NoG (b : Nat) : Prop := b ≠ 0 ∧ b ≠ 1 ∧ b ≠ 3 ∧ b ≠ 4 ∧ b ≠ 2

theorem var_lt {P : Program} {g : Nat} {W : World} {n : String} {cs : Array Value} (hg : P.globalNamed n = some g) (hv : W.var? P n = some cs) : g < W.heap.size := by
  unfold World.var? at hv
  simp only [hg, Option.bind_some] at hv
  by_cases hl : g < W.heap.size
  · exact hl
  · rw [Array.getElem?_eq_none (by omega)] at hv
    cases hv

theorem LayR.noG {w : World} (h : LayR w) {b : Nat} (hb : w.heap.size ≤ b) : NoG b := by
  obtain ⟨⟨h0, hp⟩, ⟨t1, p1, h1⟩, ⟨t2, p2, h2⟩, m, h3⟩ := h
  have a0 := block_lt_of_cell (h0 0 (by omega))
  have a1 := var_lt Tryz.gPow hp
  have a2 := var_lt Tryz.gSyn h1
  have a3 := var_lt Tryz.gRng h2
  have a4 := block_lt_of_cell h3
  simp only at a0 a4
  exact ⟨by omega, by omega, by omega, by omega, by omega⟩

theorem var_but {P : Program} {g b : Nat} {W W' : World} {n : String} {cs : Array Value} (h : W.grownBy W' (some b)) (hg : P.globalNamed n = some g) (hv : W.var? P n = some cs) (hne : b ≠ g) : W'.var? P n = some cs := by
  have hl := var_lt hg hv
  unfold World.var? at hv ⊢
  simp only [hg, Option.bind_some] at hv ⊢
  rw [h.block g hl (fun e => hne (by injection e with e; exact e.symm))]
  exact hv

theorem cell_but {b : Nat} {W W' : World} {a : Addr} {v : Value} (h : W.grownBy W' (some b)) (hv : W.cell? a = some v) (hne : b ≠ a.block) : W'.cell? a = some v := by
  rw [World.cell?_of_block (h.block a.block (block_lt_of_cell hv) (fun e => hne (by injection e with e; exact e.symm)))]
  exact hv

theorem LayR.but {w w' : World} {b : Nat} (h : LayR w) (hb : w.grownBy w' (some b)) (hc : NoG b) : LayR w' := by
  obtain ⟨⟨h0, hp⟩, ⟨t1, p1, h1⟩, ⟨t2, p2, h2⟩, m, h3⟩ := h
  obtain ⟨c0, c1, c2, c3, c4⟩ := hc
  exact ⟨⟨fun i hi => cell_but hb (h0 i hi) c0, var_but hb Tryz.gPow hp c1⟩, ⟨t1, p1, var_but hb Tryz.gSyn h1 c2⟩, ⟨t2, p2, var_but hb Tryz.gRng h2 c3⟩, m, cell_but hb h3 c4⟩

theorem Blk.but {w w' : World} {b c : Nat} {e : TypeId} {m : Nat} {f : Nat → Value} (h : Blk w c e m f) (hb : w.grownBy w' (some b)) (hc : c ≠ b) : Blk w' c e m f :=
  h.of_block (hb.block c h.lt (fun e => hc (by injection e)))

set_option maxRecDepth 100000 in
set_option maxHeartbeats 8000000 in
theorem event_any (b : Nat) (S : Int) (g n mo md : Nat) (rest : List UInt8) (k : Nat) (w : World) (hn : n ≤ 120) (hs : Sc w b S g n mo md rest (k : Int)) (ho : Knows w mo opB) (hd : Knows w md dirB) (hb1 : mo ≠ b) (hb2 : md ≠ b) (hL : LayR w) (hg : NoG b) (hlen : rest.length ≤ 20000) (hk : k ≤ 2000) :
    Calls Tryz.prog 37 #[.pointer (some ⟨b, 0, none⟩)] w fun e w' => EvP w w' b S g n mo md rest k e := by
  obtain ⟨V, eV⟩ : ∃ V, (w.setCell ⟨b, 5, none⟩ (.int .i64 ((k : Int) + 1))).alloc (.cells #[.int .i64 0, .int .i64 0, .int .i64 0] 47) = V := ⟨_, rfl⟩
  have gV : w.grownBy V (some b) := by rw [← eV]; exact but_on (but_set w b 5 _) (below_alloc (Below.refl _ _) _)
  have sV : Sc V b S g n mo md rest ((k : Int) + 1) := by rw [← eV]; exact (hs.line _).on (below_alloc (Below.refl _ _) _)
  have rV : Box3 V w.heap.size 47 (.int .i64 0) (.int .i64 0) (.int .i64 0) := by
    rw [← eV]
    have := Blk.new (w.setCell ⟨b, 5, none⟩ (.int .i64 ((k : Int) + 1))) #[.int .i64 0, .int .i64 0, .int .i64 0] 47 (fun _ => .int .i64 0) (fun i hi => by simp at hi; match i, hi with | 0, _ => rfl | 1, _ => rfl | 2, _ => rfl)
    simp at this
    exact this.congr (fun i hi => by match i, hi with | 0, _ => rfl | 1, _ => rfl | 2, _ => rfl)
  have oV := ho.but gV hb1
  have dV := hd.but gV hb2
  have lV := hL.but gV hg
  have hbw : b < w.heap.size := Blk.lt hs
  obtain ⟨_, _, _, c5⟩ := hs.cells
  have z5 : w.frozen? ⟨b, 5, none⟩ = false := Blk.frozen hs 5
  have hbr : ¬ b = w.heap.size := by omega
  have EV : Hid _ := eV
  clear eV hs ho hd hL
  go_enter Tryz.func37, Tryz.ntmps37
  go_upto_region 2 with fail
  rw [EV.out]
  clear EV c5 z5
  obtain ⟨⟨s0, s1⟩, ⟨s2, s3⟩, s4, s5⟩ := sV.cells
  obtain ⟨m, hm⟩ := lV.mxl
  have kc := Tryz.strings_Cut ⟨rest.toArray⟩ ⟨#[10]⟩ m V (by rw [str_size]; omega) hm
  simp only at kc
  by_cases hten : 10 ∈ rest
  · obtain ⟨p, q, rfl, hp⟩ := mem_parts 10 rest hten
    rw [cut_hit1 10 p q hp] at kc
    simp only at kc
    by_cases hk2 : k < 2000
    · have hi1 : (k : Int) + 1 ≤ 2000 := by omega
      go_wp2_with fail
      refine kc.mono ?_
      clear kc
      rintro e w2 ⟨rfl, nd, h2⟩
      have b2 : Below V.heap.size V w2 := by rw [h2]; exact drewN_below _ _
      have s22 := sV.on b2
      obtain ⟨_, _, s24, s25⟩ := s22.cells
      have z24 : w2.frozen? ⟨b, 4, none⟩ = false := Blk.frozen s22 4
      have g2 := but_on gV b2
      have r2 := rV.on b2
      have o2 := oV.on b2
      have d2 := dV.on b2
      have l2 := lV.on b2
      clear h2 b2 sV rV oV dV lV gV hm s0 s1 s2 s3 s4 s5
      go_wp2_with fail
      with_reducible refine (must_true _ _).mono ?_
      rintro e w3 ⟨rfl, rfl⟩
      obtain ⟨X, eX⟩ : ∃ X, w3.setCell ⟨b, 4, none⟩ (.string ⟨q.toArray⟩) = X := ⟨_, rfl⟩
      have g3 : w3.grownBy X (some b) := by rw [← eX]; exact but_set w3 b 4 _
      have sX : Sc X b S g n mo md q ((k : Int) + 1) := by rw [← eX]; exact s22.rest q
      have gX := but_trans g2 g3
      have rX : Box3 X w.heap.size 47 (.int .i64 0) (.int .i64 0) (.int .i64 0) := Blk.but r2 g3 (Ne.symm hbr)
      have oX := o2.but g3 hb1
      have dX := d2.but g3 hb2
      have lX := l2.but g3 hg
      have EX : Hid _ := eX
      clear g2 g3 s22 r2 o2 d2 l2 eX
      obtain ⟨m, hm⟩ := lX.mxl
      have hpl : p.length ≤ 20000 := by simp at hlen; omega
      have ks := Tryz.strings_Split ⟨p.toArray⟩ ⟨#[32]⟩ m X (by rw [str_size]; omega) hm (by decide)
      obtain ⟨e1, e2⟩ := split_parts p
      rw [e1, e2] at ks
      have hpm := split_mem_le 32 p
      by_cases hbad : ¬ (Lib.split p [32]).length = 2 ∧ ¬ (Lib.split p [32]).length = 3
      · have hnone : parB S n p = none := by
          unfold parB
          split
          · rename_i h; rw [h] at hbad; simp at hbad
          · rename_i h; rw [h] at hbad; simp at hbad
          · rfl
        obtain ⟨A, eA⟩ : ∃ A : Array Value, (List.map Value.string (List.map (fun x => ({ data := x.toArray } : ByteArray)) (Lib.split p [32]))).toArray = A := ⟨_, rfl⟩
        obtain ⟨N, eN⟩ : ∃ N, (Lib.split p [32]).length = N := ⟨_, rfl⟩
        rw [eA, eN] at ks
        rw [eN] at hbad
        have hN2 : ¬ (N : Int) = 2 := by omega
        have hN3 : ¬ (N : Int) = 3 := by omega
        have bX : Below X.heap.size X (X.alloc (.cells A 9)) := below_alloc (Below.refl _ _) _
        obtain ⟨_, _, _, s5⟩ := (sX.on bX).cells
        have gF := but_on gX bX
        have NN : Hid _ := hnone
        clear e1 e2 eA eN hbad hpm hnone
        go_wp2_with fail
        rw [EX.out]
        refine ks.mono ?_
        clear ks EX hm
        rintro e w4 ⟨rfl, rfl⟩
        have hq : ((N : Int) == 2 || (N : Int) == 3) = false := by simp [hN2, hN3]
        go_wp2_with fail
        with_reducible refine (must_false _ _ _ s5).mono ?_
        rintro e w3 ⟨rfl, rfl⟩
        exact ⟨rfl, .inr ⟨rfl, .inr ⟨p, q, rfl, hp, .inr NN.out⟩⟩, gF⟩
      · have hparts : (∃ a c, Lib.split p [32] = [a, c]) ∨ ∃ a c s, Lib.split p [32] = [a, c, s] := by
          match h : Lib.split p [32], hbad with
          | [], hb => simp at hb
          | [_], hb => simp at hb
          | [a, c], _ => exact .inl ⟨a, c, rfl⟩
          | [a, c, s], _ => exact .inr ⟨a, c, s, rfl⟩
          | _ :: _ :: _ :: _ :: _, hb => simp at hb
        rcases hparts with ⟨a, c, hL⟩ | ⟨a, c, s, hL⟩
        · have la : a.length ≤ 20000 := by have := hpm a (by rw [hL]; simp); omega
          have lc : c.length ≤ 20000 := by have := hpm c (by rw [hL]; simp); omega
          rw [hL] at ks
          simp only [List.map_cons, List.map_nil, List.length_cons, List.length_nil, Nat.zero_add, Nat.reduceAdd] at ks
          obtain ⟨Y, eY⟩ : ∃ Y, X.alloc (.cells #[.string ⟨a.toArray⟩, .string ⟨c.toArray⟩] 9) = Y := ⟨_, rfl⟩
          have bX : Below X.heap.size X Y := by rw [← eY]; exact below_alloc (Below.refl _ _) _
          have pY : Blk Y X.heap.size 9 2 (fun i => (#[.string ⟨a.toArray⟩, .string ⟨c.toArray⟩] : Array Value)[i]!) := by
            rw [← eY]
            exact Blk.new X #[.string ⟨a.toArray⟩, .string ⟨c.toArray⟩] 9 _ (fun i hi => by simp at hi; match i, hi with | 0, _ => rfl | 1, _ => rfl)
          have sY := sX.on bX
          have rY := rX.on bX
          have oY := oX.on bX
          have dY := dX.on bX
          have lY := lX.on bX
          have gY := but_on gX bX
          have HL : Hid (Lib.split p [32] = [a, c]) := hL
          have EY : Hid _ := eY
          clear e1 e2 hL hbad hpm eY
          go_wp2_with fail
          rw [EX.out]
          refine ks.mono ?_
          clear ks EX hm
          rintro e w4 ⟨rfl, rfl⟩
          go_wp2_with fail
          have hY := EY.out
          simp only [List.toArray] at hY
          rw [EY.out]
          with_reducible refine (must_true _ _).mono ?_
          rintro e w5 ⟨rfl, h5⟩
          rw [h5]
          clear h5 w5
          clear EY hY bX sX rX oX dX lX gX
          obtain ⟨qp, eqp⟩ : ∃ x, X.heap.size = x := ⟨_, rfl⟩
          rw [eqp] at pY ⊢
          have lqp : qp < Y.heap.size := pY.lt
          have hP : ∀ W, Below Y.heap.size Y W → (W.cell? ⟨b, 2, none⟩ = some (.map (some mo)) ∧ W.cell? ⟨b, 3, none⟩ = some (.map (some md))) ∧ (W.cell? ⟨qp, 0, none⟩ = some (.string ⟨a.toArray⟩) ∧ W.cell? ⟨qp, 1, none⟩ = some (.string ⟨c.toArray⟩) ∧ True) ∧ Knows W mo opB ∧ Knows W md dirB ∧ LayR W ∧ W.cell? ⟨b, 5, none⟩ = some (.int .i64 ((k : Int) + 1)) := fun W hb =>
            ⟨(sY.on hb).cells.2.1, ⟨(pY.on hb).cell (i := 0) (by omega), (pY.on hb).cell (i := 1) (by omega), trivial⟩, oY.on hb, dY.on hb, lY.on hb, (sY.on hb).cells.2.2.2⟩
          have HP : Hid _ := hP
          clear hP eqp
          go_upto_region 7 with fail
          cases hop : opB a with
          | none =>
            have NN : Hid (parB S n p = none) := by
              show parB S n p = none
              unfold parB
              rw [HL.out]
              simp [hop]
            refine wp_region_any (by kernel_rfl) ?_
            refine InC.any (C := fun W => Below Y.heap.size Y W) _ _ _ _ ?_
            have C0 : Below Y.heap.size Y Y.drew := (Below.refl _ _).drew
            refine InC.take (i := 0) (v := .pointer (some ⟨b, 0, none⟩)) rfl (by kernel_rfl) (by kernel_rfl) (by kernel_rfl) (fun _ _ _ h => h) C0 (Or.inl ⟨by rfl, ?_⟩) ?_
            · intro W hW
              obtain ⟨⟨x2, x3⟩, ⟨y0, y1, y2⟩, _, _, _, _⟩ := HP.out W hW
              go_simp
            refine InC.take (i := 1) (v := .pointer (some ⟨b, 0, none⟩)) rfl (by kernel_rfl) (by kernel_rfl) (by kernel_rfl) (fun _ _ _ h => h) C0 (Or.inl ⟨by rfl, ?_⟩) ?_
            · intro W hW
              obtain ⟨⟨x2, x3⟩, ⟨y0, y1, y2⟩, _, _, _, _⟩ := HP.out W hW
              go_simp
            refine InC.take (i := 2) (v := .pointer (some ⟨b, 0, none⟩)) rfl (by kernel_rfl) (by kernel_rfl) (by kernel_rfl) (fun _ _ _ h => h) C0 (Or.inl ⟨by rfl, ?_⟩) ?_
            · intro W hW
              obtain ⟨⟨x2, x3⟩, ⟨y0, y1, y2⟩, _, _, _, _⟩ := HP.out W hW
              go_simp
            refine InC.take (i := 3) (v := .pointer (some ⟨b, 2, none⟩)) rfl (by kernel_rfl) (by kernel_rfl) (by kernel_rfl) (fun _ _ _ h => h) C0 (Or.inl ⟨by rfl, ?_⟩) ?_
            · intro W hW
              obtain ⟨⟨x2, x3⟩, ⟨y0, y1, y2⟩, _, _, _, _⟩ := HP.out W hW
              go_simp
            refine InC.take (i := 4) (v := .map (some mo)) rfl (by kernel_rfl) (by kernel_rfl) (by kernel_rfl) (fun _ _ _ h => h) C0 (Or.inl ⟨by rfl, ?_⟩) ?_
            · intro W hW
              obtain ⟨⟨x2, x3⟩, ⟨y0, y1, y2⟩, _, _, _, _⟩ := HP.out W hW
              go_simp
            refine InC.take (i := 5) (v := .slice (some ⟨qp, 0, none⟩) 2 2) rfl (by kernel_rfl) (by kernel_rfl) (by kernel_rfl) (fun _ _ _ h => h) C0 (Or.inl ⟨by rfl, ?_⟩) ?_
            · intro W hW
              obtain ⟨⟨x2, x3⟩, ⟨y0, y1, y2⟩, _, _, _, _⟩ := HP.out W hW
              go_simp
            refine InC.take (i := 6) (v := .pointer (some ⟨qp, 0, none⟩)) rfl (by kernel_rfl) (by kernel_rfl) (by kernel_rfl) (fun _ _ _ h => h) C0 (Or.inl ⟨by rfl, ?_⟩) ?_
            · intro W hW
              obtain ⟨⟨x2, x3⟩, ⟨y0, y1, y2⟩, _, _, _, _⟩ := HP.out W hW
              go_simp
            refine InC.take (i := 7) (v := .string ⟨a.toArray⟩) rfl (by kernel_rfl) (by kernel_rfl) (by kernel_rfl) (fun _ _ _ h => h) C0 (Or.inl ⟨by rfl, ?_⟩) ?_
            · intro W hW
              obtain ⟨⟨x2, x3⟩, ⟨y0, y1, y2⟩, _, _, _, _⟩ := HP.out W hW
              go_simp
            refine InC.take (i := 9) (v := .pointer (some ⟨b, 0, none⟩)) rfl (by kernel_rfl) (by kernel_rfl) (by kernel_rfl) (fun _ _ _ h => h) C0 (Or.inl ⟨by rfl, ?_⟩) ?_
            · intro W hW
              obtain ⟨⟨x2, x3⟩, ⟨y0, y1, y2⟩, _, _, _, _⟩ := HP.out W hW
              go_simp
            refine InC.take (i := 10) (v := .slice (some ⟨qp, 0, none⟩) 2 2) rfl (by kernel_rfl) (by kernel_rfl) (by kernel_rfl) (fun _ _ _ h => h) C0 (Or.inl ⟨by rfl, ?_⟩) ?_
            · intro W hW
              obtain ⟨⟨x2, x3⟩, ⟨y0, y1, y2⟩, _, _, _, _⟩ := HP.out W hW
              go_simp
            refine InC.take (i := 11) (v := .pointer (some ⟨qp, 1, none⟩)) rfl (by kernel_rfl) (by kernel_rfl) (by kernel_rfl) (fun _ _ _ h => h) C0 (Or.inl ⟨by rfl, ?_⟩) ?_
            · intro W hW
              obtain ⟨⟨x2, x3⟩, ⟨y0, y1, y2⟩, _, _, _, _⟩ := HP.out W hW
              go_simp
            refine InC.take (i := 12) (v := .string ⟨c.toArray⟩) rfl (by kernel_rfl) (by kernel_rfl) (by kernel_rfl) (fun _ _ _ h => h) C0 (Or.inl ⟨by rfl, ?_⟩) ?_
            · intro W hW
              obtain ⟨⟨x2, x3⟩, ⟨y0, y1, y2⟩, _, _, _, _⟩ := HP.out W hW
              go_simp
            have CA : Below Y.heap.size Y (Y.alloc (.cells #[.int .i64 0, .int .i64 0, .int .i64 0] 47)).drew := (below_alloc (Below.refl _ _) _).drew
            refine InC.next2 (i := 8) (j := 15) (by kernel_rfl) (InC.one rfl fun K hK => ?_) (InC.one rfl fun K hK => ?_)
            · go_simp
              obtain ⟨_, _, ko, _, _, k5⟩ := HP.out _ C0
              refine (word_none _ _ _ _ _ _ ko la hop k5).mono ?_
              rintro e w6 ⟨rfl, rfl⟩
              exact ⟨rfl, .inr ⟨rfl, .inr ⟨p, q, rfl, hp, .inr NN.out⟩⟩, but_on gY C0⟩
            · go_simp
              refine hK _ _ CA ?_
              clear hK K
              refine InC.next1 (i := 8) (by kernel_rfl) (InC.one rfl fun K hK => ?_)
              go_simp
              obtain ⟨_, _, ko, _, _, k5⟩ := HP.out _ CA
              refine (word_none _ _ _ _ _ _ ko la hop k5).mono ?_
              rintro e w6 ⟨rfl, rfl⟩
              exact ⟨rfl, .inr ⟨rfl, .inr ⟨p, q, rfl, hp, .inr NN.out⟩⟩, but_on gY CA⟩
          | some op =>
            cases hnu : numB c with
            | none =>
              have NN : Hid (parB S n p = none) := by
                show parB S n p = none
                unfold parB
                rw [HL.out]
                simp [hnu]
              refine wp_region_any (by kernel_rfl) ?_
              refine InC.any (C := fun W => Below Y.heap.size Y W) _ _ _ _ ?_
              have C0 : Below Y.heap.size Y Y.drew := (Below.refl _ _).drew
              refine InC.take (i := 0) (v := .pointer (some ⟨b, 0, none⟩)) rfl (by kernel_rfl) (by kernel_rfl) (by kernel_rfl) (fun _ _ _ h => h) C0 (Or.inl ⟨by rfl, ?_⟩) ?_
              · intro W hW
                obtain ⟨⟨x2, x3⟩, ⟨y0, y1, y2⟩, _, _, _, _⟩ := HP.out W hW
                go_simp
              refine InC.take (i := 1) (v := .pointer (some ⟨b, 0, none⟩)) rfl (by kernel_rfl) (by kernel_rfl) (by kernel_rfl) (fun _ _ _ h => h) C0 (Or.inl ⟨by rfl, ?_⟩) ?_
              · intro W hW
                obtain ⟨⟨x2, x3⟩, ⟨y0, y1, y2⟩, _, _, _, _⟩ := HP.out W hW
                go_simp
              refine InC.take (i := 2) (v := .pointer (some ⟨b, 0, none⟩)) rfl (by kernel_rfl) (by kernel_rfl) (by kernel_rfl) (fun _ _ _ h => h) C0 (Or.inl ⟨by rfl, ?_⟩) ?_
              · intro W hW
                obtain ⟨⟨x2, x3⟩, ⟨y0, y1, y2⟩, _, _, _, _⟩ := HP.out W hW
                go_simp
              refine InC.take (i := 3) (v := .pointer (some ⟨b, 2, none⟩)) rfl (by kernel_rfl) (by kernel_rfl) (by kernel_rfl) (fun _ _ _ h => h) C0 (Or.inl ⟨by rfl, ?_⟩) ?_
              · intro W hW
                obtain ⟨⟨x2, x3⟩, ⟨y0, y1, y2⟩, _, _, _, _⟩ := HP.out W hW
                go_simp
              refine InC.take (i := 4) (v := .map (some mo)) rfl (by kernel_rfl) (by kernel_rfl) (by kernel_rfl) (fun _ _ _ h => h) C0 (Or.inl ⟨by rfl, ?_⟩) ?_
              · intro W hW
                obtain ⟨⟨x2, x3⟩, ⟨y0, y1, y2⟩, _, _, _, _⟩ := HP.out W hW
                go_simp
              refine InC.take (i := 5) (v := .slice (some ⟨qp, 0, none⟩) 2 2) rfl (by kernel_rfl) (by kernel_rfl) (by kernel_rfl) (fun _ _ _ h => h) C0 (Or.inl ⟨by rfl, ?_⟩) ?_
              · intro W hW
                obtain ⟨⟨x2, x3⟩, ⟨y0, y1, y2⟩, _, _, _, _⟩ := HP.out W hW
                go_simp
              refine InC.take (i := 6) (v := .pointer (some ⟨qp, 0, none⟩)) rfl (by kernel_rfl) (by kernel_rfl) (by kernel_rfl) (fun _ _ _ h => h) C0 (Or.inl ⟨by rfl, ?_⟩) ?_
              · intro W hW
                obtain ⟨⟨x2, x3⟩, ⟨y0, y1, y2⟩, _, _, _, _⟩ := HP.out W hW
                go_simp
              refine InC.take (i := 7) (v := .string ⟨a.toArray⟩) rfl (by kernel_rfl) (by kernel_rfl) (by kernel_rfl) (fun _ _ _ h => h) C0 (Or.inl ⟨by rfl, ?_⟩) ?_
              · intro W hW
                obtain ⟨⟨x2, x3⟩, ⟨y0, y1, y2⟩, _, _, _, _⟩ := HP.out W hW
                go_simp
              refine InC.take (i := 9) (v := .pointer (some ⟨b, 0, none⟩)) rfl (by kernel_rfl) (by kernel_rfl) (by kernel_rfl) (fun _ _ _ h => h) C0 (Or.inl ⟨by rfl, ?_⟩) ?_
              · intro W hW
                obtain ⟨⟨x2, x3⟩, ⟨y0, y1, y2⟩, _, _, _, _⟩ := HP.out W hW
                go_simp
              refine InC.take (i := 10) (v := .slice (some ⟨qp, 0, none⟩) 2 2) rfl (by kernel_rfl) (by kernel_rfl) (by kernel_rfl) (fun _ _ _ h => h) C0 (Or.inl ⟨by rfl, ?_⟩) ?_
              · intro W hW
                obtain ⟨⟨x2, x3⟩, ⟨y0, y1, y2⟩, _, _, _, _⟩ := HP.out W hW
                go_simp
              refine InC.take (i := 11) (v := .pointer (some ⟨qp, 1, none⟩)) rfl (by kernel_rfl) (by kernel_rfl) (by kernel_rfl) (fun _ _ _ h => h) C0 (Or.inl ⟨by rfl, ?_⟩) ?_
              · intro W hW
                obtain ⟨⟨x2, x3⟩, ⟨y0, y1, y2⟩, _, _, _, _⟩ := HP.out W hW
                go_simp
              refine InC.take (i := 12) (v := .string ⟨c.toArray⟩) rfl (by kernel_rfl) (by kernel_rfl) (by kernel_rfl) (fun _ _ _ h => h) C0 (Or.inl ⟨by rfl, ?_⟩) ?_
              · intro W hW
                obtain ⟨⟨x2, x3⟩, ⟨y0, y1, y2⟩, _, _, _, _⟩ := HP.out W hW
                go_simp
              have CA : Below Y.heap.size Y (Y.alloc (.cells #[.int .i64 0, .int .i64 0, .int .i64 0] 47)).drew := (below_alloc (Below.refl _ _) _).drew
              refine InC.next2 (i := 8) (j := 15) (by kernel_rfl) (InC.one rfl fun K hK => ?_) (InC.one rfl fun K hK => ?_)
              · go_simp
                obtain ⟨_, _, ko, _, _, _⟩ := HP.out _ C0
                refine (word_some _ _ _ _ _ _ ko la hop).mono ?_
                rintro e w6 ⟨rfl, rfl⟩
                refine hK _ _ C0 ?_
                clear hK K
                refine InC.next2 (i := 13) (j := 15) (by kernel_rfl) (InC.one rfl fun K hK => ?_) (InC.one rfl fun K hK => ?_)
                · go_simp
                  obtain ⟨_, _, _, _, ly, k5⟩ := HP.out _ C0
                  refine (number_none _ _ _ _ lc hnu ly k5).mono ?_
                  rintro e w6 ⟨rfl, b6⟩
                  exact ⟨rfl, .inr ⟨rfl, .inr ⟨p, q, rfl, hp, .inr NN.out⟩⟩, but_on gY (below_on C0 b6)⟩
                · go_simp
                  refine hK _ _ CA ?_
                  clear hK K
                  refine InC.next1 (i := 13) (by kernel_rfl) (InC.one rfl fun K hK => ?_)
                  go_simp
                  obtain ⟨_, _, _, _, ly, k5⟩ := HP.out _ CA
                  refine (number_none _ _ _ _ lc hnu ly k5).mono ?_
                  rintro e w6 ⟨rfl, b6⟩
                  exact ⟨rfl, .inr ⟨rfl, .inr ⟨p, q, rfl, hp, .inr NN.out⟩⟩, but_on gY (below_on CA b6)⟩
              · go_simp
                refine hK _ _ CA ?_
                clear hK K
                refine InC.next1 (i := 8) (by kernel_rfl) (InC.one rfl fun K hK => ?_)
                go_simp
                obtain ⟨_, _, ko, _, _, _⟩ := HP.out _ CA
                refine (word_some _ _ _ _ _ _ ko la hop).mono ?_
                rintro e w6 ⟨rfl, rfl⟩
                refine hK _ _ CA ?_
                clear hK K
                refine InC.next1 (i := 13) (by kernel_rfl) (InC.one rfl fun K hK => ?_)
                go_simp
                obtain ⟨_, _, _, _, ly, k5⟩ := HP.out _ CA
                refine (number_none _ _ _ _ lc hnu ly k5).mono ?_
                rintro e w6 ⟨rfl, b6⟩
                exact ⟨rfl, .inr ⟨rfl, .inr ⟨p, q, rfl, hp, .inr NN.out⟩⟩, but_on gY (below_on CA b6)⟩
            | some f =>
              go_cut [7] from 50 (fun v wc => ∃ qe, v = .pointer (some ⟨qe, 0, none⟩) ∧ Y.heap.size ≤ qe ∧ Box3 wc qe 47 (.int .i64 op) (.int .i64 f) (.int .i64 0) ∧ Below Y.heap.size Y wc)
              case first =>
                refine wp_region_any (by kernel_rfl) ?_
                refine InC.any (C := fun W => Below Y.heap.size Y W) _ _ _ _ ?_
                have C0 : Below Y.heap.size Y Y.drew := (Below.refl _ _).drew
                refine InC.take (i := 0) (v := .pointer (some ⟨b, 0, none⟩)) rfl (by kernel_rfl) (by kernel_rfl) (by kernel_rfl) (fun _ _ _ h => h) C0 (Or.inl ⟨by rfl, ?_⟩) ?_
                · intro W hW
                  obtain ⟨⟨x2, x3⟩, ⟨y0, y1, y2⟩, _, _, _, _⟩ := HP.out W hW
                  go_simp
                refine InC.take (i := 1) (v := .pointer (some ⟨b, 0, none⟩)) rfl (by kernel_rfl) (by kernel_rfl) (by kernel_rfl) (fun _ _ _ h => h) C0 (Or.inl ⟨by rfl, ?_⟩) ?_
                · intro W hW
                  obtain ⟨⟨x2, x3⟩, ⟨y0, y1, y2⟩, _, _, _, _⟩ := HP.out W hW
                  go_simp
                refine InC.take (i := 2) (v := .pointer (some ⟨b, 0, none⟩)) rfl (by kernel_rfl) (by kernel_rfl) (by kernel_rfl) (fun _ _ _ h => h) C0 (Or.inl ⟨by rfl, ?_⟩) ?_
                · intro W hW
                  obtain ⟨⟨x2, x3⟩, ⟨y0, y1, y2⟩, _, _, _, _⟩ := HP.out W hW
                  go_simp
                refine InC.take (i := 3) (v := .pointer (some ⟨b, 2, none⟩)) rfl (by kernel_rfl) (by kernel_rfl) (by kernel_rfl) (fun _ _ _ h => h) C0 (Or.inl ⟨by rfl, ?_⟩) ?_
                · intro W hW
                  obtain ⟨⟨x2, x3⟩, ⟨y0, y1, y2⟩, _, _, _, _⟩ := HP.out W hW
                  go_simp
                refine InC.take (i := 4) (v := .map (some mo)) rfl (by kernel_rfl) (by kernel_rfl) (by kernel_rfl) (fun _ _ _ h => h) C0 (Or.inl ⟨by rfl, ?_⟩) ?_
                · intro W hW
                  obtain ⟨⟨x2, x3⟩, ⟨y0, y1, y2⟩, _, _, _, _⟩ := HP.out W hW
                  go_simp
                refine InC.take (i := 5) (v := .slice (some ⟨qp, 0, none⟩) 2 2) rfl (by kernel_rfl) (by kernel_rfl) (by kernel_rfl) (fun _ _ _ h => h) C0 (Or.inl ⟨by rfl, ?_⟩) ?_
                · intro W hW
                  obtain ⟨⟨x2, x3⟩, ⟨y0, y1, y2⟩, _, _, _, _⟩ := HP.out W hW
                  go_simp
                refine InC.take (i := 6) (v := .pointer (some ⟨qp, 0, none⟩)) rfl (by kernel_rfl) (by kernel_rfl) (by kernel_rfl) (fun _ _ _ h => h) C0 (Or.inl ⟨by rfl, ?_⟩) ?_
                · intro W hW
                  obtain ⟨⟨x2, x3⟩, ⟨y0, y1, y2⟩, _, _, _, _⟩ := HP.out W hW
                  go_simp
                refine InC.take (i := 7) (v := .string ⟨a.toArray⟩) rfl (by kernel_rfl) (by kernel_rfl) (by kernel_rfl) (fun _ _ _ h => h) C0 (Or.inl ⟨by rfl, ?_⟩) ?_
                · intro W hW
                  obtain ⟨⟨x2, x3⟩, ⟨y0, y1, y2⟩, _, _, _, _⟩ := HP.out W hW
                  go_simp
                refine InC.take (i := 9) (v := .pointer (some ⟨b, 0, none⟩)) rfl (by kernel_rfl) (by kernel_rfl) (by kernel_rfl) (fun _ _ _ h => h) C0 (Or.inl ⟨by rfl, ?_⟩) ?_
                · intro W hW
                  obtain ⟨⟨x2, x3⟩, ⟨y0, y1, y2⟩, _, _, _, _⟩ := HP.out W hW
                  go_simp
                refine InC.take (i := 10) (v := .slice (some ⟨qp, 0, none⟩) 2 2) rfl (by kernel_rfl) (by kernel_rfl) (by kernel_rfl) (fun _ _ _ h => h) C0 (Or.inl ⟨by rfl, ?_⟩) ?_
                · intro W hW
                  obtain ⟨⟨x2, x3⟩, ⟨y0, y1, y2⟩, _, _, _, _⟩ := HP.out W hW
                  go_simp
                refine InC.take (i := 11) (v := .pointer (some ⟨qp, 1, none⟩)) rfl (by kernel_rfl) (by kernel_rfl) (by kernel_rfl) (fun _ _ _ h => h) C0 (Or.inl ⟨by rfl, ?_⟩) ?_
                · intro W hW
                  obtain ⟨⟨x2, x3⟩, ⟨y0, y1, y2⟩, _, _, _, _⟩ := HP.out W hW
                  go_simp
                refine InC.take (i := 12) (v := .string ⟨c.toArray⟩) rfl (by kernel_rfl) (by kernel_rfl) (by kernel_rfl) (fun _ _ _ h => h) C0 (Or.inl ⟨by rfl, ?_⟩) ?_
                · intro W hW
                  obtain ⟨⟨x2, x3⟩, ⟨y0, y1, y2⟩, _, _, _, _⟩ := HP.out W hW
                  go_simp
                have CA : Below Y.heap.size Y (Y.alloc (.cells #[.int .i64 0, .int .i64 0, .int .i64 0] 47)).drew := (below_alloc (Below.refl _ _) _).drew
                have qA : Box3 (Y.alloc (.cells #[.int .i64 0, .int .i64 0, .int .i64 0] 47)).drew Y.heap.size 47 (.int .i64 0) (.int .i64 0) (.int .i64 0) := Box3.lay _ _ _ _ _
                refine InC.next2 (i := 8) (j := 15) (by kernel_rfl) (InC.one rfl fun K hK => ?_) (InC.one rfl fun K hK => ?_)
                · go_simp
                  obtain ⟨_, _, ko, _, _, _⟩ := HP.out _ C0
                  refine (word_some _ _ _ _ _ _ ko la hop).mono ?_
                  rintro e w6 ⟨rfl, rfl⟩
                  refine hK _ _ C0 ?_
                  clear hK K
                  refine InC.next2 (i := 13) (j := 15) (by kernel_rfl) (InC.one rfl fun K hK => ?_) (InC.one rfl fun K hK => ?_)
                  · go_simp
                    obtain ⟨_, _, _, _, ly, _⟩ := HP.out _ C0
                    refine (number_some _ _ _ _ lc hnu ly).mono ?_
                    rintro e w6 ⟨rfl, b6⟩
                    have CB := below_on C0 b6
                    refine hK _ _ CB ?_
                    clear hK K
                    refine InC.take (i := 14) (v := .agg #[.int .i64 op, .int .i64 f, .int .i64 0]) rfl (by kernel_rfl) (by kernel_rfl) (by kernel_rfl) (fun _ _ _ h => h) CB (Or.inl ⟨by rfl, ?_⟩) ?_
                    · intro W hW
                      go_simp
                    refine InC.next1 (i := 15) (by kernel_rfl) (InC.one rfl fun K hK => ?_)
                    go_simp
                    refine hK _ _ (below_alloc CB _) ?_
                    clear hK K
                    refine InC.next1 (i := 16) (by kernel_rfl) (InC.one rfl fun K hK => ?_)
                    go_simp
                    refine hK _ _ (below_alloc CB _) ?_
                    clear hK K
                    refine InC.done (by kernel_rfl) ?_
                    go_wp2_with fail
                    go_meet
                    case rel => exact ⟨_, rfl, CB.size, Box3.lay _ _ _ _ _, below_alloc CB _⟩
                  · go_simp
                    refine hK _ _ CA ?_
                    clear hK K
                    refine InC.next1 (i := 13) (by kernel_rfl) (InC.one rfl fun K hK => ?_)
                    go_simp
                    obtain ⟨_, _, _, _, ly, _⟩ := HP.out _ CA
                    refine (number_some _ _ _ _ lc hnu ly).mono ?_
                    rintro e w6 ⟨rfl, b6⟩
                    have CB := below_on CA b6
                    have q6 := qA.on b6
                    obtain ⟨e0, e1, e2⟩ := q6.cells
                    have f0 := Blk.frozen q6 0
                    have f1 := Blk.frozen q6 1
                    have f2 := Blk.frozen q6 2
                    refine hK _ _ CB ?_
                    clear hK K
                    refine InC.next1 (i := 14) (by kernel_rfl) (InC.one rfl fun K hK => ?_)
                    go_simp
                    refine hK _ _ CB ?_
                    clear hK K
                    refine InC.next1 (i := 16) (by kernel_rfl) (InC.one rfl fun K hK => ?_)
                    go_simp
                    have CE : Below Y.heap.size Y (((w6.setCell ⟨Y.heap.size, 0, none⟩ (.int .i64 op)).setCell ⟨Y.heap.size, 1, none⟩ (.int .i64 f)).setCell ⟨Y.heap.size, 2, none⟩ (.int .i64 0)) := ((CB.setCell (Nat.le_refl _) _).setCell (Nat.le_refl _) _).setCell (Nat.le_refl _) _
                    refine hK _ _ CE ?_
                    clear hK K
                    refine InC.done (by kernel_rfl) ?_
                    go_wp2_with fail
                    go_meet
                    case rel => exact ⟨_, rfl, Nat.le_refl _, q6.put3 _ _ _, CE⟩
                · go_simp
                  refine hK _ _ CA ?_
                  clear hK K
                  refine InC.next1 (i := 8) (by kernel_rfl) (InC.one rfl fun K hK => ?_)
                  go_simp
                  obtain ⟨_, _, ko, _, _, _⟩ := HP.out _ CA
                  refine (word_some _ _ _ _ _ _ ko la hop).mono ?_
                  rintro e w6 ⟨rfl, rfl⟩
                  refine hK _ _ CA ?_
                  clear hK K
                  refine InC.next1 (i := 13) (by kernel_rfl) (InC.one rfl fun K hK => ?_)
                  go_simp
                  obtain ⟨_, _, _, _, ly, _⟩ := HP.out _ CA
                  refine (number_some _ _ _ _ lc hnu ly).mono ?_
                  rintro e w6 ⟨rfl, b6⟩
                  have CB := below_on CA b6
                  have q6 := qA.on b6
                  obtain ⟨e0, e1, e2⟩ := q6.cells
                  have f0 := Blk.frozen q6 0
                  have f1 := Blk.frozen q6 1
                  have f2 := Blk.frozen q6 2
                  refine hK _ _ CB ?_
                  clear hK K
                  refine InC.next1 (i := 14) (by kernel_rfl) (InC.one rfl fun K hK => ?_)
                  go_simp
                  refine hK _ _ CB ?_
                  clear hK K
                  refine InC.next1 (i := 16) (by kernel_rfl) (InC.one rfl fun K hK => ?_)
                  go_simp
                  have CE : Below Y.heap.size Y (((w6.setCell ⟨Y.heap.size, 0, none⟩ (.int .i64 op)).setCell ⟨Y.heap.size, 1, none⟩ (.int .i64 f)).setCell ⟨Y.heap.size, 2, none⟩ (.int .i64 0)) := ((CB.setCell (Nat.le_refl _) _).setCell (Nat.le_refl _) _).setCell (Nat.le_refl _) _
                  refine hK _ _ CE ?_
                  clear hK K
                  refine InC.done (by kernel_rfl) ?_
                  go_wp2_with fail
                  go_meet
                  case rel => exact ⟨_, rfl, Nat.le_refl _, q6.put3 _ _ _, CE⟩
              case rest =>
                obtain ⟨qe, rfl, hqe, bq, bw⟩ := hcut
                rename World => Z
                have sZ := sY.on bw
                have rZ := rY.on bw
                have gZ := but_on gY bw
                have dZ := dY.on bw
                have g0 : Hid (w.heap.size < qe) := Nat.lt_of_lt_of_le rY.lt hqe
                clear HP pY sY rY oY dY lY gY dZ bw lqp
                have hZ : ∀ W, Below Z.heap.size Z W → (W.cell? ⟨b, 0, none⟩ = some (.int .i64 S) ∧ W.cell? ⟨b, 1, none⟩ = some (.slice (gA g) n (gC g))) ∧ W.cell? ⟨qe, 0, none⟩ = some (.int .i64 op) ∧ W.cell? ⟨qe, 1, none⟩ = some (.int .i64 f) ∧ W.cell? ⟨qe, 2, none⟩ = some (.int .i64 0) := fun W hb => ⟨(sZ.on hb).cells.1, (bq.on hb).cells⟩
                have HZ : Hid _ := hZ
                clear hZ
                have C1 : Below Z.heap.size Z Z.drew := (Below.refl _ _).drew
                have ke := happensIn_any S op f 0 n g Z.drew hn
                go_upto_region 10 with fail
                refine wp_region_any (by kernel_rfl) ?_
                refine InC.any (C := fun W => Below Z.heap.size Z W) _ _ _ _ ?_
                refine InC.take (i := 0) (v := .pointer (some ⟨b, 0, none⟩)) rfl (by kernel_rfl) (by kernel_rfl) (by kernel_rfl) (fun _ _ _ h => h) C1 (Or.inl ⟨by rfl, ?_⟩) ?_
                · intro W hW
                  obtain ⟨⟨x0, x1⟩, x2, x3, x4⟩ := HZ.out W hW
                  go_simp
                refine InC.take (i := 1) (v := .pointer (some ⟨b, 0, none⟩)) rfl (by kernel_rfl) (by kernel_rfl) (by kernel_rfl) (fun _ _ _ h => h) C1 (Or.inl ⟨by rfl, ?_⟩) ?_
                · intro W hW
                  obtain ⟨⟨x0, x1⟩, x2, x3, x4⟩ := HZ.out W hW
                  go_simp
                refine InC.take (i := 2) (v := .pointer (some ⟨b, 0, none⟩)) rfl (by kernel_rfl) (by kernel_rfl) (by kernel_rfl) (fun _ _ _ h => h) C1 (Or.inl ⟨by rfl, ?_⟩) ?_
                · intro W hW
                  obtain ⟨⟨x0, x1⟩, x2, x3, x4⟩ := HZ.out W hW
                  go_simp
                refine InC.take (i := 3) (v := .pointer (some ⟨b, 0, none⟩)) rfl (by kernel_rfl) (by kernel_rfl) (by kernel_rfl) (fun _ _ _ h => h) C1 (Or.inl ⟨by rfl, ?_⟩) ?_
                · intro W hW
                  obtain ⟨⟨x0, x1⟩, x2, x3, x4⟩ := HZ.out W hW
                  go_simp
                refine InC.take (i := 4) (v := .agg #[.int .i64 S, .slice (gA g) n (gC g)]) rfl (by kernel_rfl) (by kernel_rfl) (by kernel_rfl) (fun _ _ _ h => h) C1 (Or.inl ⟨by rfl, ?_⟩) ?_
                · intro W hW
                  obtain ⟨⟨x0, x1⟩, x2, x3, x4⟩ := HZ.out W hW
                  go_simp
                refine InC.take (i := 5) (v := .agg #[.int .i64 op, .int .i64 f, .int .i64 0]) rfl (by kernel_rfl) (by kernel_rfl) (by kernel_rfl) (fun _ _ _ h => h) C1 (Or.inl ⟨by rfl, ?_⟩) ?_
                · intro W hW
                  obtain ⟨⟨x0, x1⟩, x2, x3, x4⟩ := HZ.out W hW
                  go_simp
                refine InC.next1 (i := 6) (by kernel_rfl) (InC.one rfl fun K hK => ?_)
                go_simp
                refine ke.mono ?_
                clear ke
                rintro e w7 ⟨rfl, b7⟩
                have C7 := below_on C1 b7
                cases hv : evB S n op f 0 with
                | false =>
                  have NN : Hid (parB S n p = none) := by
                    show parB S n p = none
                    unfold parB
                    rw [HL.out]
                    simp [hop, hnu, hv]
                  rw [show hapI S n op f 0 = .nilIface from by unfold hapI; rw [hv]; rfl]
                  refine hK _ _ C7 ?_
                  clear hK K
                  refine InC.take (i := 7) (v := .bool false) rfl (by kernel_rfl) (by kernel_rfl) (by kernel_rfl) (fun _ _ _ h => h) C7 (Or.inl ⟨by rfl, ?_⟩) ?_
                  · intro W hW
                    go_simp
                  refine InC.next1 (i := 8) (by kernel_rfl) (InC.one rfl fun K hK => ?_)
                  go_simp
                  with_reducible refine (must_false _ _ _ (sZ.on C7).cells.2.2.2).mono ?_
                  rintro e w8 ⟨rfl, rfl⟩
                  exact ⟨rfl, .inr ⟨rfl, .inr ⟨p, q, rfl, hp, .inr NN.out⟩⟩, but_on gZ C7⟩
                | true =>
                  have NN : Hid (parB S n p = some (op, f, 0)) := by
                    show parB S n p = some (op, f, 0)
                    unfold parB
                    rw [HL.out]
                    simp [hop, hnu, hv]
                  obtain ⟨t0, v0, hn0⟩ := hap_ne hv
                  rw [hn0]
                  refine hK _ _ C7 ?_
                  clear hK K
                  refine InC.take (i := 7) (v := .bool true) rfl (by kernel_rfl) (by kernel_rfl) (by kernel_rfl) (fun _ _ _ h => h) C7 (Or.inl ⟨by rfl, ?_⟩) ?_
                  · intro W hW
                    go_simp
                  refine InC.next1 (i := 8) (by kernel_rfl) (InC.one rfl fun K hK => ?_)
                  go_simp
                  with_reducible refine (must_true _ _).mono ?_
                  rintro e w8 ⟨rfl, h8⟩
                  rw [h8]
                  clear h8 w8
                  refine hK _ _ C7 ?_
                  clear hK K
                  refine InC.done (by kernel_rfl) ?_
                  obtain ⟨_, x2, x3, x4⟩ := HZ.out _ C7
                  have s7 := sZ.on C7
                  have r7 := rZ.on C7
                  obtain ⟨r0, r1, r2⟩ := r7.cells
                  have z0 := Blk.frozen r7 0
                  have z1 := Blk.frozen r7 1
                  have z2 := Blk.frozen r7 2
                  have g7 := but_on gZ C7
                  have hqe' : ¬ qe = w.heap.size := by have := g0.out; omega
                  have r9 := r7.put3 (.int .i64 op) (.int .i64 f) (.int .i64 0)
                  have s9 : Sc (((w7.setCell ⟨w.heap.size, 0, none⟩ (.int .i64 op)).setCell ⟨w.heap.size, 1, none⟩ (.int .i64 f)).setCell ⟨w.heap.size, 2, none⟩ (.int .i64 0)) b S g n mo md q ((k : Int) + 1) := ((Blk.set_other s7 (Ne.symm hbr) _).set_other (Ne.symm hbr) _).set_other (Ne.symm hbr) _
                  have g9 : w.grownBy (((w7.setCell ⟨w.heap.size, 0, none⟩ (.int .i64 op)).setCell ⟨w.heap.size, 1, none⟩ (.int .i64 f)).setCell ⟨w.heap.size, 2, none⟩ (.int .i64 0)) (some b) := but_new (but_new (but_new g7 (Nat.le_refl _)) (Nat.le_refl _)) (Nat.le_refl _)
                  obtain ⟨m0, m1, m2⟩ := r9.cells
                  have FIN : Hid (EvP w (((w7.setCell ⟨w.heap.size, 0, none⟩ (.int .i64 op)).setCell ⟨w.heap.size, 1, none⟩ (.int .i64 f)).setCell ⟨w.heap.size, 2, none⟩ (.int .i64 0)) b S g n mo md (p ++ 10 :: q) k (.returned (.agg #[.int .i64 op, .int .i64 f, .int .i64 0]))) := ⟨.inl ⟨p, q, op, f, 0, rfl, hp, hk2, NN.out, rfl, s9⟩, g9⟩
                  clear s9 g9 r9 s7 r7 g7 sZ rZ gZ bq HZ
                  go_wp2
                  exact bodyPost_ret (v := .agg #[.int .i64 op, .int .i64 f, .int .i64 0]) (by simp [results, Tryz.results37, go_sem, m0, m1, m2]) rfl FIN.out
        · have la : a.length ≤ 20000 := by have := hpm a (by rw [hL]; simp); omega
          have lc : c.length ≤ 20000 := by have := hpm c (by rw [hL]; simp); omega
          have ls : s.length ≤ 20000 := by have := hpm s (by rw [hL]; simp); omega
          rw [hL] at ks
          simp only [List.map_cons, List.map_nil, List.length_cons, List.length_nil, Nat.zero_add, Nat.reduceAdd] at ks
          obtain ⟨Y, eY⟩ : ∃ Y, X.alloc (.cells #[.string ⟨a.toArray⟩, .string ⟨c.toArray⟩, .string ⟨s.toArray⟩] 9) = Y := ⟨_, rfl⟩
          have bX : Below X.heap.size X Y := by rw [← eY]; exact below_alloc (Below.refl _ _) _
          have pY : Blk Y X.heap.size 9 3 (fun i => (#[.string ⟨a.toArray⟩, .string ⟨c.toArray⟩, .string ⟨s.toArray⟩] : Array Value)[i]!) := by
            rw [← eY]
            exact Blk.new X #[.string ⟨a.toArray⟩, .string ⟨c.toArray⟩, .string ⟨s.toArray⟩] 9 _ (fun i hi => by simp at hi; match i, hi with | 0, _ => rfl | 1, _ => rfl | 2, _ => rfl)
          have sY := sX.on bX
          have rY := rX.on bX
          have oY := oX.on bX
          have dY := dX.on bX
          have lY := lX.on bX
          have gY := but_on gX bX
          have HL : Hid (Lib.split p [32] = [a, c, s]) := hL
          have EY : Hid _ := eY
          clear e1 e2 hL hbad hpm eY
          go_wp2_with fail
          rw [EX.out]
          refine ks.mono ?_
          clear ks EX hm
          rintro e w4 ⟨rfl, rfl⟩
          go_wp2_with fail
          have hY := EY.out
          simp only [List.toArray] at hY
          rw [EY.out]
          with_reducible refine (must_true _ _).mono ?_
          rintro e w5 ⟨rfl, h5⟩
          rw [h5]
          clear h5 w5
          clear EY hY bX sX rX oX dX lX gX
          obtain ⟨qp, eqp⟩ : ∃ x, X.heap.size = x := ⟨_, rfl⟩
          rw [eqp] at pY ⊢
          have lqp : qp < Y.heap.size := pY.lt
          have hP : ∀ W, Below Y.heap.size Y W → (W.cell? ⟨b, 2, none⟩ = some (.map (some mo)) ∧ W.cell? ⟨b, 3, none⟩ = some (.map (some md))) ∧ (W.cell? ⟨qp, 0, none⟩ = some (.string ⟨a.toArray⟩) ∧ W.cell? ⟨qp, 1, none⟩ = some (.string ⟨c.toArray⟩) ∧ W.cell? ⟨qp, 2, none⟩ = some (.string ⟨s.toArray⟩)) ∧ Knows W mo opB ∧ Knows W md dirB ∧ LayR W ∧ W.cell? ⟨b, 5, none⟩ = some (.int .i64 ((k : Int) + 1)) := fun W hb =>
            ⟨(sY.on hb).cells.2.1, ⟨(pY.on hb).cell (i := 0) (by omega), (pY.on hb).cell (i := 1) (by omega), (pY.on hb).cell (i := 2) (by omega)⟩, oY.on hb, dY.on hb, lY.on hb, (sY.on hb).cells.2.2.2⟩
          have HP : Hid _ := hP
          clear hP eqp
          go_upto_region 7 with fail
          cases hop : opB a with
          | none =>
            have NN : Hid (parB S n p = none) := by
              show parB S n p = none
              unfold parB
              rw [HL.out]
              simp [hop]
            refine wp_region_any (by kernel_rfl) ?_
            refine InC.any (C := fun W => Below Y.heap.size Y W) _ _ _ _ ?_
            have C0 : Below Y.heap.size Y Y.drew := (Below.refl _ _).drew
            refine InC.take (i := 0) (v := .pointer (some ⟨b, 0, none⟩)) rfl (by kernel_rfl) (by kernel_rfl) (by kernel_rfl) (fun _ _ _ h => h) C0 (Or.inl ⟨by rfl, ?_⟩) ?_
            · intro W hW
              obtain ⟨⟨x2, x3⟩, ⟨y0, y1, y2⟩, _, _, _, _⟩ := HP.out W hW
              go_simp
            refine InC.take (i := 1) (v := .pointer (some ⟨b, 0, none⟩)) rfl (by kernel_rfl) (by kernel_rfl) (by kernel_rfl) (fun _ _ _ h => h) C0 (Or.inl ⟨by rfl, ?_⟩) ?_
            · intro W hW
              obtain ⟨⟨x2, x3⟩, ⟨y0, y1, y2⟩, _, _, _, _⟩ := HP.out W hW
              go_simp
            refine InC.take (i := 2) (v := .pointer (some ⟨b, 0, none⟩)) rfl (by kernel_rfl) (by kernel_rfl) (by kernel_rfl) (fun _ _ _ h => h) C0 (Or.inl ⟨by rfl, ?_⟩) ?_
            · intro W hW
              obtain ⟨⟨x2, x3⟩, ⟨y0, y1, y2⟩, _, _, _, _⟩ := HP.out W hW
              go_simp
            refine InC.take (i := 3) (v := .pointer (some ⟨b, 2, none⟩)) rfl (by kernel_rfl) (by kernel_rfl) (by kernel_rfl) (fun _ _ _ h => h) C0 (Or.inl ⟨by rfl, ?_⟩) ?_
            · intro W hW
              obtain ⟨⟨x2, x3⟩, ⟨y0, y1, y2⟩, _, _, _, _⟩ := HP.out W hW
              go_simp
            refine InC.take (i := 4) (v := .map (some mo)) rfl (by kernel_rfl) (by kernel_rfl) (by kernel_rfl) (fun _ _ _ h => h) C0 (Or.inl ⟨by rfl, ?_⟩) ?_
            · intro W hW
              obtain ⟨⟨x2, x3⟩, ⟨y0, y1, y2⟩, _, _, _, _⟩ := HP.out W hW
              go_simp
            refine InC.take (i := 5) (v := .slice (some ⟨qp, 0, none⟩) 3 3) rfl (by kernel_rfl) (by kernel_rfl) (by kernel_rfl) (fun _ _ _ h => h) C0 (Or.inl ⟨by rfl, ?_⟩) ?_
            · intro W hW
              obtain ⟨⟨x2, x3⟩, ⟨y0, y1, y2⟩, _, _, _, _⟩ := HP.out W hW
              go_simp
            refine InC.take (i := 6) (v := .pointer (some ⟨qp, 0, none⟩)) rfl (by kernel_rfl) (by kernel_rfl) (by kernel_rfl) (fun _ _ _ h => h) C0 (Or.inl ⟨by rfl, ?_⟩) ?_
            · intro W hW
              obtain ⟨⟨x2, x3⟩, ⟨y0, y1, y2⟩, _, _, _, _⟩ := HP.out W hW
              go_simp
            refine InC.take (i := 7) (v := .string ⟨a.toArray⟩) rfl (by kernel_rfl) (by kernel_rfl) (by kernel_rfl) (fun _ _ _ h => h) C0 (Or.inl ⟨by rfl, ?_⟩) ?_
            · intro W hW
              obtain ⟨⟨x2, x3⟩, ⟨y0, y1, y2⟩, _, _, _, _⟩ := HP.out W hW
              go_simp
            refine InC.take (i := 9) (v := .pointer (some ⟨b, 0, none⟩)) rfl (by kernel_rfl) (by kernel_rfl) (by kernel_rfl) (fun _ _ _ h => h) C0 (Or.inl ⟨by rfl, ?_⟩) ?_
            · intro W hW
              obtain ⟨⟨x2, x3⟩, ⟨y0, y1, y2⟩, _, _, _, _⟩ := HP.out W hW
              go_simp
            refine InC.take (i := 10) (v := .slice (some ⟨qp, 0, none⟩) 3 3) rfl (by kernel_rfl) (by kernel_rfl) (by kernel_rfl) (fun _ _ _ h => h) C0 (Or.inl ⟨by rfl, ?_⟩) ?_
            · intro W hW
              obtain ⟨⟨x2, x3⟩, ⟨y0, y1, y2⟩, _, _, _, _⟩ := HP.out W hW
              go_simp
            refine InC.take (i := 11) (v := .pointer (some ⟨qp, 1, none⟩)) rfl (by kernel_rfl) (by kernel_rfl) (by kernel_rfl) (fun _ _ _ h => h) C0 (Or.inl ⟨by rfl, ?_⟩) ?_
            · intro W hW
              obtain ⟨⟨x2, x3⟩, ⟨y0, y1, y2⟩, _, _, _, _⟩ := HP.out W hW
              go_simp
            refine InC.take (i := 12) (v := .string ⟨c.toArray⟩) rfl (by kernel_rfl) (by kernel_rfl) (by kernel_rfl) (fun _ _ _ h => h) C0 (Or.inl ⟨by rfl, ?_⟩) ?_
            · intro W hW
              obtain ⟨⟨x2, x3⟩, ⟨y0, y1, y2⟩, _, _, _, _⟩ := HP.out W hW
              go_simp
            have CA : Below Y.heap.size Y (Y.alloc (.cells #[.int .i64 0, .int .i64 0, .int .i64 0] 47)).drew := (below_alloc (Below.refl _ _) _).drew
            refine InC.next2 (i := 8) (j := 15) (by kernel_rfl) (InC.one rfl fun K hK => ?_) (InC.one rfl fun K hK => ?_)
            · go_simp
              obtain ⟨_, _, ko, _, _, k5⟩ := HP.out _ C0
              refine (word_none _ _ _ _ _ _ ko la hop k5).mono ?_
              rintro e w6 ⟨rfl, rfl⟩
              exact ⟨rfl, .inr ⟨rfl, .inr ⟨p, q, rfl, hp, .inr NN.out⟩⟩, but_on gY C0⟩
            · go_simp
              refine hK _ _ CA ?_
              clear hK K
              refine InC.next1 (i := 8) (by kernel_rfl) (InC.one rfl fun K hK => ?_)
              go_simp
              obtain ⟨_, _, ko, _, _, k5⟩ := HP.out _ CA
              refine (word_none _ _ _ _ _ _ ko la hop k5).mono ?_
              rintro e w6 ⟨rfl, rfl⟩
              exact ⟨rfl, .inr ⟨rfl, .inr ⟨p, q, rfl, hp, .inr NN.out⟩⟩, but_on gY CA⟩
          | some op =>
            cases hnu : numB c with
            | none =>
              have NN : Hid (parB S n p = none) := by
                show parB S n p = none
                unfold parB
                rw [HL.out]
                simp [hnu]
              refine wp_region_any (by kernel_rfl) ?_
              refine InC.any (C := fun W => Below Y.heap.size Y W) _ _ _ _ ?_
              have C0 : Below Y.heap.size Y Y.drew := (Below.refl _ _).drew
              refine InC.take (i := 0) (v := .pointer (some ⟨b, 0, none⟩)) rfl (by kernel_rfl) (by kernel_rfl) (by kernel_rfl) (fun _ _ _ h => h) C0 (Or.inl ⟨by rfl, ?_⟩) ?_
              · intro W hW
                obtain ⟨⟨x2, x3⟩, ⟨y0, y1, y2⟩, _, _, _, _⟩ := HP.out W hW
                go_simp
              refine InC.take (i := 1) (v := .pointer (some ⟨b, 0, none⟩)) rfl (by kernel_rfl) (by kernel_rfl) (by kernel_rfl) (fun _ _ _ h => h) C0 (Or.inl ⟨by rfl, ?_⟩) ?_
              · intro W hW
                obtain ⟨⟨x2, x3⟩, ⟨y0, y1, y2⟩, _, _, _, _⟩ := HP.out W hW
                go_simp
              refine InC.take (i := 2) (v := .pointer (some ⟨b, 0, none⟩)) rfl (by kernel_rfl) (by kernel_rfl) (by kernel_rfl) (fun _ _ _ h => h) C0 (Or.inl ⟨by rfl, ?_⟩) ?_
              · intro W hW
                obtain ⟨⟨x2, x3⟩, ⟨y0, y1, y2⟩, _, _, _, _⟩ := HP.out W hW
                go_simp
              refine InC.take (i := 3) (v := .pointer (some ⟨b, 2, none⟩)) rfl (by kernel_rfl) (by kernel_rfl) (by kernel_rfl) (fun _ _ _ h => h) C0 (Or.inl ⟨by rfl, ?_⟩) ?_
              · intro W hW
                obtain ⟨⟨x2, x3⟩, ⟨y0, y1, y2⟩, _, _, _, _⟩ := HP.out W hW
                go_simp
              refine InC.take (i := 4) (v := .map (some mo)) rfl (by kernel_rfl) (by kernel_rfl) (by kernel_rfl) (fun _ _ _ h => h) C0 (Or.inl ⟨by rfl, ?_⟩) ?_
              · intro W hW
                obtain ⟨⟨x2, x3⟩, ⟨y0, y1, y2⟩, _, _, _, _⟩ := HP.out W hW
                go_simp
              refine InC.take (i := 5) (v := .slice (some ⟨qp, 0, none⟩) 3 3) rfl (by kernel_rfl) (by kernel_rfl) (by kernel_rfl) (fun _ _ _ h => h) C0 (Or.inl ⟨by rfl, ?_⟩) ?_
              · intro W hW
                obtain ⟨⟨x2, x3⟩, ⟨y0, y1, y2⟩, _, _, _, _⟩ := HP.out W hW
                go_simp
              refine InC.take (i := 6) (v := .pointer (some ⟨qp, 0, none⟩)) rfl (by kernel_rfl) (by kernel_rfl) (by kernel_rfl) (fun _ _ _ h => h) C0 (Or.inl ⟨by rfl, ?_⟩) ?_
              · intro W hW
                obtain ⟨⟨x2, x3⟩, ⟨y0, y1, y2⟩, _, _, _, _⟩ := HP.out W hW
                go_simp
              refine InC.take (i := 7) (v := .string ⟨a.toArray⟩) rfl (by kernel_rfl) (by kernel_rfl) (by kernel_rfl) (fun _ _ _ h => h) C0 (Or.inl ⟨by rfl, ?_⟩) ?_
              · intro W hW
                obtain ⟨⟨x2, x3⟩, ⟨y0, y1, y2⟩, _, _, _, _⟩ := HP.out W hW
                go_simp
              refine InC.take (i := 9) (v := .pointer (some ⟨b, 0, none⟩)) rfl (by kernel_rfl) (by kernel_rfl) (by kernel_rfl) (fun _ _ _ h => h) C0 (Or.inl ⟨by rfl, ?_⟩) ?_
              · intro W hW
                obtain ⟨⟨x2, x3⟩, ⟨y0, y1, y2⟩, _, _, _, _⟩ := HP.out W hW
                go_simp
              refine InC.take (i := 10) (v := .slice (some ⟨qp, 0, none⟩) 3 3) rfl (by kernel_rfl) (by kernel_rfl) (by kernel_rfl) (fun _ _ _ h => h) C0 (Or.inl ⟨by rfl, ?_⟩) ?_
              · intro W hW
                obtain ⟨⟨x2, x3⟩, ⟨y0, y1, y2⟩, _, _, _, _⟩ := HP.out W hW
                go_simp
              refine InC.take (i := 11) (v := .pointer (some ⟨qp, 1, none⟩)) rfl (by kernel_rfl) (by kernel_rfl) (by kernel_rfl) (fun _ _ _ h => h) C0 (Or.inl ⟨by rfl, ?_⟩) ?_
              · intro W hW
                obtain ⟨⟨x2, x3⟩, ⟨y0, y1, y2⟩, _, _, _, _⟩ := HP.out W hW
                go_simp
              refine InC.take (i := 12) (v := .string ⟨c.toArray⟩) rfl (by kernel_rfl) (by kernel_rfl) (by kernel_rfl) (fun _ _ _ h => h) C0 (Or.inl ⟨by rfl, ?_⟩) ?_
              · intro W hW
                obtain ⟨⟨x2, x3⟩, ⟨y0, y1, y2⟩, _, _, _, _⟩ := HP.out W hW
                go_simp
              have CA : Below Y.heap.size Y (Y.alloc (.cells #[.int .i64 0, .int .i64 0, .int .i64 0] 47)).drew := (below_alloc (Below.refl _ _) _).drew
              refine InC.next2 (i := 8) (j := 15) (by kernel_rfl) (InC.one rfl fun K hK => ?_) (InC.one rfl fun K hK => ?_)
              · go_simp
                obtain ⟨_, _, ko, _, _, _⟩ := HP.out _ C0
                refine (word_some _ _ _ _ _ _ ko la hop).mono ?_
                rintro e w6 ⟨rfl, rfl⟩
                refine hK _ _ C0 ?_
                clear hK K
                refine InC.next2 (i := 13) (j := 15) (by kernel_rfl) (InC.one rfl fun K hK => ?_) (InC.one rfl fun K hK => ?_)
                · go_simp
                  obtain ⟨_, _, _, _, ly, k5⟩ := HP.out _ C0
                  refine (number_none _ _ _ _ lc hnu ly k5).mono ?_
                  rintro e w6 ⟨rfl, b6⟩
                  exact ⟨rfl, .inr ⟨rfl, .inr ⟨p, q, rfl, hp, .inr NN.out⟩⟩, but_on gY (below_on C0 b6)⟩
                · go_simp
                  refine hK _ _ CA ?_
                  clear hK K
                  refine InC.next1 (i := 13) (by kernel_rfl) (InC.one rfl fun K hK => ?_)
                  go_simp
                  obtain ⟨_, _, _, _, ly, k5⟩ := HP.out _ CA
                  refine (number_none _ _ _ _ lc hnu ly k5).mono ?_
                  rintro e w6 ⟨rfl, b6⟩
                  exact ⟨rfl, .inr ⟨rfl, .inr ⟨p, q, rfl, hp, .inr NN.out⟩⟩, but_on gY (below_on CA b6)⟩
              · go_simp
                refine hK _ _ CA ?_
                clear hK K
                refine InC.next1 (i := 8) (by kernel_rfl) (InC.one rfl fun K hK => ?_)
                go_simp
                obtain ⟨_, _, ko, _, _, _⟩ := HP.out _ CA
                refine (word_some _ _ _ _ _ _ ko la hop).mono ?_
                rintro e w6 ⟨rfl, rfl⟩
                refine hK _ _ CA ?_
                clear hK K
                refine InC.next1 (i := 13) (by kernel_rfl) (InC.one rfl fun K hK => ?_)
                go_simp
                obtain ⟨_, _, _, _, ly, k5⟩ := HP.out _ CA
                refine (number_none _ _ _ _ lc hnu ly k5).mono ?_
                rintro e w6 ⟨rfl, b6⟩
                exact ⟨rfl, .inr ⟨rfl, .inr ⟨p, q, rfl, hp, .inr NN.out⟩⟩, but_on gY (below_on CA b6)⟩
            | some f =>
              go_cut [7] from 50 (fun v wc => ∃ qe, v = .pointer (some ⟨qe, 0, none⟩) ∧ Y.heap.size ≤ qe ∧ Box3 wc qe 47 (.int .i64 op) (.int .i64 f) (.int .i64 0) ∧ Below Y.heap.size Y wc)
              case first =>
                refine wp_region_any (by kernel_rfl) ?_
                refine InC.any (C := fun W => Below Y.heap.size Y W) _ _ _ _ ?_
                have C0 : Below Y.heap.size Y Y.drew := (Below.refl _ _).drew
                refine InC.take (i := 0) (v := .pointer (some ⟨b, 0, none⟩)) rfl (by kernel_rfl) (by kernel_rfl) (by kernel_rfl) (fun _ _ _ h => h) C0 (Or.inl ⟨by rfl, ?_⟩) ?_
                · intro W hW
                  obtain ⟨⟨x2, x3⟩, ⟨y0, y1, y2⟩, _, _, _, _⟩ := HP.out W hW
                  go_simp
                refine InC.take (i := 1) (v := .pointer (some ⟨b, 0, none⟩)) rfl (by kernel_rfl) (by kernel_rfl) (by kernel_rfl) (fun _ _ _ h => h) C0 (Or.inl ⟨by rfl, ?_⟩) ?_
                · intro W hW
                  obtain ⟨⟨x2, x3⟩, ⟨y0, y1, y2⟩, _, _, _, _⟩ := HP.out W hW
                  go_simp
                refine InC.take (i := 2) (v := .pointer (some ⟨b, 0, none⟩)) rfl (by kernel_rfl) (by kernel_rfl) (by kernel_rfl) (fun _ _ _ h => h) C0 (Or.inl ⟨by rfl, ?_⟩) ?_
                · intro W hW
                  obtain ⟨⟨x2, x3⟩, ⟨y0, y1, y2⟩, _, _, _, _⟩ := HP.out W hW
                  go_simp
                refine InC.take (i := 3) (v := .pointer (some ⟨b, 2, none⟩)) rfl (by kernel_rfl) (by kernel_rfl) (by kernel_rfl) (fun _ _ _ h => h) C0 (Or.inl ⟨by rfl, ?_⟩) ?_
                · intro W hW
                  obtain ⟨⟨x2, x3⟩, ⟨y0, y1, y2⟩, _, _, _, _⟩ := HP.out W hW
                  go_simp
                refine InC.take (i := 4) (v := .map (some mo)) rfl (by kernel_rfl) (by kernel_rfl) (by kernel_rfl) (fun _ _ _ h => h) C0 (Or.inl ⟨by rfl, ?_⟩) ?_
                · intro W hW
                  obtain ⟨⟨x2, x3⟩, ⟨y0, y1, y2⟩, _, _, _, _⟩ := HP.out W hW
                  go_simp
                refine InC.take (i := 5) (v := .slice (some ⟨qp, 0, none⟩) 3 3) rfl (by kernel_rfl) (by kernel_rfl) (by kernel_rfl) (fun _ _ _ h => h) C0 (Or.inl ⟨by rfl, ?_⟩) ?_
                · intro W hW
                  obtain ⟨⟨x2, x3⟩, ⟨y0, y1, y2⟩, _, _, _, _⟩ := HP.out W hW
                  go_simp
                refine InC.take (i := 6) (v := .pointer (some ⟨qp, 0, none⟩)) rfl (by kernel_rfl) (by kernel_rfl) (by kernel_rfl) (fun _ _ _ h => h) C0 (Or.inl ⟨by rfl, ?_⟩) ?_
                · intro W hW
                  obtain ⟨⟨x2, x3⟩, ⟨y0, y1, y2⟩, _, _, _, _⟩ := HP.out W hW
                  go_simp
                refine InC.take (i := 7) (v := .string ⟨a.toArray⟩) rfl (by kernel_rfl) (by kernel_rfl) (by kernel_rfl) (fun _ _ _ h => h) C0 (Or.inl ⟨by rfl, ?_⟩) ?_
                · intro W hW
                  obtain ⟨⟨x2, x3⟩, ⟨y0, y1, y2⟩, _, _, _, _⟩ := HP.out W hW
                  go_simp
                refine InC.take (i := 9) (v := .pointer (some ⟨b, 0, none⟩)) rfl (by kernel_rfl) (by kernel_rfl) (by kernel_rfl) (fun _ _ _ h => h) C0 (Or.inl ⟨by rfl, ?_⟩) ?_
                · intro W hW
                  obtain ⟨⟨x2, x3⟩, ⟨y0, y1, y2⟩, _, _, _, _⟩ := HP.out W hW
                  go_simp
                refine InC.take (i := 10) (v := .slice (some ⟨qp, 0, none⟩) 3 3) rfl (by kernel_rfl) (by kernel_rfl) (by kernel_rfl) (fun _ _ _ h => h) C0 (Or.inl ⟨by rfl, ?_⟩) ?_
                · intro W hW
                  obtain ⟨⟨x2, x3⟩, ⟨y0, y1, y2⟩, _, _, _, _⟩ := HP.out W hW
                  go_simp
                refine InC.take (i := 11) (v := .pointer (some ⟨qp, 1, none⟩)) rfl (by kernel_rfl) (by kernel_rfl) (by kernel_rfl) (fun _ _ _ h => h) C0 (Or.inl ⟨by rfl, ?_⟩) ?_
                · intro W hW
                  obtain ⟨⟨x2, x3⟩, ⟨y0, y1, y2⟩, _, _, _, _⟩ := HP.out W hW
                  go_simp
                refine InC.take (i := 12) (v := .string ⟨c.toArray⟩) rfl (by kernel_rfl) (by kernel_rfl) (by kernel_rfl) (fun _ _ _ h => h) C0 (Or.inl ⟨by rfl, ?_⟩) ?_
                · intro W hW
                  obtain ⟨⟨x2, x3⟩, ⟨y0, y1, y2⟩, _, _, _, _⟩ := HP.out W hW
                  go_simp
                have CA : Below Y.heap.size Y (Y.alloc (.cells #[.int .i64 0, .int .i64 0, .int .i64 0] 47)).drew := (below_alloc (Below.refl _ _) _).drew
                have qA : Box3 (Y.alloc (.cells #[.int .i64 0, .int .i64 0, .int .i64 0] 47)).drew Y.heap.size 47 (.int .i64 0) (.int .i64 0) (.int .i64 0) := Box3.lay _ _ _ _ _
                refine InC.next2 (i := 8) (j := 15) (by kernel_rfl) (InC.one rfl fun K hK => ?_) (InC.one rfl fun K hK => ?_)
                · go_simp
                  obtain ⟨_, _, ko, _, _, _⟩ := HP.out _ C0
                  refine (word_some _ _ _ _ _ _ ko la hop).mono ?_
                  rintro e w6 ⟨rfl, rfl⟩
                  refine hK _ _ C0 ?_
                  clear hK K
                  refine InC.next2 (i := 13) (j := 15) (by kernel_rfl) (InC.one rfl fun K hK => ?_) (InC.one rfl fun K hK => ?_)
                  · go_simp
                    obtain ⟨_, _, _, _, ly, _⟩ := HP.out _ C0
                    refine (number_some _ _ _ _ lc hnu ly).mono ?_
                    rintro e w6 ⟨rfl, b6⟩
                    have CB := below_on C0 b6
                    refine hK _ _ CB ?_
                    clear hK K
                    refine InC.take (i := 14) (v := .agg #[.int .i64 op, .int .i64 f, .int .i64 0]) rfl (by kernel_rfl) (by kernel_rfl) (by kernel_rfl) (fun _ _ _ h => h) CB (Or.inl ⟨by rfl, ?_⟩) ?_
                    · intro W hW
                      go_simp
                    refine InC.next1 (i := 15) (by kernel_rfl) (InC.one rfl fun K hK => ?_)
                    go_simp
                    refine hK _ _ (below_alloc CB _) ?_
                    clear hK K
                    refine InC.next1 (i := 16) (by kernel_rfl) (InC.one rfl fun K hK => ?_)
                    go_simp
                    refine hK _ _ (below_alloc CB _) ?_
                    clear hK K
                    refine InC.done (by kernel_rfl) ?_
                    go_wp2_with fail
                    go_meet
                    case rel => exact ⟨_, rfl, CB.size, Box3.lay _ _ _ _ _, below_alloc CB _⟩
                  · go_simp
                    refine hK _ _ CA ?_
                    clear hK K
                    refine InC.next1 (i := 13) (by kernel_rfl) (InC.one rfl fun K hK => ?_)
                    go_simp
                    obtain ⟨_, _, _, _, ly, _⟩ := HP.out _ CA
                    refine (number_some _ _ _ _ lc hnu ly).mono ?_
                    rintro e w6 ⟨rfl, b6⟩
                    have CB := below_on CA b6
                    have q6 := qA.on b6
                    obtain ⟨e0, e1, e2⟩ := q6.cells
                    have f0 := Blk.frozen q6 0
                    have f1 := Blk.frozen q6 1
                    have f2 := Blk.frozen q6 2
                    refine hK _ _ CB ?_
                    clear hK K
                    refine InC.next1 (i := 14) (by kernel_rfl) (InC.one rfl fun K hK => ?_)
                    go_simp
                    refine hK _ _ CB ?_
                    clear hK K
                    refine InC.next1 (i := 16) (by kernel_rfl) (InC.one rfl fun K hK => ?_)
                    go_simp
                    have CE : Below Y.heap.size Y (((w6.setCell ⟨Y.heap.size, 0, none⟩ (.int .i64 op)).setCell ⟨Y.heap.size, 1, none⟩ (.int .i64 f)).setCell ⟨Y.heap.size, 2, none⟩ (.int .i64 0)) := ((CB.setCell (Nat.le_refl _) _).setCell (Nat.le_refl _) _).setCell (Nat.le_refl _) _
                    refine hK _ _ CE ?_
                    clear hK K
                    refine InC.done (by kernel_rfl) ?_
                    go_wp2_with fail
                    go_meet
                    case rel => exact ⟨_, rfl, Nat.le_refl _, q6.put3 _ _ _, CE⟩
                · go_simp
                  refine hK _ _ CA ?_
                  clear hK K
                  refine InC.next1 (i := 8) (by kernel_rfl) (InC.one rfl fun K hK => ?_)
                  go_simp
                  obtain ⟨_, _, ko, _, _, _⟩ := HP.out _ CA
                  refine (word_some _ _ _ _ _ _ ko la hop).mono ?_
                  rintro e w6 ⟨rfl, rfl⟩
                  refine hK _ _ CA ?_
                  clear hK K
                  refine InC.next1 (i := 13) (by kernel_rfl) (InC.one rfl fun K hK => ?_)
                  go_simp
                  obtain ⟨_, _, _, _, ly, _⟩ := HP.out _ CA
                  refine (number_some _ _ _ _ lc hnu ly).mono ?_
                  rintro e w6 ⟨rfl, b6⟩
                  have CB := below_on CA b6
                  have q6 := qA.on b6
                  obtain ⟨e0, e1, e2⟩ := q6.cells
                  have f0 := Blk.frozen q6 0
                  have f1 := Blk.frozen q6 1
                  have f2 := Blk.frozen q6 2
                  refine hK _ _ CB ?_
                  clear hK K
                  refine InC.next1 (i := 14) (by kernel_rfl) (InC.one rfl fun K hK => ?_)
                  go_simp
                  refine hK _ _ CB ?_
                  clear hK K
                  refine InC.next1 (i := 16) (by kernel_rfl) (InC.one rfl fun K hK => ?_)
                  go_simp
                  have CE : Below Y.heap.size Y (((w6.setCell ⟨Y.heap.size, 0, none⟩ (.int .i64 op)).setCell ⟨Y.heap.size, 1, none⟩ (.int .i64 f)).setCell ⟨Y.heap.size, 2, none⟩ (.int .i64 0)) := ((CB.setCell (Nat.le_refl _) _).setCell (Nat.le_refl _) _).setCell (Nat.le_refl _) _
                  refine hK _ _ CE ?_
                  clear hK K
                  refine InC.done (by kernel_rfl) ?_
                  go_wp2_with fail
                  go_meet
                  case rel => exact ⟨_, rfl, Nat.le_refl _, q6.put3 _ _ _, CE⟩
              case rest =>
                obtain ⟨qe, rfl, hqe, bq, bw⟩ := hcut
                rename World => Z
                have sZ := sY.on bw
                have rZ := rY.on bw
                have gZ := but_on gY bw
                have dZ := dY.on bw
                have g0 : Hid (w.heap.size < qe) := Nat.lt_of_lt_of_le rY.lt hqe
                have hQ : ∀ W, Below qe Z W → W.cell? ⟨b, 3, none⟩ = some (.map (some md)) ∧ W.cell? ⟨qp, 2, none⟩ = some (.string ⟨s.toArray⟩) := fun W hb => by
                  have h1 := (HP.out Z bw).1.2
                  have h2 := (HP.out Z bw).2.1.2.2
                  exact ⟨by rw [hb.cell (show b < qe from Nat.lt_trans hbw g0.out)]; exact h1, by rw [hb.cell (show qp < qe from Nat.lt_of_lt_of_le lqp hqe)]; exact h2⟩
                have HQ : Hid _ := hQ
                clear hQ HP pY sY rY oY dY lY gY lqp
                have zq : qe < Z.heap.size := Blk.lt bq
                have C1 : Below qe Z Z.drew := (Below.refl _ _).drew
                have D1 : Below Z.heap.size Z Z.drew := (Below.refl _ _).drew
                go_upto_region 9 with fail
                refine wp_region_any (by kernel_rfl) ?_
                refine InC.any (C := fun W => Below qe Z W) _ _ _ _ ?_
                refine InC.take (i := 0) (v := .pointer (some ⟨b, 0, none⟩)) rfl (by kernel_rfl) (by kernel_rfl) (by kernel_rfl) (fun _ _ _ h => h) C1 (Or.inl ⟨by rfl, ?_⟩) ?_
                · intro W hW
                  obtain ⟨x3, y2⟩ := HQ.out W hW
                  go_simp
                refine InC.take (i := 1) (v := .pointer (some ⟨b, 0, none⟩)) rfl (by kernel_rfl) (by kernel_rfl) (by kernel_rfl) (fun _ _ _ h => h) C1 (Or.inl ⟨by rfl, ?_⟩) ?_
                · intro W hW
                  obtain ⟨x3, y2⟩ := HQ.out W hW
                  go_simp
                refine InC.take (i := 2) (v := .pointer (some ⟨b, 0, none⟩)) rfl (by kernel_rfl) (by kernel_rfl) (by kernel_rfl) (fun _ _ _ h => h) C1 (Or.inl ⟨by rfl, ?_⟩) ?_
                · intro W hW
                  obtain ⟨x3, y2⟩ := HQ.out W hW
                  go_simp
                refine InC.take (i := 3) (v := .pointer (some ⟨b, 3, none⟩)) rfl (by kernel_rfl) (by kernel_rfl) (by kernel_rfl) (fun _ _ _ h => h) C1 (Or.inl ⟨by rfl, ?_⟩) ?_
                · intro W hW
                  obtain ⟨x3, y2⟩ := HQ.out W hW
                  go_simp
                refine InC.take (i := 4) (v := .map (some md)) rfl (by kernel_rfl) (by kernel_rfl) (by kernel_rfl) (fun _ _ _ h => h) C1 (Or.inl ⟨by rfl, ?_⟩) ?_
                · intro W hW
                  obtain ⟨x3, y2⟩ := HQ.out W hW
                  go_simp
                refine InC.take (i := 5) (v := .slice (some ⟨qp, 0, none⟩) 3 3) rfl (by kernel_rfl) (by kernel_rfl) (by kernel_rfl) (fun _ _ _ h => h) C1 (Or.inl ⟨by rfl, ?_⟩) ?_
                · intro W hW
                  obtain ⟨x3, y2⟩ := HQ.out W hW
                  go_simp
                refine InC.take (i := 6) (v := .pointer (some ⟨qp, 2, none⟩)) rfl (by kernel_rfl) (by kernel_rfl) (by kernel_rfl) (fun _ _ _ h => h) C1 (Or.inl ⟨by rfl, ?_⟩) ?_
                · intro W hW
                  obtain ⟨x3, y2⟩ := HQ.out W hW
                  go_simp
                refine InC.take (i := 7) (v := .string ⟨s.toArray⟩) rfl (by kernel_rfl) (by kernel_rfl) (by kernel_rfl) (fun _ _ _ h => h) C1 (Or.inl ⟨by rfl, ?_⟩) ?_
                · intro W hW
                  obtain ⟨x3, y2⟩ := HQ.out W hW
                  go_simp
                cases hdi : dirB s with
                | none =>
                  have NN : Hid (parB S n p = none) := by
                    show parB S n p = none
                    unfold parB
                    rw [HL.out]
                    simp [hdi]
                  first
                    | refine InC.next1 (i := 8) (by kernel_rfl) (InC.one rfl fun K hK => ?_)
                  go_simp
                  refine (word_none _ _ _ _ _ _ (dZ.on D1) ls hdi (sZ.on D1).cells.2.2.2).mono ?_
                  rintro e w6 ⟨rfl, h6⟩
                  exact ⟨rfl, .inr ⟨rfl, .inr ⟨p, q, rfl, hp, .inr NN.out⟩⟩, by rw [h6]; exact but_on gZ D1⟩
                | some d =>
                  refine InC.next1 (i := 8) (by kernel_rfl) (InC.one rfl fun K hK => ?_)
                  go_simp
                  refine (word_some _ _ _ _ _ _ (dZ.on D1) ls hdi).mono ?_
                  rintro e w6 ⟨rfl, h6⟩
                  rw [h6]
                  clear h6 w6
                  refine hK _ _ C1 ?_
                  clear hK K
                  refine InC.next1 (i := 9) (by kernel_rfl) (InC.one rfl fun K hK => ?_)
                  go_simp
                  refine hK _ _ C1 ?_
                  clear hK K
                  refine InC.next1 (i := 10) (by kernel_rfl) (InC.one rfl fun K hK => ?_)
                  obtain ⟨e0, e1, e2⟩ := bq.cells
                  have f2 := Blk.frozen bq 2
                  go_simp
                  refine hK _ _ (C1.setCell (p := ⟨qe, 2, none⟩) (Nat.le_refl _) _) ?_
                  clear hK K
                  refine InC.done (by kernel_rfl) ?_
                  have hqb : ¬ qe = b := by have := g0.out; omega
                  have bq' : Box3 (Z.setCell ⟨qe, 2, none⟩ (.int .i64 d)).drew qe 47 (.int .i64 op) (.int .i64 f) (.int .i64 d) := (Blk.set bq 2 _).congr (fun i hi => by match i, hi with | 0, _ => rfl | 1, _ => rfl | 2, _ => rfl)
                  have sZ' : Sc (Z.setCell ⟨qe, 2, none⟩ (.int .i64 d)).drew b S g n mo md q ((k : Int) + 1) := Blk.set_other sZ hqb _
                  have rZ' : Box3 (Z.setCell ⟨qe, 2, none⟩ (.int .i64 d)).drew w.heap.size 47 (.int .i64 0) (.int .i64 0) (.int .i64 0) := Blk.set_other rZ (show qe ≠ w.heap.size from Nat.ne_of_gt g0.out) _
                  have gZ' : w.grownBy (Z.setCell ⟨qe, 2, none⟩ (.int .i64 d)).drew (some b) := but_on (but_new gZ (Nat.le_of_lt g0.out)) (drewN_below _ 1)
                  clear sZ rZ gZ bq dZ HQ C1 D1 e0 e1 e2 f2
                  generalize (Z.setCell ⟨qe, 2, none⟩ (.int .i64 d)).drew = Zn at *
                  have sZ := sZ'
                  have rZ := rZ'
                  have gZ := gZ'
                  have bq := bq'
                  clear sZ' rZ' gZ' bq'
                  have hZ : ∀ W, Below Zn.heap.size Zn W → (W.cell? ⟨b, 0, none⟩ = some (.int .i64 S) ∧ W.cell? ⟨b, 1, none⟩ = some (.slice (gA g) n (gC g))) ∧ W.cell? ⟨qe, 0, none⟩ = some (.int .i64 op) ∧ W.cell? ⟨qe, 1, none⟩ = some (.int .i64 f) ∧ W.cell? ⟨qe, 2, none⟩ = some (.int .i64 d) := fun W hb => ⟨(sZ.on hb).cells.1, (bq.on hb).cells⟩
                  have HZ : Hid _ := hZ
                  clear hZ
                  have C1 : Below Zn.heap.size Zn Zn.drew := (Below.refl _ _).drew
                  have ke := happensIn_any S op f d n g Zn.drew hn
                  go_upto_region 10 with fail
                  refine wp_region_any (by kernel_rfl) ?_
                  refine InC.any (C := fun W => Below Zn.heap.size Zn W) _ _ _ _ ?_
                  refine InC.take (i := 0) (v := .pointer (some ⟨b, 0, none⟩)) rfl (by kernel_rfl) (by kernel_rfl) (by kernel_rfl) (fun _ _ _ h => h) C1 (Or.inl ⟨by rfl, ?_⟩) ?_
                  · intro W hW
                    obtain ⟨⟨x0, x1⟩, x2, x3, x4⟩ := HZ.out W hW
                    go_simp
                  refine InC.take (i := 1) (v := .pointer (some ⟨b, 0, none⟩)) rfl (by kernel_rfl) (by kernel_rfl) (by kernel_rfl) (fun _ _ _ h => h) C1 (Or.inl ⟨by rfl, ?_⟩) ?_
                  · intro W hW
                    obtain ⟨⟨x0, x1⟩, x2, x3, x4⟩ := HZ.out W hW
                    go_simp
                  refine InC.take (i := 2) (v := .pointer (some ⟨b, 0, none⟩)) rfl (by kernel_rfl) (by kernel_rfl) (by kernel_rfl) (fun _ _ _ h => h) C1 (Or.inl ⟨by rfl, ?_⟩) ?_
                  · intro W hW
                    obtain ⟨⟨x0, x1⟩, x2, x3, x4⟩ := HZ.out W hW
                    go_simp
                  refine InC.take (i := 3) (v := .pointer (some ⟨b, 0, none⟩)) rfl (by kernel_rfl) (by kernel_rfl) (by kernel_rfl) (fun _ _ _ h => h) C1 (Or.inl ⟨by rfl, ?_⟩) ?_
                  · intro W hW
                    obtain ⟨⟨x0, x1⟩, x2, x3, x4⟩ := HZ.out W hW
                    go_simp
                  refine InC.take (i := 4) (v := .agg #[.int .i64 S, .slice (gA g) n (gC g)]) rfl (by kernel_rfl) (by kernel_rfl) (by kernel_rfl) (fun _ _ _ h => h) C1 (Or.inl ⟨by rfl, ?_⟩) ?_
                  · intro W hW
                    obtain ⟨⟨x0, x1⟩, x2, x3, x4⟩ := HZ.out W hW
                    go_simp
                  refine InC.take (i := 5) (v := .agg #[.int .i64 op, .int .i64 f, .int .i64 d]) rfl (by kernel_rfl) (by kernel_rfl) (by kernel_rfl) (fun _ _ _ h => h) C1 (Or.inl ⟨by rfl, ?_⟩) ?_
                  · intro W hW
                    obtain ⟨⟨x0, x1⟩, x2, x3, x4⟩ := HZ.out W hW
                    go_simp
                  refine InC.next1 (i := 6) (by kernel_rfl) (InC.one rfl fun K hK => ?_)
                  go_simp
                  refine ke.mono ?_
                  clear ke
                  rintro e w7 ⟨rfl, b7⟩
                  have C7 := below_on C1 b7
                  cases hv : evB S n op f d with
                  | false =>
                    have NN : Hid (parB S n p = none) := by
                      show parB S n p = none
                      unfold parB
                      rw [HL.out]
                      simp [hop, hnu, hdi, hv]
                    rw [show hapI S n op f d = .nilIface from by unfold hapI; rw [hv]; rfl]
                    refine hK _ _ C7 ?_
                    clear hK K
                    refine InC.take (i := 7) (v := .bool false) rfl (by kernel_rfl) (by kernel_rfl) (by kernel_rfl) (fun _ _ _ h => h) C7 (Or.inl ⟨by rfl, ?_⟩) ?_
                    · intro W hW
                      go_simp
                    refine InC.next1 (i := 8) (by kernel_rfl) (InC.one rfl fun K hK => ?_)
                    go_simp
                    with_reducible refine (must_false _ _ _ (sZ.on C7).cells.2.2.2).mono ?_
                    rintro e w8 ⟨rfl, rfl⟩
                    exact ⟨rfl, .inr ⟨rfl, .inr ⟨p, q, rfl, hp, .inr NN.out⟩⟩, but_on gZ C7⟩
                  | true =>
                    have NN : Hid (parB S n p = some (op, f, d)) := by
                      show parB S n p = some (op, f, d)
                      unfold parB
                      rw [HL.out]
                      simp [hop, hnu, hdi, hv]
                    obtain ⟨t0, v0, hn0⟩ := hap_ne hv
                    rw [hn0]
                    refine hK _ _ C7 ?_
                    clear hK K
                    refine InC.take (i := 7) (v := .bool true) rfl (by kernel_rfl) (by kernel_rfl) (by kernel_rfl) (fun _ _ _ h => h) C7 (Or.inl ⟨by rfl, ?_⟩) ?_
                    · intro W hW
                      go_simp
                    refine InC.next1 (i := 8) (by kernel_rfl) (InC.one rfl fun K hK => ?_)
                    go_simp
                    with_reducible refine (must_true _ _).mono ?_
                    rintro e w8 ⟨rfl, h8⟩
                    rw [h8]
                    clear h8 w8
                    refine hK _ _ C7 ?_
                    clear hK K
                    refine InC.done (by kernel_rfl) ?_
                    obtain ⟨_, x2, x3, x4⟩ := HZ.out _ C7
                    have s7 := sZ.on C7
                    have r7 := rZ.on C7
                    obtain ⟨r0, r1, r2⟩ := r7.cells
                    have z0 := Blk.frozen r7 0
                    have z1 := Blk.frozen r7 1
                    have z2 := Blk.frozen r7 2
                    have g7 := but_on gZ C7
                    have hqe' : ¬ qe = w.heap.size := by have := g0.out; omega
                    have r9 := r7.put3 (.int .i64 op) (.int .i64 f) (.int .i64 d)
                    have s9 : Sc (((w7.setCell ⟨w.heap.size, 0, none⟩ (.int .i64 op)).setCell ⟨w.heap.size, 1, none⟩ (.int .i64 f)).setCell ⟨w.heap.size, 2, none⟩ (.int .i64 d)) b S g n mo md q ((k : Int) + 1) := ((Blk.set_other s7 (Ne.symm hbr) _).set_other (Ne.symm hbr) _).set_other (Ne.symm hbr) _
                    have g9 : w.grownBy (((w7.setCell ⟨w.heap.size, 0, none⟩ (.int .i64 op)).setCell ⟨w.heap.size, 1, none⟩ (.int .i64 f)).setCell ⟨w.heap.size, 2, none⟩ (.int .i64 d)) (some b) := but_new (but_new (but_new g7 (Nat.le_refl _)) (Nat.le_refl _)) (Nat.le_refl _)
                    obtain ⟨m0, m1, m2⟩ := r9.cells
                    have FIN : Hid (EvP w (((w7.setCell ⟨w.heap.size, 0, none⟩ (.int .i64 op)).setCell ⟨w.heap.size, 1, none⟩ (.int .i64 f)).setCell ⟨w.heap.size, 2, none⟩ (.int .i64 d)) b S g n mo md (p ++ 10 :: q) k (.returned (.agg #[.int .i64 op, .int .i64 f, .int .i64 d]))) := ⟨.inl ⟨p, q, op, f, d, rfl, hp, hk2, NN.out, rfl, s9⟩, g9⟩
                    clear s9 g9 r9 s7 r7 g7 sZ rZ gZ bq HZ
                    go_wp2
                    exact bodyPost_ret (v := .agg #[.int .i64 op, .int .i64 f, .int .i64 d]) (by simp [results, Tryz.results37, go_sem, m0, m1, m2]) rfl FIN.out
    · have hi1 : ¬ (k : Int) + 1 ≤ 2000 := by omega
      go_wp2_with fail
      refine kc.mono ?_
      clear kc
      rintro e w2 ⟨rfl, nd, h2⟩
      have b2 : Below V.heap.size V w2 := by rw [h2]; exact drewN_below _ _
      obtain ⟨_, _, _, s5⟩ := (sV.on b2).cells
      have g2 := but_on gV b2
      clear h2
      go_wp2_with fail
      rw [show decide ((k : Int) + 1 ≤ 2000) = false from decide_eq_false (by omega)]
      with_reducible refine (must_false _ _ _ s5).mono ?_
      rintro e w3 ⟨rfl, rfl⟩
      exact ⟨rfl, .inr ⟨rfl, .inr ⟨p, q, rfl, hp, .inl (by omega)⟩⟩, g2⟩
  · rw [cut_miss1 10 rest hten] at kc
    go_wp2_with fail
    refine kc.mono ?_
    clear kc
    rintro e w2 ⟨rfl, nd, h2⟩
    have b2 : Below V.heap.size V w2 := by rw [h2]; exact drewN_below _ _
    obtain ⟨_, _, _, s5⟩ := (sV.on b2).cells
    have g2 := but_on gV b2
    clear h2
    go_wp2_with fail
    with_reducible refine (must_false _ _ _ s5).mono ?_
    rintro e w3 ⟨rfl, rfl⟩
    exact ⟨rfl, .inr ⟨rfl, .inl hten⟩, g2⟩

end Go.Proofs.YtlpopfhaephfaaaGreatDoor
