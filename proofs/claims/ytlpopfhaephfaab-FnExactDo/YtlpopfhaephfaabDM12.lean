import Derived.Test.YtlpopfhaephfaabDM6
namespace Go.Proofs.Ytlpopfhaephfaab
open Go.RowKit Go.Maps Go.Sort

theorem own_some {w : World} {base e sz n : Nat} {v : Value} {xs : List Value} (h : w.ownsRow base e sz v n xs) (hn : 0 < n) : ∃ g cap, v = .slice (some ⟨g, 0, none⟩) n cap := by
  rcases h.2 with ⟨_, h0⟩ | ⟨g, cap, cur, rfl, _⟩
  · omega
  · exact ⟨g, cap, rfl⟩

theorem own_apart {w : World} {base e e' sz sz' n n' : Nat} {v v' : Value} {xs xs' : List Value} (h : w.ownsRow base e sz v n xs) (h' : w.ownsRow base e' sz' v' n' xs') (he : e ≠ e') : v.ownBlock = none ∨ v.ownBlock ≠ v'.ownBlock := by
  rcases h.2 with ⟨rfl, _⟩ | ⟨g, cap, cur, rfl, _, hh, _⟩
  · exact .inl rfl
  · right
    rcases h'.2 with ⟨rfl, _⟩ | ⟨g', cap', cur', rfl, _, hh', _⟩
    · simp [Value.ownBlock]
    · intro e1
      simp only [Value.ownBlock, Option.some.injEq] at e1
      subst e1
      rw [hh] at hh'
      simp only [Option.some.injEq, Obj.cells.injEq] at hh'
      exact he hh'.2.1

theorem new_cells (w : World) (x : Sec) (e : TypeId) : ∀ j u, (scells x)[j]? = some u → (w.alloc (.cells #[.int .i64 x.told, .int .i64 x.count, .bool x.lost, .bool x.sweep, .int .i64 x.last] e)).cell? ((⟨w.heap.size, 0, none⟩ : Addr).add j) = some u := by
  intro j u hu
  have hj : j < 5 := (List.getElem?_eq_some_iff.1 hu).1
  have ea : (⟨w.heap.size, 0, none⟩ : Addr).add j = ⟨w.heap.size, j, none⟩ := by simp [Addr.add]; exact fun h => h.symm
  rw [ea]
  match j, hj with
  | 0, _ => simpa [scells] using hu
  | 1, _ => simpa [scells] using hu
  | 2, _ => simpa [scells] using hu
  | 3, _ => simpa [scells] using hu
  | 4, _ => simpa [scells] using hu

theorem new_cell1 (w : World) (b : Bool) (e : TypeId) : ∀ j u, [Value.bool b][j]? = some u → (w.alloc (.cells #[.bool b] e)).cell? ((⟨w.heap.size, 0, none⟩ : Addr).add j) = some u := by
  intro j u hu
  have hj : j < 1 := (List.getElem?_eq_some_iff.1 hu).1
  have hj0 : j = 0 := by omega
  subst hj0
  simpa [Addr.add] using hu

theorem Box3.set1 {w : World} {b : Nat} {e : TypeId} {x y z : Value} (h : Box3 w b e x y z) (u : Value) : Box3 (w.setCell ⟨b, 1, none⟩ u) b e x u z :=
  (Blk.set h 1 u).congr fun i hi => by match i, hi with | 0, _ => rfl | 1, _ => rfl | 2, _ => rfl
theorem Box3.set2 {w : World} {b : Nat} {e : TypeId} {x y z : Value} (h : Box3 w b e x y z) (u : Value) : Box3 (w.setCell ⟨b, 2, none⟩ u) b e x y u :=
  (Blk.set h 2 u).congr fun i hi => by match i, hi with | 0, _ => rfl | 1, _ => rfl | 2, _ => rfl

set_option maxRecDepth 100000 in
set_option maxHeartbeats 2000000 in
theorem l2copy_any (ok : Bool) (gs lo hi ns c1 : Nat) (a2 : Option Addr) (n c2 : Nat) (X : Nat → Sec) (D : Nat → Bool) (w : World) (hp : 0 < ns) (hns : ns ≤ 60) (hn : n ≤ 120) (hL : Lst w lo hi (.slice (some ⟨gs, 0, none⟩) ns c1) ns X (.slice a2 n c2) n D) :
    Calls Try.prog 55 #[.agg #[.bool ok, .slice (some ⟨gs, 0, none⟩) ns c1, .slice a2 n c2]] w fun e w' => ∃ g' k1 a' k2, e = .returned (.agg #[.bool ok, .slice (some ⟨g', 0, none⟩) ns k1, .slice a' n k2]) ∧ Lst w' w.heap.size w'.heap.size (.slice (some ⟨g', 0, none⟩) ns k1) ns X (.slice a' n k2) n D ∧ Below w.heap.size w w' := by
  obtain ⟨i0, hi0, hz0, hz1, hz2⟩ := info_parts Try.infoS
  obtain ⟨i1, hi1, hy0, hy1, hy2⟩ := info_parts Try.infoB
  obtain ⟨V, eV⟩ : ∃ V, ((w.alloc (.cells #[.bool ok, .slice (some ⟨gs, 0, none⟩) ns c1, .slice a2 n c2] 44)).alloc (.cells #[.bool false, .slice none 0 0, .slice none 0 0] 44)).alloc (.cells #[.bool ok, .slice none 0 0, .slice none 0 0] 44) = V := ⟨_, rfl⟩
  have sV : V.heap.size = w.heap.size + 1 + 1 + 1 := by rw [← eV]; simp
  have bV : Below w.heap.size w V := by rw [← eV]; exact (by repeat (first | exact Below.refl _ _ | assumption | refine below_alloc ?_ _ | refine Below.setCell ?_ (by first | omega | (simp; done) | (simp; omega)) _ | refine Below.alloc ?_ (by first | omega | (simp; done) | (simp; omega)) _ | refine Below.drew ?_))
  have x1 : Box3 V w.heap.size 44 (.bool ok) (.slice (some ⟨gs, 0, none⟩) ns c1) (.slice a2 n c2) := by rw [← eV]; exact ((Box3.lay w _ _ _ _).alloc _).alloc _
  have x2 : Box3 V (w.heap.size + 1) 44 (.bool false) (.slice none 0 0) (.slice none 0 0) := by
    rw [← eV]
    have := (Box3.lay (w.alloc (.cells #[.bool ok, .slice (some ⟨gs, 0, none⟩) ns c1, .slice a2 n c2] 44)) (.bool false) (.slice none 0 0) (.slice none 0 0) 44).alloc (.cells #[.bool ok, .slice none 0 0, .slice none 0 0] 44)
    rw [World.size_alloc] at this
    exact this
  have x3 : Box3 V (w.heap.size + 1 + 1) 44 (.bool ok) (.slice none 0 0) (.slice none 0 0) := by
    rw [← eV]
    have := Box3.lay ((w.alloc (.cells #[.bool ok, .slice (some ⟨gs, 0, none⟩) ns c1, .slice a2 n c2] 44)).alloc (.cells #[.bool false, .slice none 0 0, .slice none 0 0] 44)) (.bool ok) (.slice none 0 0) (.slice none 0 0) 44
    simp only [World.size_alloc] at this
    exact this
  have hV := hL.on bV
  have hlo : ∀ W, Below (w.heap.size + 1 + 1) V W → Lst W lo hi (.slice (some ⟨gs, 0, none⟩) ns c1) ns X (.slice a2 n c2) n D := fun W hb => hL.on (bV.trans (hb.mono (by omega)))
  have EV : Hid _ := eV
  clear eV hL
  go_enter Try.func55, Try.ntmps55
  go_upto_region 2 with fail
  rw [EV.out]
  obtain ⟨c10, c11, c12⟩ := x1.cells
  go_wp2
  go_loopw [14] (fun i wr => ∃ (k : Nat) (v : Value), k ≤ ns ∧ i = .int .i64 k ∧ Below (w.heap.size + 1 + 1) V wr ∧ w.heap.size + 1 + 1 + 1 ≤ wr.heap.size ∧ Box3 wr (w.heap.size + 1 + 1) 44 (.bool ok) v (.slice none 0 0) ∧ wr.ownsRow (w.heap.size + 1 + 1 + 1) 93 5 v k (secL X k)) (fun i _ => ns - (intOf i).toNat)
  case atStart => exact ⟨0, .slice none 0 0, Nat.zero_le _, rfl, Below.refl _ _, by omega, x3, World.ownsRow_nil _ _ _ _⟩
  case round =>
    obtain ⟨k, v, hk, rfl, hbel, hsz, hbx, hown⟩ := hrel
    have z0 : w.heap.size < wr.heap.size := by omega
    have z2 : w.heap.size + 1 + 1 < wr.heap.size := by omega
    have c1' : wr.cell? ⟨w.heap.size, 1, none⟩ = some (.slice (some ⟨gs, 0, none⟩) ns c1) := (hbel.cell (p := ⟨w.heap.size, 1, none⟩) (show w.heap.size < w.heap.size + 1 + 1 by omega)).trans c11
    have c2' : wr.cell? ⟨w.heap.size, 2, none⟩ = some (.slice a2 n c2) := (hbel.cell (p := ⟨w.heap.size, 2, none⟩) (show w.heap.size < w.heap.size + 1 + 1 by omega)).trans c12
    by_cases hlt : k < ns
    · obtain ⟨_, _, m, f, b1, b2, b3⟩ := (hlo wr hbel).1.blk hp
      obtain ⟨e0, e1, e2, e3, e4⟩ := five b2 b1 hlt b3
      have hk1 : (k : Int) < (ns : Int) := by omega
      obtain ⟨x, ex⟩ : ∃ x, X k = x := ⟨_, rfl⟩
      rw [ex] at e0 e1 e2 e3 e4
      have hnw := new_cells (wr.alloc (.cells #[.int .i64 x.told, .int .i64 x.count, .bool x.lost, .bool x.sweep, .int .i64 x.last] 93)) x 93
      rw [World.size_alloc] at hnw
      have hoA := (hown.alloc (.cells #[.int .i64 x.told, .int .i64 x.count, .bool x.lost, .bool x.sweep, .int .i64 x.last] 93)).alloc (.cells #[.int .i64 x.told, .int .i64 x.count, .bool x.lost, .bool x.sweep, .int .i64 x.last] 93)
      have hbA := (hbx.alloc (.cells #[.int .i64 x.told, .int .i64 x.count, .bool x.lost, .bool x.sweep, .int .i64 x.last] 93)).alloc (.cells #[.int .i64 x.told, .int .i64 x.count, .bool x.lost, .bool x.sweep, .int .i64 x.last] 93)
      have h1c : ∀ u ∈ scells x, u.oneCell' = true := fun u hu => by
        simp only [scells, List.mem_cons, List.not_mem_nil, or_false] at hu
        rcases hu with rfl | rfl | rfl | rfl | rfl <;> rfl
      have post : ∀ w2, ((wr.alloc (.cells #[.int .i64 x.told, .int .i64 x.count, .bool x.lost, .bool x.sweep, .int .i64 x.last] 93)).alloc (.cells #[.int .i64 x.told, .int .i64 x.count, .bool x.lost, .bool x.sweep, .int .i64 x.last] 93)).grownBy w2 v.ownBlock → Box3 w2 (w.heap.size + 1 + 1) 44 (.bool ok) v (.slice none 0 0) ∧ Below (w.heap.size + 1 + 1) V w2 ∧ w.heap.size + 1 + 1 + 1 ≤ w2.heap.size := fun w2 hg =>
        ⟨Blk.grown hbA hg (fun e => by have := (hown.lt _ e).1; omega), ((hbel.alloc (by omega) _).alloc (by simp; omega) _).grown hg (by simp; omega) (fun j hj => by have := (hown.lt j hj).1; omega), by have := hg.size; simp at this; omega⟩
      obtain ⟨y0, y1, y2⟩ := hbx.cells
      have HX : Hid (X k = x) := ex
      have HP : Hid _ := post
      clear b2 b3 ex hbA post
      go_wp2_with (first
        | (at_builtin; refine wpList_append_own _ rfl _ _ 42 rfl (w.heap.size + 1 + 1 + 1) 93 i0 _ 5 32 Try.underlying42 hi0 hz0 hz1 hz2 rfl (by decide) _ _ _ rfl hoA ⟨wr.heap.size + 1, 0, none⟩ 1 1 (scells x) rfl rfl hnw h1c (by unfold maxLen; omega) (by omega) (by simp; omega) ?_; intro v' w2 hown' hgrow hnil; obtain ⟨g', cap', rfl⟩ := own_some hown' (by omega); obtain ⟨q1, q2, q3⟩ := HP.out w2 hgrow; obtain ⟨t0, t1, t2⟩ := q1.cells; have u1 := Blk.frozen q1 1))
      go_wp2
      go_roundw
      case rel =>
        have hx' : secL X (k + 1) = secL X k ++ scells x := by rw [← HX.out]; rfl
        exact ⟨k + 1, .slice (some ⟨g', 0, none⟩) (k + 1) cap', by omega, by go_num, q2.setCell (Nat.le_refl _) _, by simpa [World.setCell] using q3, Box3.set1 q1 _, by rw [hx']; exact hown'.kept (grown_set (World.grownBy.refl _ _) _) (.inr (fun e => by have := (hown'.lt _ e).1; omega))⟩
      case measure => simp [intOf]; omega
    · have hkn : k = ns := by omega
      subst hkn
      obtain ⟨gA, kA, rfl⟩ := own_some hown hp
      have HO : Hid _ := hown
      have HBX : Hid _ := hbx
      have HBE : Hid _ := hbel
      clear hown hbx hbel c10 c11 c12
      rename World => wo
      go_wp2
      go_loopw [28] (fun i wr => ∃ (j : Nat) (v : Value), j ≤ n ∧ i = .int .i64 j ∧ Below (w.heap.size + 1 + 1) V wr ∧ w.heap.size + 1 + 1 + 1 ≤ wr.heap.size ∧ Box3 wr (w.heap.size + 1 + 1) 44 (.bool ok) (.slice (some ⟨gA, 0, none⟩) k kA) v ∧ wr.ownsRow (w.heap.size + 1 + 1 + 1) 93 5 (.slice (some ⟨gA, 0, none⟩) k kA) k (secL X k) ∧ wr.ownsRow (w.heap.size + 1 + 1 + 1) 4 1 v j (boolL D j)) (fun i _ => n - (intOf i).toNat)
      case atStart => exact ⟨0, .slice none 0 0, Nat.zero_le _, rfl, HBE.out, hsz, HBX.out, HO.out, World.ownsRow_nil _ _ _ _⟩
      case round =>
        obtain ⟨j, v, hj, rfl, hbel, hsz', hbx, hownS, hown⟩ := hrel
        have z2' : w.heap.size + 1 + 1 < wr.heap.size := by omega
        by_cases hlt : j < n
        · obtain ⟨gd, rfl⟩ := hV.2.addr (by omega)
          obtain ⟨_, _, m, f, b1, b2, b3⟩ := (hlo wr hbel).2.blk (by omega)
          have e0 := one b2 b1 hlt b3
          have hj1 : (j : Int) < (n : Int) := by omega
          obtain ⟨b, eb⟩ : ∃ b, D j = b := ⟨_, rfl⟩
          rw [eb] at e0
          have hnw := new_cell1 wr b 4
          have hoA := hown.alloc (.cells #[.bool b] 4)
          have hoS := hownS.alloc (.cells #[.bool b] 4)
          have hbA := hbx.alloc (.cells #[.bool b] 4)
          have h1c : ∀ u ∈ [Value.bool b], u.oneCell' = true := fun u hu => by
            simp only [List.mem_cons, List.not_mem_nil, or_false] at hu
            subst hu; rfl
          have post : ∀ w2, (wr.alloc (.cells #[.bool b] 4)).grownBy w2 v.ownBlock → Box3 w2 (w.heap.size + 1 + 1) 44 (.bool ok) (.slice (some ⟨gA, 0, none⟩) k kA) v ∧ Below (w.heap.size + 1 + 1) V w2 ∧ w.heap.size + 1 + 1 + 1 ≤ w2.heap.size ∧ w2.ownsRow (w.heap.size + 1 + 1 + 1) 93 5 (.slice (some ⟨gA, 0, none⟩) k kA) k (secL X k) := fun w2 hg =>
            ⟨Blk.grown hbA hg (fun e => by have := (hown.lt _ e).1; omega), (hbel.alloc (by omega) _).grown hg (by simp; omega) (fun j hj => by have := (hown.lt j hj).1; omega), by have := hg.size; simp at this; omega, hoS.kept hg (own_apart hoS hoA (by decide))⟩
          obtain ⟨y0, y1, y2⟩ := hbx.cells
          have HX : Hid (D j = b) := eb
          have HP : Hid _ := post
          clear b2 b3 eb hbA post hoS
          go_wp2_with (first
            | (at_builtin; refine wpList_append_own _ rfl _ _ 38 rfl (w.heap.size + 1 + 1 + 1) 4 i1 _ 1 1 Try.underlying38 hi1 hy0 hy1 hy2 rfl (by decide) _ _ _ rfl hoA ⟨wr.heap.size, 0, none⟩ 1 1 [.bool b] rfl rfl hnw h1c (by unfold maxLen; omega) (by omega) (by simp; omega) ?_; intro v' w2 hown' hgrow hnil; obtain ⟨g', cap', rfl⟩ := own_some hown' (by omega); obtain ⟨q1, q2, q3, q4⟩ := HP.out w2 hgrow; obtain ⟨t0, t1, t2⟩ := q1.cells; have u1 := Blk.frozen q1 2))
          go_wp2
          go_roundw
          case rel =>
            have hx' : boolL D (j + 1) = boolL D j ++ [.bool b] := by rw [← HX.out]; rfl
            exact ⟨j + 1, .slice (some ⟨g', 0, none⟩) (j + 1) cap', by omega, by go_num, q2.setCell (Nat.le_refl _) _, by simpa [World.setCell] using q3, Box3.set2 q1 _, q4.kept (grown_set (World.grownBy.refl _ _) _) (.inr (fun e => by have := (q4.lt _ e).1; omega)), by rw [hx']; exact hown'.kept (grown_set (World.grownBy.refl _ _) _) (.inr (fun e => by have := (hown'.lt _ e).1; omega))⟩
          case measure => simp [intOf]; omega
        · have hjn : j = n := by omega
          subst hjn
          have LS := SlF.of_ownsRow (G := secs X) hownS (fun i hi jj hjj => secL_get X k i jj hi hjj)
          have LD := SlF.of_ownsRow (G := bools D) hown (fun i hi jj hjj => by
            have hj0 : jj = 0 := by omega
            subst hj0
            simp only [Nat.mul_one, Nat.add_zero]; exact boolL_get D j i hi)
          obtain ⟨aD, kD, rfl, _⟩ := id LD
          obtain ⟨y0, y1, y2⟩ := hbx.cells
          have r2 : Box3 wr (w.heap.size + 1) 44 (.bool false) (.slice none 0 0) (.slice none 0 0) := Blk.below x2 hbel (by omega)
          obtain ⟨t0, t1, t2⟩ := r2.cells
          have f0 := Blk.frozen r2 0
          have f1 := Blk.frozen r2 1
          have f2 := Blk.frozen r2 2
          have T2 : Turned wr (((wr.setCell ⟨w.heap.size + 1, 0, none⟩ (.bool ok)).setCell ⟨w.heap.size + 1, 1, none⟩ (.slice (some ⟨gA, 0, none⟩) k kA)).setCell ⟨w.heap.size + 1, 2, none⟩ (.slice aD j kD)) (· = 44) (w.heap.size + 1) (w.heap.size + 1 + 1) := Turned.of_grown (grown_set (grown_set (grown_set (World.grownBy.refl _ _) _) _) _) (Nat.le_refl _) (by omega) rfl r2
          have rr := (((Blk.set r2 0 (.bool ok)).set 1 (.slice (some ⟨gA, 0, none⟩) k kA)).set 2 (.slice aD j kD))
          have r0 := rr.cell (i := 0) (by omega)
          have r1 := rr.cell (i := 1) (by omega)
          have r2' := rr.cell (i := 2) (by omega)
          simp only [Nat.reduceEqDiff, if_false, if_true] at r0 r1 r2'
          have zs : (((wr.setCell ⟨w.heap.size + 1, 0, none⟩ (.bool ok)).setCell ⟨w.heap.size + 1, 1, none⟩ (.slice (some ⟨gA, 0, none⟩) k kA)).setCell ⟨w.heap.size + 1, 2, none⟩ (.slice aD j kD)).heap.size = wr.heap.size := by simp [World.setCell]
          have L3 : Lst (((wr.setCell ⟨w.heap.size + 1, 0, none⟩ (.bool ok)).setCell ⟨w.heap.size + 1, 1, none⟩ (.slice (some ⟨gA, 0, none⟩) k kA)).setCell ⟨w.heap.size + 1, 2, none⟩ (.slice aD j kD)) w.heap.size (((wr.setCell ⟨w.heap.size + 1, 0, none⟩ (.bool ok)).setCell ⟨w.heap.size + 1, 1, none⟩ (.slice (some ⟨gA, 0, none⟩) k kA)).setCell ⟨w.heap.size + 1, 2, none⟩ (.slice aD j kD)).heap.size (.slice (some ⟨gA, 0, none⟩) k kA) k X (.slice aD j kD) j D := ⟨(LS.turned T2 (.inl (by decide))).wide (by omega) (Nat.le_of_eq zs.symm), (LD.turned T2 (.inl (by decide))).wide (by omega) (Nat.le_of_eq zs.symm)⟩
          have B3 : Below w.heap.size w (((wr.setCell ⟨w.heap.size + 1, 0, none⟩ (.bool ok)).setCell ⟨w.heap.size + 1, 1, none⟩ (.slice (some ⟨gA, 0, none⟩) k kA)).setCell ⟨w.heap.size + 1, 2, none⟩ (.slice aD j kD)) := (bV.trans (hbel.mono (by omega))).trans (T2.below (by omega) (by omega))
          have HL : Hid _ := L3
          have HB : Hid _ := B3
          clear L3 B3 T2 rr r2 LS LD hown hownS zs
          go_wp2
          exact bodyPost_ret (v := .agg #[.bool ok, .slice (some ⟨gA, 0, none⟩) k kA, .slice aD j kD]) (by simp only [results, Try.results55]; simp [go_sem, r0, r1, r2']) rfl ⟨gA, kA, aD, kD, rfl, HL.out, HB.out⟩

end Go.Proofs.Ytlpopfhaephfaab
