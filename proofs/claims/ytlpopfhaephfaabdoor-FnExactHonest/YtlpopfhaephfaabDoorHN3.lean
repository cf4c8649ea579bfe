import Derived.Test.YtlpopfhaephfaabDoorTR3
namespace Go.Proofs.YtlpopfhaephfaabDoor
open Go.RowKit Go.Shelf
attribute [local go_sem] Oper.semAt_some

/-- How a round's body is left here: it goes on, or it returns. -/
def onPostX (R Rx : World → Prop) : Exit → Act → World → Prop
  | .normal, _, W' => R W'
  | .ret, _, W' => Rx W'
  | .exit _, _, _ => False
  | .goto _, _, _ => False
  | .panic _, _, _ => False
  | .outgrown, _, _ => False

/-- An iterator that makes one block of its own (at the heap's end), turns it ahead of each of m rounds, and hands it to the round. -/
def SeqX (n : Nat) (P : Program) (gf : Nat) (lb : Array Value) (encs : Nat → Nat → Array Value) (m : Nat) (Rw : Nat → Nat → World → Prop) (Kp : World → World → Prop) (w0 : World) : Prop :=
  ∀ (l : Nat) (J : Nat → World → Prop) (Jx : World → Prop) (W : World), Below w0.heap.size w0 W →
    (∀ k A B row, J k A → A.grownBy B row → (∀ r, row = some r → r = W.heap.size) → J k B) →
    (∀ k W1, k < m → J k W1 → Rw W.heap.size k W1 → YieldAt Fence.wide (n - 1) P l (encs W.heap.size k) W1 fun e W' => (e = .returned (.bool true) ∧ J (k + 1) W' ∧ Rw W.heap.size k W' ∧ Kp W1 W') ∨ (e = .returned (.bool false) ∧ Jx W')) →
    J 0 W → CallsIn Fence.wide n P gf (#[.func (.yield l) #[] #[]] ++ lb) W fun e W' => (∃ v, e = .returned v) ∧ (J m W' ∨ Jx W')

theorem range_rowsX {P : Program} {n : Nat} {g : Operand} {ps : Array Tmp} {assign body : Code} {Q : Exit → Act → World → Prop} {a : Act} {w : World} {gf : Nat} {lb : Array Value}
    (hg : a.eval g = .func (.func gf) #[] lb) (eg : ∀ args w, (callFunc gf args).run P w = .ok (.enter gf args) w)
    {encs : Nat → Nat → Array Value} {m : Nat} {Rw : Nat → Nat → World → Prop} {Kp : World → World → Prop} (hseq : SeqX (n - 1) P gf lb encs m Rw Kp w)
    (hps : ∀ rb k, (encs rb k).size = ps.size)
    (hRp : ∀ rb k W l o o', Rw rb k W → W.heap[l]? = some o → o.isCells = false → Rw rb k (W.putObj l o'))
    (hKt : ∀ {A B C : World}, Kp A B → Kp B C → Kp A C) (hKb : ∀ (W : World) (l : Nat) (o o' : Obj), W.heap[l]? = some o → o.isCells = false → Kp W (W.putObj l o'))
    (I : Nat → World → Prop)
    (hI : ∀ k A B row, I k A → A.grownBy B row → (∀ r, row = some r → r = w.heap.size + 1 + 1 ∨ (w.heap.size ≤ r ∧ ∃ o : Obj, A.heap[r]? = some o ∧ o.isCells = false)) → I k B)
    (Ix : World → Prop) (hIx : ∀ A B row, Ix A → A.grownBy B row → (∀ r, row = some r → w.heap.size ≤ r ∧ ∃ o : Obj, A.heap[r]? = some o ∧ o.isCells = false) → Ix B)
    (h0 : I 0 w) (a₁ : Nat → Act)
    (hassign : ∀ (l k : Nat) (W : World) (K : Act → World → Prop), K (a₁ k) W →
      assign.wpIn (Fence.wide.inRound l) (n - 1 - 1) P (Exit.then K (fun _ _ _ => False)) { tmps := (ps.zip (encs (w.heap.size + 1 + 1) k)).foldl (fun t (p, v) => t.setIfInBounds p v) a.tmps, defers := [] } W)
    (hbody : ∀ (l k : Nat) (W : World), k < m → I k W → Rw (w.heap.size + 1 + 1) k W → body.wpIn (Fence.wide.inRound l) (n - 1 - 1) P (onPostX (fun W' => KeepsOthers W W' ∧ Kp W W' ∧ Rw (w.heap.size + 1 + 1) k W' ∧ I (k + 1) W') (fun W' => KeepsOthers W W' ∧ Ix W')) (a₁ k) W)
    (hdone : ∀ (W : World), I m W → W.heap[w.heap.size]? = some (.deferred (some [])) → Q .normal { a with defers := { target := .collected w.heap.size, args := #[] } :: a.defers } W)
    (hstop : ∀ (W : World), Ix W → W.heap[w.heap.size]? = some (.deferred (some [])) → Code.ret.wpIn Fence.wide n P Q { a with defers := { target := .collected w.heap.size, args := #[] } :: a.defers } W) :
    (Code.rangeFunc g ps assign body).wpIn Fence.wide n P Q a w := by
  refine wpIn_rangeFunc ?_
  intro fn hfn
  obtain ⟨rec, hrec⟩ : ∃ rec : LoopState → Option Code → Loop, rec = fun st pe => { state := st, pending := pe, fn, tmps := a.tmps, params := ps, assign, body, defers := w.heap.size } := ⟨_, rfl⟩
  obtain ⟨W1, hW1⟩ : ∃ W1, (w.alloc (.deferred (some []))).alloc (.loop (rec .ready none)) = W1 := ⟨_, rfl⟩
  have hL1 : W1.heap[w.heap.size + 1]? = some (.loop (rec .ready none)) := by
    rw [← hW1]; have := World.alloc_heap_new (w.alloc (.deferred (some []))) (.loop (rec .ready none)); rwa [World.size_alloc] at this
  have hK1 : W1.heap[w.heap.size]? = some (.deferred (some [])) := by
    rw [← hW1]; exact (Below.heap_alloc _ _ _ (by simp)).trans (World.alloc_heap_new w _)
  have hI1 : I 0 W1 := by rw [← hW1]; exact hI _ _ _ none (hI _ _ _ none h0 (World.grownBy_alloc w _ none) (fun r e => by cases e)) (World.grownBy_alloc _ _ none) (fun r e => by cases e)
  have hb1 : Below w.heap.size w W1 := by
    rw [← hW1]; exact ((Below.refl _ w).alloc (Nat.le_refl _) _).alloc (by simp) _
  have hs1 : W1.heap.size = w.heap.size + 1 + 1 := by rw [← hW1]; simp
  refine ⟨w.heap.size + 1, [{ target := .collected w.heap.size, args := #[] }], W1, { target := .fn (.func gf) lb, args := #[.func (.yield (w.heap.size + 1)) #[] #[]] }, W1, gf,
    #[.func (.yield (w.heap.size + 1)) #[] #[]] ++ lb, W1, ?_, ?_, ?_, ?_, fun h => (by cases h), ?_⟩
  · rw [← hW1, hrec]; exact run_enterLoop_outer _ _ _ _ _
  · simp only [resolve, hg]
    simp [go_sem]
  · intro f' hf'; trivial
  · simp [invoke, go_sem, eg]
  · refine (hseq (w.heap.size + 1)
      (fun k W => I k W ∧ W.heap[w.heap.size + 1]? = some (.loop (rec .ready none)) ∧ W.heap[w.heap.size]? = some (.deferred (some [])))
      (fun W => Ix W ∧ W.heap[w.heap.size + 1]? = some (.loop (rec .done (some .ret))) ∧ W.heap[w.heap.size]? = some (.deferred (some [])))
      W1 hb1
      (fun k A B row hs hg' hr => ⟨hI k A B row hs.1 hg' (fun r e => .inl (by rw [hr r e, hs1])),
        (hg'.block _ (Array.getElem?_eq_some_iff.1 hs.2.1).1 (fun e => by have := hr _ e.symm; omega)).trans hs.2.1, (hg'.block _ (Array.getElem?_eq_some_iff.1 hs.2.2).1 (fun e => by have := hr _ e.symm; omega)).trans hs.2.2⟩)
      ?_ ⟨hI1, hL1, hK1⟩).mono ?_
    · rw [hs1]
      rintro k W hk ⟨hi, hl, hd⟩ hrw
      have hlt : w.heap.size + 1 < W.heap.size := (Array.getElem?_eq_some_iff.1 hl).1
      have hy := run_yield (P := P) (args := encs (w.heap.size + 1 + 1) k) hl (by rw [hrec]; exact hps _ k)
      rw [hrec] at hy
      refine ⟨fn, _, assign, body, hy, roundIn_of_wpIn hfn (hassign _ k W _ ⟨_, run_beginRound hl (by rw [hrec]), ?_⟩)⟩
      have hl2 : (W.putObj (w.heap.size + 1) (.loop { rec .ready none with state := .busy })).heap[w.heap.size + 1]? = some (.loop { rec .ready none with state := .busy }) := World.putObj_heap_same hlt
      have hk2 : (W.putObj (w.heap.size + 1) (.loop { rec .ready none with state := .busy })).heap[w.heap.size]? = some (.deferred (some [])) := (World.putObj_heap_other (by omega)).trans hd
      have hw2 : Kp W (W.putObj (w.heap.size + 1) (.loop { rec .ready none with state := .busy })) := hKb _ _ _ _ hl rfl
      have hi2 : I k (W.putObj (w.heap.size + 1) (.loop { rec .ready none with state := .busy })) := hI _ _ _ (some (w.heap.size + 1)) hi (grownBy_putObj' _ _ _) (fun r e => by cases e; exact .inr ⟨by omega, _, hl, rfl⟩)
      refine wpIn_mono (hbody _ k _ hk hi2 (hRp _ _ _ _ _ _ hrw hl rfl)) ?_
      rintro e a3 W3 hp
      cases e with
      | normal =>
        obtain ⟨hk3, hkp3, hr3, hi3⟩ := hp
        have hl3 := hk3.same _ _ hl2 rfl
        have hd3 := hk3.same _ _ hk2 rfl
        have he := run_endRound (P := P) none hl3
        refine ⟨_, _, he, .inl ⟨rfl, ⟨hI _ _ _ (some (w.heap.size + 1)) hi3 (grownBy_putObj' _ _ _) (fun r e => by cases e; exact .inr ⟨by omega, _, hl3, rfl⟩), ?_, (World.putObj_heap_other (by omega)).trans hd3⟩, hRp _ _ _ _ _ _ hr3 hl3 rfl, hKt (hKt hw2 hkp3) (hKb _ _ _ _ hl3 rfl)⟩⟩
        rw [World.putObj_heap_same (Array.getElem?_eq_some_iff.1 hl3).1, hrec]
        rfl
      | ret =>
        obtain ⟨hk3, hi3⟩ := hp
        have hl3 := hk3.same _ _ hl2 rfl
        have hd3 := hk3.same _ _ hk2 rfl
        have he := run_endRound (P := P) (some .ret) hl3
        refine ⟨_, _, he, .inr ⟨rfl, hIx _ _ (some (w.heap.size + 1)) hi3 (grownBy_putObj' _ _ _) (fun r e => by cases e; exact ⟨by omega, _, hl3, rfl⟩), ?_, (World.putObj_heap_other (by omega)).trans hd3⟩⟩
        rw [World.putObj_heap_same (Array.getElem?_eq_some_iff.1 hl3).1, hrec]
        rfl
      | exit id => exact hp.elim
      | goto t => exact hp.elim
      | panic ch => exact hp.elim
      | outgrown => exact hp.elim
    · rintro e W2 ⟨⟨v, rfl⟩, ⟨hi, hl, hd⟩ | ⟨hi, hl, hd⟩⟩
      · exact ⟨none, _, by have := run_endLoop (P := P) hl (by rw [hrec]; simp); rw [hrec] at this; exact this, hdone _ (hI _ _ _ (some (w.heap.size + 1)) hi (grownBy_putObj' _ _ _) (fun r e => by cases e; exact .inr ⟨by omega, _, hl, rfl⟩)) ((World.putObj_heap_other (by omega)).trans hd)⟩
      · exact ⟨some .ret, _, by have := run_endLoop (P := P) hl (by rw [hrec]; simp); rw [hrec] at this; exact this, hstop _ (hIx _ _ (some (w.heap.size + 1)) hi (grownBy_putObj' _ _ _) (fun r e => by cases e; exact ⟨by omega, _, hl, rfl⟩)) ((World.putObj_heap_other (by omega)).trans hd)⟩

set_option maxRecDepth 100000 in
set_option maxHeartbeats 2000000 in
theorem rows1_inX (q bl be g n le he m ce ns : Nat) (ae : Option Addr) (F T : Nat → Int) (P : Nat → Nat → Int) (w0 : World) (hl : lokZ (ns : Int) n F T = 0) (hm : m ≤ 2000) (hE : EnvT w0 bl be (ns : Int) g n le he m ae ce F T P) :
    SeqX q Tryd.prog 62 #[.pointer (some ⟨bl, 0, none⟩), .pointer (some ⟨be, 0, none⟩)] (fun rb k => #[.int .i64 (k : Int), .slice (some ⟨rb, 0, none⟩) ns ns]) m (fun rb k W => IntB W rb ns (trZ (ns : Int) n F T P (k + 1))) KpT w0 := by
  intro l J Jx W hW hJ hY h0
  obtain ⟨r1, r2, r3⟩ := lok_range hl
  obtain ⟨Cs, zs, eCs, mk0⟩ := made_ints ns
  have mk := fun W => mk0 W (by omega)
  have EW : EnvT W bl be (ns : Int) g n le he m ae ce F T P := hE.kept (KpT.of_turned (Turned.of_below (E := fun _ => False) (lo := 0) (hi := 0) hW) id id id id)
  have y0 := EW.1.cell (i := 0) (by omega)
  have y1 := EW.2.1.cell (i := 0) (by omega)
  simp only [if_true] at y0 y1
  have b0 : IntB (W.alloc (.cells Cs 3)) W.heap.size ns (trZ (ns : Int) n F T P 0) := by
    have := Blk.new W Cs 3 (fun _ => .int .i64 0) (fun i hi => eCs i (by omega))
    rw [zs] at this
    exact this
  have EA : EnvT (W.alloc (.cells Cs 3)) bl be (ns : Int) g n le he m ae ce F T P := EW.kept (KpT.of_turned (Turned.of_below (E := fun _ => False) (lo := 0) (hi := 0) (below_alloc (Below.refl _ _) _)) id id id id)
  have JA : J 0 (W.alloc (.cells Cs 3)) := hJ _ _ _ none h0 (World.grownBy_alloc _ _ _) (fun r e => by cases e)
  have zl := EW.1.lt
  have ze := EW.2.1.lt
  clear mk0 eCs h0 hE
  refine callsIn_of_wp Tryd.func62 rfl trivial ?_ rfl
  simp only [Tryd.ntmps62, List.size_toArray, List.length_cons, List.length_nil, Nat.reduceAdd, Nat.reduceSub, Array.replicate_succ, Array.replicate_zero, List.push_toArray, List.append_toArray, List.nil_append, List.cons_append]
  gi_wp2
  gi_loopw [12] (fun i wr => ∃ k : Nat, k ≤ m ∧ i = .int .i64 k ∧ IntB wr W.heap.size ns (trZ (ns : Int) n F T P k) ∧ EnvT wr bl be (ns : Int) g n le he m ae ce F T P ∧ J k wr) (fun i _ => m - (intOf i).toNat)
  case atStart => exact ⟨0, Nat.zero_le _, rfl, b0, EA, JA⟩
  case round =>
    clear b0 EA JA EW y0 y1 mk
    obtain ⟨k, hk, rfl, hB, hE, hJk⟩ := hrel
    by_cases hlt : k < m
    · have hE' := hE
      obtain ⟨bL, bE, hrow, ⟨ae', ce', ee, he0⟩⟩ := hE'
      simp only [Value.slice.injEq] at ee
      obtain ⟨rfl, _, rfl⟩ := ee
      rcases he0 with he0 | ⟨ge, me, fe, rfl, _, _, h2, h3, h4⟩
      · omega
      obtain ⟨c0, c1, c2⟩ := trio h3 h2 hlt h4
      have y0 := bL.cell (i := 0) (by omega)
      have y1 := bL.cell (i := 1) (by omega)
      simp only [if_true, Nat.one_ne_zero, if_false] at y0 y1
      have zl' := bL.lt
      have eZ : trZ (ns : Int) n F T P (k + 1) = stepZ (ns : Int) n F T (trZ (ns : Int) n F T P k) (P k 0) (P k 1) (P k 2) := rfl
      obtain ⟨op, eop⟩ : ∃ op, P k 0 = op := ⟨_, rfl⟩
      obtain ⟨f, ef⟩ : ∃ f, P k 1 = f := ⟨_, rfl⟩
      obtain ⟨d, ed⟩ : ∃ d, P k 2 = d := ⟨_, rfl⟩
      rw [eop] at c0 eZ
      rw [ef] at c1 eZ
      rw [ed] at c2 eZ
      have hBU := below_alloc (Below.refl wr.heap.size wr) (.cells #[.int .i64 op, .int .i64 f, .int .i64 d] 51)
      have km := move_any (ns : Int) op f d g n ns W.heap.size F T (trZ (ns : Int) n F T P k) (wr.alloc (.cells #[.int .i64 op, .int .i64 f, .int .i64 d] 51)) hl rfl (hrow.alloc _) (Blk.on hB hBU) (fun s _ => by have := trZ_bound (ns : Int) n F T P k s; omega)
      rw [← eZ] at km
      have EU := hE.kept (KpT.of_turned (Turned.of_below (E := fun _ => False) (lo := 0) (hi := 0) hBU) id id id id)
      have JU := hJ _ _ _ none hJk (grown_of_below hBU) (fun r e => by cases e)
      have hi1 : (k : Int) < (m : Int) := by omega
      clear eZ eop ef ed h3 h4 bE hrow hE hJk hBU bL hB
      gi_wp2_with fail
      refine ⟨trivial, fun h => (by cases h), ?_⟩
      refine (callsIn_wide.2 km).mono ?_
      clear km
      rintro e w1 ⟨⟨v, rfl⟩, hB1, hT1⟩
      have J1 := hJ _ _ _ (some W.heap.size) JU hT1.grown1 (fun r e => by cases e; rfl)
      have E1 := EU.kept (KpT.of_turned hT1 (by decide) (by decide) (by decide) (by decide))
      obtain ⟨fn, tmps, assign, body, hy, hR⟩ := hY k w1 hlt J1 hB1
      clear J1 JU EU hT1 y0 y1 c0 c1 c2
      gi_wp2
      refine ⟨fun h => (by cases h), hR.mono ?_⟩
      rintro e W3 (⟨rfl, hJ3, hB3, hk3⟩ | ⟨rfl, hx⟩)
      · have E3 := E1.kept hk3
        clear hR hy
        gi_wp2
        go_roundw
        case rel => exact ⟨k + 1, by omega, by go_num, hB3, E3, hJ3⟩
        case measure => simp [intOf]; omega
      · gi_wp2
        refine bodyPost_ret (results_none rfl _ _ _) rfl ?_
        exact ⟨⟨_, rfl⟩, .inr hx⟩
    · gi_wp2
      go_end0
      have : k = m := by omega
      subst this
      exact ⟨⟨_, rfl⟩, .inl hJk⟩

end Go.Proofs.YtlpopfhaephfaabDoor
