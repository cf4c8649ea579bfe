import Derived.Test.YtlpopfhaephfaabTR5
namespace Go.Proofs.Ytlpopfhaephfaab
open Go.RowKit Go.Shelf
attribute [local go_sem] Oper.semAt_some

theorem Try.infoRw : (Try.prog.info? 91).map (fun i => (i.zero, i.size, i.bytes)) = some (some (.slice none 0 0), 1, 24) := by kernel_rfl

theorem made_rows (m : Nat) : ∃ C : Array Value, C.size = m ∧ ∀ W : World, m ≤ 2000 → (Instr.makeSlice 68 (.int .i64 0) (.int .i64 (m : Int))).run Try.prog W = .ok (.slice (some ⟨W.heap.size, 0, none⟩) 0 m) (W.alloc (.cells C 91)) := by
  obtain ⟨i0, hi, hz0, hz1, hz2⟩ := info_parts Try.infoRw
  refine ⟨madeCells (Value.cells (.slice none 0 0)) m, size_madeCells _ _, fun W hn => ?_⟩
  have := run_make (P := Try.prog) W 68 91 i0 _ Try.underlying68 hi hz0 .i64 .i64 0 (m : Int) (by omega) (by omega) (by rw [hz2]; omega) (by omega)
  rw [hz1] at this
  simpa using this

theorem own_of_block {w w' : World} {base e sz n : Nat} {v : Value} {xs : List Value} (h : w.ownsRow base e sz v n xs) (hb : ∀ g, v.ownBlock = some g → w'.heap[g]? = w.heap[g]?) : w'.ownsRow base e sz v n xs := by
  refine ⟨h.1, ?_⟩
  rcases h.2 with hn | ⟨g, cap, cur, rfl, hbb, hgg, rest⟩
  · exact .inl hn
  · exact .inr ⟨g, cap, cur, rfl, hbb, by rw [hb g rfl]; exact hgg, rest⟩

theorem hnewo' (w : World) (o : Obj) : (w.alloc o).heap[w.heap.size]? = some o := by
  unfold World.alloc
  simp

/-- an append, as an operation of a region that draws its order -/
theorem opIn_append {F : Fence} {n : Nat} {P : Program} (w : World) {ops : Array Oper} {o : Oper} {a : Act} {Q : Exit → Act → World → Prop} {K : Act → World → Prop}
    (hg : o.guard = none) (s x : Operand) (t : TypeId) (hop : o.op = Op.call { callee := Callee.builtin Builtin.append, args := #[s, x], argTypes := #[t, t] })
    {v y v' : Value} {w' : World} (hs : a.eval s = v) (hx : a.eval x = y) (hrun : (Builtin.append_ #[t, t] o.type #[v, y]).run P w = .ok v' w') (hK : K (a.put o.dst v') w') :
    if Region.wanted o (yielded ops a.tmps) = true then Oper.wpIn F n P o a w K Q else (∀ f, o.about P w a.eval = some f → F.fn f) ∧ K (a.put o.dst undef) w := by
  rw [if_pos (by simp only [Region.wanted, hg])]
  unfold Oper.wpIn
  refine ⟨?_, ?_⟩
  · simp [Oper.about, hop, resolve, Target.leads, Sem.run_pure]
  · rw [Oper.semAt_plain F _ _ (by rw [hop]; intro c hc'; cases hc')]
    simp [execOp, hop, resolve, invoke, builtin, hs, hx, hrun, Result.andThen]
    exact hK

theorem cell_one (w : World) (v : Value) (e : TypeId) : ∀ j u, [v][j]? = some u → (w.alloc (.cells #[v] e)).cell? ((⟨w.heap.size, 0, none⟩ : Addr).add j) = some u := by
  intro j u hu
  have hj : j < 1 := (List.getElem?_eq_some_iff.1 hu).1
  have hj0 : j = 0 := by omega
  subst hj0
  simpa [Addr.add] using hu

theorem blk_one {w : World} {b : Nat} {e : TypeId} {v : Value} (h : Blk w b e 1 (fun _ => v)) (x : Value) : Blk (w.setCell ⟨b, 0, none⟩ x) b e 1 (fun _ => x) :=
  (h.set 0 x).congr (fun i hi => by
    have h0 : i = 0 := by omega
    simp [h0])

theorem IntB.row {w : World} {b n : Nat} {Z : Nat → Int} (h : IntB w b n Z) : SlF w 3 1 b (b + 1) (.slice (some ⟨b, 0, none⟩) n n) n (rowV Z) :=
  ⟨_, _, rfl, .inr ⟨b, n, _, rfl, Nat.le_refl _, by omega, by omega, h, fun i _ j hj => by
    have h0 : j = 0 := by omega
    subst h0
    simp [rowV]⟩⟩

theorem RwF.kept {A B : World} {row : Option Nat} {lo hi m ns : Nat} {v : Value} {Z : Nat → Nat → Int} (h : RwF A lo hi v m ns Z) (hg : A.grownBy B row) (hr : ∀ r, row = some r → ∃ o : Obj, A.heap[r]? = some o ∧ o.isCells = false) : RwF B lo hi v m ns Z := by
  have key : ∀ b e mm f, Blk A b e mm f → B.heap[b]? = A.heap[b]? := fun b e mm f h1 => hg.block b h1.lt (fun e1 => by
    obtain ⟨o, ho, hc⟩ := hr b e1.symm
    obtain ⟨o2, h3, h4⟩ := blk_cells h1
    rw [ho] at h3; cases h3; rw [hc] at h4; cases h4)
  obtain ⟨A', L, h1, h2, h3, h4⟩ := h
  exact ⟨A', L, h1.of_block (fun _ _ _ hb _ _ => key _ _ _ _ hb), h2, h3, fun i hi => ⟨(h4 i hi).1, (h4 i hi).2.of_block (fun _ _ _ hb _ _ => key _ _ _ _ hb)⟩⟩

theorem keeps_turned {A B : World} {E : Nat → Prop} {lo hi : Nat} (h : Turned A B E lo hi) : KeepsOthers A B :=
  ⟨h.size, fun k o hk ho => by
    rcases h.block k (Array.getElem?_eq_some_iff.1 hk).1 with h' | ⟨_, _, e', m', f', _, a4⟩
    · rw [h']; exact hk
    · obtain ⟨o2, h3, h4⟩ := blk_cells a4
      rw [hk] at h3; cases h3; rw [ho] at h4; cases h4⟩

theorem RowI.turned {w w' : World} {base low top k ns lo hi : Nat} {v : Value} {Z : Nat → Nat → Int} {E : Nat → Prop} (h : RowI w base low top v k ns Z) (ht : Turned w w' E lo hi) (h1 : ¬ E 91) (h2 : ¬ E 3) : RowI w' base low top v k ns Z := by
  obtain ⟨A, L, a1, a2, a3, a4⟩ := h
  exact ⟨A, L, own_turned a1 ht h1, a2, a3, fun i hi => ⟨(a4 i hi).1, (a4 i hi).2.turned ht (.inl h2)⟩⟩

/-- behind a round of Truth's loop -/
theorem truth_fin {w W w5 w6 : World} {base low top tb rb k ns lo5 hi5 : Nat} {v v' u : Value} {Z : Nat → Nat → Int} {A : Nat → Value} {L : Nat → Nat} (hB : Below w.heap.size w W) (hb : Blk W tb 68 1 (fun _ => v)) (htb : w.heap.size ≤ tb) (hrw : IntB W rb ns (Z k))
    (q1 : W.ownsRow base 91 1 v k (rwL A k)) (q2 : low ≤ L 0) (q3 : L k ≤ top) (q4 : ∀ i, i < k → L i ≤ L (i + 1) ∧ SlF W 3 1 (L i) (L (i + 1)) (A i) ns (rowV (Z i))) (hbase : base = w.heap.size) (htop : top ≤ W.heap.size)
    (h5 : Below W.heap.size W w5) (s5 : SlF w5 3 1 lo5 hi5 u ns (rowV (Z k))) (h1 : W.heap.size ≤ lo5) (h2 : lo5 ≤ hi5) (h3 : hi5 ≤ w5.heap.size)
    (r1 : w6.ownsRow base 91 1 v' (k + 1) (rwL A k ++ [u])) (r2 : (w5.alloc (.cells #[u] 91)).grownBy w6 v.ownBlock) :
    Blk w6 tb 68 1 (fun _ => v) ∧ (KeepsOthers W (w6.setCell ⟨tb, 0, none⟩ v') ∧ KpT W (w6.setCell ⟨tb, 0, none⟩ v') ∧ IntB (w6.setCell ⟨tb, 0, none⟩ v') rb ns (Z k) ∧ ∃ x top', Blk (w6.setCell ⟨tb, 0, none⟩ v') tb 68 1 (fun _ => x) ∧ RowI (w6.setCell ⟨tb, 0, none⟩ v') base low top' x (k + 1) ns Z ∧ x.ownBlock ≠ some rb ∧ (top' ≤ (w6.setCell ⟨tb, 0, none⟩ v').heap.size ∨ (k + 1 = 0 ∧ top' = low)) ∧ Below w.heap.size w (w6.setCell ⟨tb, 0, none⟩ v')) := by
  subst hbase
  have hU : Below W.heap.size W (w5.alloc (.cells #[u] 91)) := below_alloc h5 _
  have ownU := own_on q1 hU
  have tg := own_grown ownU r2
  have tW : Turned W w6 (· = 91) w.heap.size (w5.alloc (.cells #[u] 91)).heap.size := (Turned.of_below hU).trans tg
  have b6 := hb.turned tW (.inl (by decide))
  have i6 : IntB w6 rb ns (Z k) := Blk.turned hrw tW (.inl (by decide))
  have tS : Turned w6 (w6.setCell ⟨tb, 0, none⟩ v') (· = 68) tb (tb + 1) := Turned.of_grown (grown_set (World.grownBy.refl _ _) _) (Nat.le_refl _) (by omega) rfl b6
  have tA : Turned W (w6.setCell ⟨tb, 0, none⟩ v') (fun e => e = 91 ∨ e = 68) w.heap.size (tb + 1 + (w5.alloc (.cells #[u] 91)).heap.size) := (tW.mono (fun _ h => .inl h) (Nat.le_refl _) (by omega)).trans (tS.mono (fun _ h => .inr h) htb (by omega))
  have I6 : RowI w6 w.heap.size low hi5 v' (k + 1) ns Z := RowI.step ownU q2 q3 (fun i hi => ⟨(q4 i hi).1, (q4 i hi).2.on hU⟩) (s5.on (below_alloc (Below.refl _ _) _)) (by omega) h2 r1 r2
  have zz : W.heap.size ≤ w6.heap.size := tW.size
  have z6 : (w5.alloc (.cells #[u] 91)).heap.size ≤ w6.heap.size := tg.size
  rw [World.size_alloc] at z6
  refine ⟨b6, keeps_turned tA, KpT.of_turned tA (by decide) (by decide) (by decide) (by decide), Blk.turned i6 tS (.inl (by decide)), v', hi5, blk_one b6 v', I6.turned tS (by decide) (by decide), fun e => ?_, .inl (by have := tS.size; omega), (hB.trans (tW.below (Nat.le_refl _) hB.size)).trans (tS.below htb (by have := hB.size; omega))⟩
  obtain ⟨_, mm, f, h9⟩ := own_blk r1 e
  have := h9.type_eq i6
  exact absurd this (by decide)

theorem implTruth_bad (S : Int) (g n m ce : Nat) (ae : Option Addr) (F T : Nat → Int) (w : World) (hm : m ≤ 1048576) (hrow : Row w g 88 2 n (two F T)) (hb : ¬ (lokZ S n F T = 0 ∧ m ≤ 2000)) :
    Calls Try.prog 37 #[.agg #[.int .i64 S, .slice (some ⟨g, 0, none⟩) n n], .slice ae m ce] w fun e w' => e = .returned (.slice none 0 0) ∧ Below w.heap.size w w' := by
  have kc := fun o => runOk_any S g n m ce ae F T _ hm (hrow.alloc o)
  have e0 : (lokZ S n F T == 0 && decide (m ≤ 2000)) = false := by
    cases h1 : (lokZ S n F T == 0)
    · rfl
    · simp only [beq_iff_eq] at h1
      simp only [Bool.true_and, decide_eq_false_iff_not]
      exact fun h => hb ⟨h1, h⟩
  rw [e0] at kc
  go_enter Try.func37, Try.ntmps37
  go_wp2_with fail
  refine (kc _).mono ?_
  rintro e w1 ⟨rfl, hb1⟩
  have B1 := below_on (show Below w.heap.size w _ from (by repeat (first | exact Below.refl _ _ | assumption | refine below_alloc ?_ _ | refine Below.setCell ?_ (by first | omega | (simp; done) | (simp; omega)) _ | refine Below.alloc ?_ (by first | omega | (simp; done) | (simp; omega)) _ | refine Below.drew ?_))) hb1
  go_wp2
  go_ret
  exact ⟨rfl, B1⟩

set_option maxRecDepth 100000 in
set_option maxHeartbeats 4000000 in
theorem implTruth_ok (S : Int) (g n le he m ns : Nat) (F T : Nat → Int) (P : Nat → Nat → Int) (ve : Value) (w : World) (hrow : Row w g 88 2 n (two F T)) (hev : SlF w 33 3 le he ve m (evs P)) (hl : lokZ S n F T = 0) (hS : (ns : Int) = S) (hm : m ≤ 2000) :
    Calls Try.prog 37 #[.agg #[.int .i64 S, .slice (some ⟨g, 0, none⟩) n n], ve] w fun e w' => ∃ u, e = .returned u ∧ RwF w' w.heap.size w'.heap.size u m ns (fun k => trZ S n F T P (k + 1)) ∧ Below w.heap.size w w' := by
  subst hS
  obtain ⟨r1, r2, r3⟩ := lok_range hl
  have hp : 0 < ns := by omega
  have hm' : m ≤ 1048576 := by omega
  obtain ⟨ae, ce, rfl, he0⟩ := id hev
  obtain ⟨i0, hi, hz0, hz1, hz2⟩ := info_parts Try.infoRw
  obtain ⟨Cs, zs, mk0⟩ := made_rows m
  have mk := fun W => mk0 W hm
  have kc := fun o => runOk_any (ns : Int) g n m ce ae F T _ hm' (hrow.alloc o)
  have e0 : (lokZ (ns : Int) n F T == 0 && decide (m ≤ 2000)) = true := by simp [hl, hm]
  rw [e0] at kc
  clear e0 mk0 he0
  obtain ⟨V, eV⟩ : ∃ V, w.alloc (.cells #[.int .i64 (ns : Int), .slice (some ⟨g, 0, none⟩) n n] 31) = V := ⟨_, rfl⟩
  have sV : V.heap.size = w.heap.size + 1 := by rw [← eV]; simp
  have bV : Below w.heap.size w V := by rw [← eV]; exact (by repeat (first | exact Below.refl _ _ | assumption | refine below_alloc ?_ _ | refine Below.setCell ?_ (by first | omega | (simp; done) | (simp; omega)) _ | refine Below.alloc ?_ (by first | omega | (simp; done) | (simp; omega)) _ | refine Below.drew ?_))
  have bL : Blk V w.heap.size 31 2 (fun i => if i = 0 then .int .i64 (ns : Int) else .slice (some ⟨g, 0, none⟩) n n) := by
    rw [← eV]
    exact Blk.new w #[.int .i64 (ns : Int), .slice (some ⟨g, 0, none⟩) n n] 31 _ (fun i hi => by simp at hi; match i, hi with | 0, _ => rfl | 1, _ => rfl)
  have P0 : ∀ W, Below V.heap.size V W → W.cell? ⟨w.heap.size, 0, none⟩ = some (.int .i64 (ns : Int)) ∧ W.cell? ⟨w.heap.size, 1, none⟩ = some (.slice (some ⟨g, 0, none⟩) n n) := fun W hb => ⟨(bL.on hb).cell (i := 0) (by omega), (bL.on hb).cell (i := 1) (by omega)⟩
  have kc' := kc (.cells #[.int .i64 (ns : Int), .slice (some ⟨g, 0, none⟩) n n] 31)
  rw [eV] at kc'
  have EV : Hid _ := eV
  clear eV bL kc
  refine (callsIn_wide (n := 3)).1 ?_
  refine callsIn_of_wp_marks Try.func37 rfl trivial ?_ rfl
  simp only [Try.ntmps37, List.size_toArray, List.length_cons, List.length_nil, Nat.reduceAdd, Nat.reduceSub, Array.replicate_succ, Array.replicate_zero, List.push_toArray, List.append_toArray, List.nil_append, List.cons_append]
  gi_wp2_with fail
  rw [EV.out]
  refine ⟨trivial, (callsIn_wide.2 kc').mono ?_⟩
  clear kc'
  rintro e w1 ⟨rfl, B1⟩
  obtain ⟨y0, y1⟩ := P0 w1 B1
  have z1 : w.heap.size + 1 ≤ w1.heap.size := by have := B1.size; omega
  have zl : w.heap.size < w1.heap.size + 1 := by omega
  have zl' : w.heap.size < w1.heap.size := by omega
  gi_wp2_with fail
  have bT : Blk ((w1.alloc (.cells Cs 91)).alloc (.cells #[.slice (some ⟨w1.heap.size, 0, none⟩) 0 m] 68)) (w1.heap.size + 1) 68 1 (fun _ => .slice (some ⟨w1.heap.size, 0, none⟩) 0 m) := by
    have := Blk.new (w1.alloc (.cells Cs 91)) #[.slice (some ⟨w1.heap.size, 0, none⟩) 0 m] 68 (fun _ => .slice (some ⟨w1.heap.size, 0, none⟩) 0 m) (fun i hi => by simp at hi; match i, hi with | 0, _ => rfl)
    rw [World.size_alloc] at this
    exact this
  have oT : ((w1.alloc (.cells Cs 91)).alloc (.cells #[.slice (some ⟨w1.heap.size, 0, none⟩) 0 m] 68)).ownsRow w.heap.size 91 1 (.slice (some ⟨w1.heap.size, 0, none⟩) 0 m) 0 [] := by
    have : (w1.alloc (.cells Cs 91)).ownsRow w.heap.size 91 1 (.slice (some ⟨w1.heap.size, 0, none⟩) 0 m) 0 [] := ⟨rfl, .inr ⟨w1.heap.size, m, Cs, rfl, by omega, hnewo' w1 _, by omega, by unfold maxLen; omega, by rw [zs]; omega, by simp⟩⟩
    exact this.alloc _
  have B2 : Below V.heap.size V ((w1.alloc (.cells Cs 91)).alloc (.cells #[.slice (some ⟨w1.heap.size, 0, none⟩) 0 m] 68)) := below_alloc (below_alloc B1 _) _
  obtain ⟨W2, e2⟩ : ∃ W2, (w1.alloc (.cells Cs 91)).alloc (.cells #[.slice (some ⟨w1.heap.size, 0, none⟩) 0 m] 68) = W2 := ⟨_, rfl⟩
  have z2 : w1.heap.size + 1 < W2.heap.size := by rw [← e2]; simp
  rw [e2] at bT oT B2 ⊢
  clear e2 mk y0 y1
  refine ⟨trivial, (callsIn_wide.2 (rows_any (ns : Int) g n m ce ae W2)).mono ?_⟩
  rintro e w3 ⟨rfl, hw3⟩
  have h23 : Below W2.heap.size W2 w3 := by rw [hw3]; exact (by repeat (first | exact Below.refl _ _ | assumption | refine below_alloc ?_ _ | refine Below.setCell ?_ (by first | omega | (simp; done) | (simp; omega)) _ | refine Below.alloc ?_ (by first | omega | (simp; done) | (simp; omega)) _ | refine Below.drew ?_))
  have z3 : w3.heap.size = W2.heap.size + 1 + 1 := by rw [hw3]; simp
  have B3 := below_on bV (below_on B2 h23)
  have eL : Blk w3 W2.heap.size 31 2 (fun i => if i = 0 then .int .i64 (ns : Int) else .slice (some ⟨g, 0, none⟩) n n) := by
    rw [hw3]
    exact (Blk.new W2 #[.int .i64 (ns : Int), .slice (some ⟨g, 0, none⟩) n n] 31 _ (fun i hi => by simp at hi; match i, hi with | 0, _ => rfl | 1, _ => rfl)).alloc _
  have eE : Blk w3 (W2.heap.size + 1) 61 1 (fun _ => .slice ae m ce) := by
    rw [hw3]
    have := Blk.new (W2.alloc (.cells #[.int .i64 (ns : Int), .slice (some ⟨g, 0, none⟩) n n] 31)) #[.slice ae m ce] 61 (fun _ => .slice ae m ce) (fun i hi => by simp at hi; match i, hi with | 0, _ => rfl)
    rw [World.size_alloc] at this
    exact this
  have EN : EnvT w3 W2.heap.size (W2.heap.size + 1) (ns : Int) g n le he m ae ce F T P := ⟨eL, eE, hrow.on B3, hev.on B3⟩
  have bT3 := bT.on h23
  have oT3 := own_on oT h23
  have zT : w1.heap.size + 1 < w3.heap.size := by omega
  have zw : w.heap.size ≤ w3.heap.size := B3.size
  clear hw3 eL eE h23 bT oT B2 B1 EV P0 z3 sV bV
  gi_wp2_with fail
  refine range_rows (gf := 99) (lb := #[.pointer (some ⟨W2.heap.size, 0, none⟩), .pointer (some ⟨W2.heap.size + 1, 0, none⟩)]) rfl (enters_of Try.func99 (by kernel_rfl) rfl) (rows1_in _ W2.heap.size (W2.heap.size + 1) g n le he m ce ns ae F T P w3 hl hm EN) (fun _ _ => rfl)
    (fun rb k W l o o' h h1 h2 => Blk.of_block h (World.putObj_heap_other (fun e1 => by subst e1; obtain ⟨o2, h3, h4⟩ := blk_cells h; rw [h1] at h3; cases h3; rw [h2] at h4; cases h4)))
    KpT.trans KpT.putObj
    (fun k W => ∃ v top, Blk W (w1.heap.size + 1) 68 1 (fun _ => v) ∧ RowI W w.heap.size (w3.heap.size + 1 + 1 + 1) top v k ns (fun k => trZ (ns : Int) n F T P (k + 1)) ∧ v.ownBlock ≠ some (w3.heap.size + 1 + 1) ∧ (top ≤ W.heap.size ∨ (k = 0 ∧ top = w3.heap.size + 1 + 1 + 1)) ∧ Below w.heap.size w W)
    ?own ⟨_, w3.heap.size + 1 + 1 + 1, bT3, ⟨fun _ => .slice none 0 0, fun _ => w3.heap.size + 1 + 1 + 1, oT3, Nat.le_refl _, Nat.le_refl _, fun i hi => by omega⟩, ?ne, .inr ⟨rfl, rfl⟩, B3⟩
    (fun k => { tmps := #[.agg #[.int .i64 (ns : Int), .slice (some ⟨g, 0, none⟩) n n], .slice ae m ce, .pointer (some ⟨w.heap.size, 0, none⟩), undef, .slice none 0 0, .pointer (some ⟨w1.heap.size + 1, 0, none⟩), undef, .slice (some ⟨w3.heap.size + 1 + 1, 0, none⟩) ns ns, .agg #[.int .i64 (ns : Int), .slice (some ⟨g, 0, none⟩) n n], .slice ae m ce, .bool true, .bool false, .slice ae m ce, .int .i64 (m : Int), .slice (some ⟨w1.heap.size, 0, none⟩) 0 m, .agg #[.int .i64 (ns : Int), .slice (some ⟨g, 0, none⟩) n n], .slice ae m ce, .func (.func 99) #[] #[.pointer (some ⟨W2.heap.size, 0, none⟩), .pointer (some ⟨W2.heap.size + 1, 0, none⟩)], .int .i64 (k : Int), .slice (some ⟨w3.heap.size + 1 + 1, 0, none⟩) ns ns, undef, undef, undef, undef, undef, undef], defers := [] }) ?assign ?body ?done
  case ne => simp only [Value.ownBlock, ne_eq, Option.some.injEq]; omega
  case own =>
    rintro k A B row ⟨v, top, hb, ⟨A', L, a1, a2, a3, a4⟩, hne, htop, hB⟩ hg hr
    have key : ∀ b e mm f, Blk A b e mm f → b ≠ w3.heap.size + 1 + 1 → B.heap[b]? = A.heap[b]? := fun b e mm f h1 h2 => hg.block b h1.lt (fun e1 => by
      rcases hr b e1.symm with h | ⟨_, o, ho, hc⟩
      · exact h2 h
      · obtain ⟨o2, h3, h4⟩ := blk_cells h1
        rw [ho] at h3; cases h3; rw [hc] at h4; cases h4)
    have hL : ∀ i, i < k → L i ≤ L (i + 1) := fun i hi => (a4 i hi).1
    refine ⟨v, top, hb.of_block (key _ _ _ _ hb (by omega)), ⟨A', L, own_of_block a1 (fun b h1 => ?_), a2, a3, fun i hi => ⟨(a4 i hi).1, (a4 i hi).2.of_block (fun b _ _ h1 h2 _ => key _ _ _ _ h1 ?_)⟩⟩, hne, htop.imp (fun h => Nat.le_trans h hg.size) id, hB.grown hg hB.size (fun r e => ?_)⟩
    · obtain ⟨_, mm, f, h2⟩ := own_blk a1 h1
      exact key _ _ _ _ h2 (fun e => hne (by rw [h1, e]))
    · have := rise' hL (Nat.zero_le i) (Nat.le_of_lt hi)
      omega
    · rcases hr r e with h | ⟨h, _⟩ <;> omega
  case assign =>
    intro l k W K hK
    gi_wp2
    exact hK
  case body =>
    rintro l k W hk ⟨v, top, hb, ⟨A', L, q1, q2, q3, q4⟩, hne, htop, hB⟩ hrw
    have zr : w3.heap.size + 1 + 1 < W.heap.size := Blk.lt hrw
    have htop' : top ≤ W.heap.size := by omega
    have c0 := hb.cell (i := 0) (by omega)
    have zt := hb.lt
    gi_wp2_with fail
    have kl := cloneI_any (some ⟨w3.heap.size + 1 + 1, 0, none⟩) (w3.heap.size + 1 + 1) (w3.heap.size + 1 + 1 + 1) ns ns (trZ (ns : Int) n F T P (k + 1)) W.drew (by omega) (IntB.row hrw)
    refine wpIn_region_any (by kernel_rfl) ?_
    change wpAnyIn _ _ _ _ _ _ _ _ _ (World.drew _)
    refine wpAnyIn_ready (rs := [0, 1]) (by kernel_rfl) (by simp) ?_
    refine AllReadyIn.cons rfl (fun K hK => ?_) (AllReadyIn.cons rfl (fun K hK => ?_) AllReadyIn.nil)
    · go_simp
      refine hK _ _ ?_
      clear hK K
      refine wpAnyIn_ready (rs := [1]) (by kernel_rfl) (by simp) ?_
      refine AllReadyIn.cons rfl (fun K hK => ?_) AllReadyIn.nil
      go_simp
      refine hK _ _ ?_
      clear hK K
      refine wpAnyIn_ready (rs := [2]) (by kernel_rfl) (by simp) ?_
      refine AllReadyIn.cons rfl (fun K hK => ?_) AllReadyIn.nil
      go_simp
      refine ⟨trivial, (CallsIn.inRound l (callsIn_wide.2 kl)).mono ?_⟩
      rintro e w5 ⟨a5, c5, rfl, s5, hb5⟩
      have h5 : Below W.heap.size W w5 := (Below.refl W.heap.size W).drew.trans hb5
      have z5 := h5.size
      have d5 : w5.cell? ⟨w1.heap.size + 1, 0, none⟩ = some v := (h5.cell (p := ⟨w1.heap.size + 1, 0, none⟩) zt).trans c0
      have zt5 : w1.heap.size + 1 < w5.heap.size := by omega
      refine hK _ _ ?_
      clear hK K
      refine wpAnyIn_ready (rs := [3]) (by kernel_rfl) (by simp) ?_
      refine AllReadyIn.cons rfl (fun K hK => ?_) AllReadyIn.nil
      go_simp
      refine hK _ _ ?_
      clear hK K
      obtain ⟨v', w6, hrun, r1, r2, _⟩ := run_append_own (P := Try.prog) (w := w5.alloc (.cells #[.slice a5 ns c5] 91)) w.heap.size 68 68 91 i0 _ 1 24 Try.underlying68 hi hz0 hz1 hz2 rfl (by decide) v k (rwL A' k) (own_on q1 (below_alloc h5 _)) ⟨w5.heap.size, 0, none⟩ 1 1 [.slice a5 ns c5] rfl (cell_one w5 _ _) (fun u hu => by simp only [List.mem_cons, List.not_mem_nil, or_false] at hu; subst hu; rfl) (by unfold maxLen; omega) (by omega) (by simp; omega)
      obtain ⟨g6, cap6, rfl⟩ := own_some r1 (by omega)
      obtain ⟨b6, fin⟩ := truth_fin (Z := fun k => trZ (ns : Int) n F T P (k + 1)) hB hb (by omega) hrw q1 q2 q3 q4 rfl htop' h5 s5 (Nat.le_refl _) hb5.size (Nat.le_refl _) r1 r2
      have x6 := b6.cell (i := 0) (by omega)
      have f6 := b6.frozen 0
      have FI : Hid _ := fin
      clear fin r1 r2
      refine wpAnyIn_ready (rs := [4]) (by kernel_rfl) (by simp) ?_ 
      refine AllReadyIn.cons rfl (fun K hK => opIn_append _ rfl _ _ _ rfl rfl rfl hrun (hK _ _ ?_)) AllReadyIn.nil
      go_simp
      refine wpAnyIn_ready (rs := [5]) (by kernel_rfl) (by simp) ?_
      refine AllReadyIn.cons rfl (fun K hK => ?_) AllReadyIn.nil
      go_simp
      refine hK _ _ ?_
      clear hK K
      refine wpAnyIn_done (by kernel_rfl) ?_ _
      gi_wp2
      exact FI.out
    · go_simp
      refine hK _ _ ?_
      clear hK K
      refine wpAnyIn_ready (rs := [0, 2]) (by kernel_rfl) (by simp) ?_
      refine AllReadyIn.cons rfl (fun K hK => ?_) (AllReadyIn.cons rfl (fun K hK => ?_) AllReadyIn.nil)
      · go_simp
        refine hK _ _ ?_
        clear hK K
        refine wpAnyIn_ready (rs := [2]) (by kernel_rfl) (by simp) ?_
        refine AllReadyIn.cons rfl (fun K hK => ?_) AllReadyIn.nil
        go_simp
        refine ⟨trivial, (CallsIn.inRound l (callsIn_wide.2 kl)).mono ?_⟩
        rintro e w5 ⟨a5, c5, rfl, s5, hb5⟩
        have h5 : Below W.heap.size W w5 := (Below.refl W.heap.size W).drew.trans hb5
        have z5 := h5.size
        have d5 : w5.cell? ⟨w1.heap.size + 1, 0, none⟩ = some v := (h5.cell (p := ⟨w1.heap.size + 1, 0, none⟩) zt).trans c0
        have zt5 : w1.heap.size + 1 < w5.heap.size := by omega
        refine hK _ _ ?_
        clear hK K
        refine wpAnyIn_ready (rs := [3]) (by kernel_rfl) (by simp) ?_
        refine AllReadyIn.cons rfl (fun K hK => ?_) AllReadyIn.nil
        go_simp
        refine hK _ _ ?_
        clear hK K
        obtain ⟨v', w6, hrun, r1, r2, _⟩ := run_append_own (P := Try.prog) (w := w5.alloc (.cells #[.slice a5 ns c5] 91)) w.heap.size 68 68 91 i0 _ 1 24 Try.underlying68 hi hz0 hz1 hz2 rfl (by decide) v k (rwL A' k) (own_on q1 (below_alloc h5 _)) ⟨w5.heap.size, 0, none⟩ 1 1 [.slice a5 ns c5] rfl (cell_one w5 _ _) (fun u hu => by simp only [List.mem_cons, List.not_mem_nil, or_false] at hu; subst hu; rfl) (by unfold maxLen; omega) (by omega) (by simp; omega)
        obtain ⟨g6, cap6, rfl⟩ := own_some r1 (by omega)
        obtain ⟨b6, fin⟩ := truth_fin (Z := fun k => trZ (ns : Int) n F T P (k + 1)) hB hb (by omega) hrw q1 q2 q3 q4 rfl htop' h5 s5 (Nat.le_refl _) hb5.size (Nat.le_refl _) r1 r2
        have x6 := b6.cell (i := 0) (by omega)
        have f6 := b6.frozen 0
        have FI : Hid _ := fin
        clear fin r1 r2
        refine wpAnyIn_ready (rs := [4]) (by kernel_rfl) (by simp) ?_ 
        refine AllReadyIn.cons rfl (fun K hK => opIn_append _ rfl _ _ _ rfl rfl rfl hrun (hK _ _ ?_)) AllReadyIn.nil
        go_simp
        refine wpAnyIn_ready (rs := [5]) (by kernel_rfl) (by simp) ?_
        refine AllReadyIn.cons rfl (fun K hK => ?_) AllReadyIn.nil
        go_simp
        refine hK _ _ ?_
        clear hK K
        refine wpAnyIn_done (by kernel_rfl) ?_ _
        gi_wp2
        exact FI.out
      · go_simp
        refine ⟨trivial, (CallsIn.inRound l (callsIn_wide.2 kl)).mono ?_⟩
        rintro e w5 ⟨a5, c5, rfl, s5, hb5⟩
        have h5 : Below W.heap.size W w5 := (Below.refl W.heap.size W).drew.trans hb5
        have z5 := h5.size
        have d5 : w5.cell? ⟨w1.heap.size + 1, 0, none⟩ = some v := (h5.cell (p := ⟨w1.heap.size + 1, 0, none⟩) zt).trans c0
        have zt5 : w1.heap.size + 1 < w5.heap.size := by omega
        refine hK _ _ ?_
        clear hK K
        refine wpAnyIn_ready (rs := [0, 3]) (by kernel_rfl) (by simp) ?_
        refine AllReadyIn.cons rfl (fun K hK => ?_) (AllReadyIn.cons rfl (fun K hK => ?_) AllReadyIn.nil)
        · go_simp
          refine hK _ _ ?_
          clear hK K
          refine wpAnyIn_ready (rs := [3]) (by kernel_rfl) (by simp) ?_
          refine AllReadyIn.cons rfl (fun K hK => ?_) AllReadyIn.nil
          go_simp
          refine hK _ _ ?_
          clear hK K
          obtain ⟨v', w6, hrun, r1, r2, _⟩ := run_append_own (P := Try.prog) (w := w5.alloc (.cells #[.slice a5 ns c5] 91)) w.heap.size 68 68 91 i0 _ 1 24 Try.underlying68 hi hz0 hz1 hz2 rfl (by decide) v k (rwL A' k) (own_on q1 (below_alloc h5 _)) ⟨w5.heap.size, 0, none⟩ 1 1 [.slice a5 ns c5] rfl (cell_one w5 _ _) (fun u hu => by simp only [List.mem_cons, List.not_mem_nil, or_false] at hu; subst hu; rfl) (by unfold maxLen; omega) (by omega) (by simp; omega)
          obtain ⟨g6, cap6, rfl⟩ := own_some r1 (by omega)
          obtain ⟨b6, fin⟩ := truth_fin (Z := fun k => trZ (ns : Int) n F T P (k + 1)) hB hb (by omega) hrw q1 q2 q3 q4 rfl htop' h5 s5 (Nat.le_refl _) hb5.size (Nat.le_refl _) r1 r2
          have x6 := b6.cell (i := 0) (by omega)
          have f6 := b6.frozen 0
          have FI : Hid _ := fin
          clear fin r1 r2
          refine wpAnyIn_ready (rs := [4]) (by kernel_rfl) (by simp) ?_ 
          refine AllReadyIn.cons rfl (fun K hK => opIn_append _ rfl _ _ _ rfl rfl rfl hrun (hK _ _ ?_)) AllReadyIn.nil
          go_simp
          refine wpAnyIn_ready (rs := [5]) (by kernel_rfl) (by simp) ?_
          refine AllReadyIn.cons rfl (fun K hK => ?_) AllReadyIn.nil
          go_simp
          refine hK _ _ ?_
          clear hK K
          refine wpAnyIn_done (by kernel_rfl) ?_ _
          gi_wp2
          exact FI.out
        · go_simp
          refine hK _ _ ?_
          clear hK K
          refine wpAnyIn_ready (rs := [0]) (by kernel_rfl) (by simp) ?_
          refine AllReadyIn.cons rfl (fun K hK => ?_) AllReadyIn.nil
          go_simp
          refine hK _ _ ?_
          clear hK K
          obtain ⟨v', w6, hrun, r1, r2, _⟩ := run_append_own (P := Try.prog) (w := w5.alloc (.cells #[.slice a5 ns c5] 91)) w.heap.size 68 68 91 i0 _ 1 24 Try.underlying68 hi hz0 hz1 hz2 rfl (by decide) v k (rwL A' k) (own_on q1 (below_alloc h5 _)) ⟨w5.heap.size, 0, none⟩ 1 1 [.slice a5 ns c5] rfl (cell_one w5 _ _) (fun u hu => by simp only [List.mem_cons, List.not_mem_nil, or_false] at hu; subst hu; rfl) (by unfold maxLen; omega) (by omega) (by simp; omega)
          obtain ⟨g6, cap6, rfl⟩ := own_some r1 (by omega)
          obtain ⟨b6, fin⟩ := truth_fin (Z := fun k => trZ (ns : Int) n F T P (k + 1)) hB hb (by omega) hrw q1 q2 q3 q4 rfl htop' h5 s5 (Nat.le_refl _) hb5.size (Nat.le_refl _) r1 r2
          have x6 := b6.cell (i := 0) (by omega)
          have f6 := b6.frozen 0
          have FI : Hid _ := fin
          clear fin r1 r2
          refine wpAnyIn_ready (rs := [4]) (by kernel_rfl) (by simp) ?_ 
          refine AllReadyIn.cons rfl (fun K hK => opIn_append _ rfl _ _ _ rfl rfl rfl hrun (hK _ _ ?_)) AllReadyIn.nil
          go_simp
          refine wpAnyIn_ready (rs := [5]) (by kernel_rfl) (by simp) ?_
          refine AllReadyIn.cons rfl (fun K hK => ?_) AllReadyIn.nil
          go_simp
          refine hK _ _ ?_
          clear hK K
          refine wpAnyIn_done (by kernel_rfl) ?_ _
          gi_wp2
          exact FI.out
  case done =>
    rintro W ⟨v, top, hb, hR, hne, htop, hB⟩ hD
    have c0 := hb.cell (i := 0) (by omega)
    have hz : w.heap.size + 1 + 1 ≤ W.heap.size := by have := hb.lt; omega
    have RW : RwF W w.heap.size W.heap.size v m ns (fun k => trZ (ns : Int) n F T P (k + 1)) := by
      rcases htop with h | ⟨rfl, rfl⟩
      · exact hR.rows (by omega) h
      · obtain ⟨A', L, q1, _⟩ := hR
        rcases q1.2 with ⟨rfl, _⟩ | ⟨g', cap', cur, rfl, _⟩
        · exact RwF.nil _ _ _ _ _ _ (by omega) _
        · exact RwF.nil _ _ _ _ _ _ (by omega) _
    have RB := RwF.kept RW (grownBy_putObj' W w3.heap.size (.deferred none)) (fun r e => by cases e; exact ⟨_, hD, rfl⟩)
    have BB : Below w.heap.size w (W.putObj w3.heap.size (.deferred none)) := hB.grown (grownBy_putObj' W w3.heap.size (.deferred none)) hB.size (fun r e => by cases e; exact zw)
    have HR : Hid _ := RB
    clear hR RW RB hne htop hb
    gi_wp2
    refine ⟨by simp, .inl ⟨_, _, rfl, run_takeDeferred hD, ?_⟩⟩
    refine ⟨_, results_tmp rfl _ _ _, _, rfl, ?_, BB⟩
    rw [World.putObj_size]
    exact HR.out

end Go.Proofs.Ytlpopfhaephfaab
