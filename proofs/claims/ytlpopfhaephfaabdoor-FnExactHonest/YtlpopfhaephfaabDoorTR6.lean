import Derived.Test.YtlpopfhaephfaabDoorTR5
namespace Go.Proofs.YtlpopfhaephfaabDoor
open Go.RowKit Go.Shelf
attribute [local go_sem] Oper.semAt_some

theorem Tryd.infoRw : (Tryd.prog.info? 53).map (fun i => (i.zero, i.size, i.bytes)) = some (some (.slice none 0 0), 1, 24) := by kernel_rfl

theorem made_rows (m : Nat) : ∃ C : Array Value, C.size = m ∧ ∀ W : World, m ≤ 2000 → (Instr.makeSlice 48 (.int .i64 0) (.int .i64 (m : Int))).run Tryd.prog W = .ok (.slice (some ⟨W.heap.size, 0, none⟩) 0 m) (W.alloc (.cells C 53)) := by
  obtain ⟨i0, hi, hz0, hz1, hz2⟩ := info_parts Tryd.infoRw
  refine ⟨madeCells (Value.cells (.slice none 0 0)) m, size_madeCells _ _, fun W hn => ?_⟩
  have := run_make (P := Tryd.prog) W 48 53 i0 _ Tryd.underlying48 hi hz0 .i64 .i64 0 (m : Int) (by omega) (by omega) (by rw [hz2]; omega) (by omega)
  rw [hz1] at this
  simpa using this

theorem own_of_block {w w' : World} {base e sz n : Nat} {v : Value} {xs : List Value} (h : w.ownsRow base e sz v n xs) (hb : ∀ g, v.ownBlock = some g → w'.heap[g]? = w.heap[g]?) : w'.ownsRow base e sz v n xs := by
  refine ⟨h.1, ?_⟩
  rcases h.2 with hn | ⟨g, cap, cur, rfl, hbb, hgg, rest⟩
  · exact .inl hn
  · exact .inr ⟨g, cap, cur, rfl, hbb, by rw [hb g rfl]; exact hgg, rest⟩

theorem hnewo' (w : World) (o : Obj) : (w.alloc o).heap[w.heap.size]? = some o := by
  unfold World.alloc
  simp

/-- an append, as an operation of a region that draws its order -/
theorem opIn_append {F : Fence} {n : Nat} {P : Program} (w : World) {ops : Array Oper} {o : Oper} {a : Act} {Q : Exit → Act → World → Prop} {K : Act → World → Prop}
    (hg : o.guard = none) (s x : Operand) (t : TypeId) (hop : o.op = Op.call { callee := Callee.builtin Builtin.append, args := #[s, x], argTypes := #[t, t] })
    {v y v' : Value} {w' : World} (hs : a.eval s = v) (hx : a.eval x = y) (hrun : (Builtin.append_ #[t, t] o.type #[v, y]).run P w = .ok v' w') (hK : K (a.put o.dst v') w') :
    if Region.wanted o (yielded ops a.tmps) = true then Oper.wpIn F n P o a w K Q else (∀ f, o.about P w a.eval = some f → F.fn f) ∧ K (a.put o.dst undef) w := by
  rw [if_pos (by simp only [Region.wanted, hg])]
  unfold Oper.wpIn
  refine ⟨?_, ?_⟩
  · simp [Oper.about, hop, resolve, Target.leads, Sem.run_pure]
  · rw [Oper.semAt_plain F _ _ (by rw [hop]; intro c hc'; cases hc')]
    simp [execOp, hop, resolve, invoke, builtin, hs, hx, hrun, Result.andThen]
    exact hK

theorem cell_one (w : World) (v : Value) (e : TypeId) : ∀ j u, [v][j]? = some u → (w.alloc (.cells #[v] e)).cell? ((⟨w.heap.size, 0, none⟩ : Addr).add j) = some u := by
  intro j u hu
  have hj : j < 1 := (List.getElem?_eq_some_iff.1 hu).1
  have hj0 : j = 0 := by omega
  subst hj0
  simpa [Addr.add] using hu

theorem blk_one {w : World} {b : Nat} {e : TypeId} {v : Value} (h : Blk w b e 1 (fun _ => v)) (x : Value) : Blk (w.setCell ⟨b, 0, none⟩ x) b e 1 (fun _ => x) :=
  (h.set 0 x).congr (fun i hi => by
    have h0 : i = 0 := by omega
    simp [h0])

theorem IntB.row {w : World} {b n : Nat} {Z : Nat → Int} (h : IntB w b n Z) : SlF w 3 1 b (b + 1) (.slice (some ⟨b, 0, none⟩) n n) n (rowV Z) :=
  ⟨_, _, rfl, .inr ⟨b, n, _, rfl, Nat.le_refl _, by omega, by omega, h, fun i _ j hj => by
    have h0 : j = 0 := by omega
    subst h0
    simp [rowV]⟩⟩

theorem RwF.kept {A B : World} {row : Option Nat} {lo hi m ns : Nat} {v : Value} {Z : Nat → Nat → Int} (h : RwF A lo hi v m ns Z) (hg : A.grownBy B row) (hr : ∀ r, row = some r → ∃ o : Obj, A.heap[r]? = some o ∧ o.isCells = false) : RwF B lo hi v m ns Z := by
  have key : ∀ b e mm f, Blk A b e mm f → B.heap[b]? = A.heap[b]? := fun b e mm f h1 => hg.block b h1.lt (fun e1 => by
    obtain ⟨o, ho, hc⟩ := hr b e1.symm
    obtain ⟨o2, h3, h4⟩ := blk_cells h1
    rw [ho] at h3; cases h3; rw [hc] at h4; cases h4)
  obtain ⟨A', L, h1, h2, h3, h4⟩ := h
  exact ⟨A', L, h1.of_block (fun _ _ _ hb _ _ => key _ _ _ _ hb), h2, h3, fun i hi => ⟨(h4 i hi).1, (h4 i hi).2.of_block (fun _ _ _ hb _ _ => key _ _ _ _ hb)⟩⟩

theorem keeps_turned {A B : World} {E : Nat → Prop} {lo hi : Nat} (h : Turned A B E lo hi) : KeepsOthers A B :=
  ⟨h.size, fun k o hk ho => by
    rcases h.block k (Array.getElem?_eq_some_iff.1 hk).1 with h' | ⟨_, _, e', m', f', _, a4⟩
    · rw [h']; exact hk
    · obtain ⟨o2, h3, h4⟩ := blk_cells a4
      rw [hk] at h3; cases h3; rw [ho] at h4; cases h4⟩

theorem RowI.turned {w w' : World} {base low top k ns lo hi : Nat} {v : Value} {Z : Nat → Nat → Int} {E : Nat → Prop} (h : RowI w base low top v k ns Z) (ht : Turned w w' E lo hi) (h1 : ¬ E 53) (h2 : ¬ E 3) : RowI w' base low top v k ns Z := by
  obtain ⟨A, L, a1, a2, a3, a4⟩ := h
  exact ⟨A, L, own_turned a1 ht h1, a2, a3, fun i hi => ⟨(a4 i hi).1, (a4 i hi).2.turned ht (.inl h2)⟩⟩

/-- behind a round of Truth's loop -/
theorem truth_fin {w W w5 w6 : World} {base low top tb rb k ns lo5 hi5 : Nat} {v v' u : Value} {Z : Nat → Nat → Int} {A : Nat → Value} {L : Nat → Nat} (hB : Below w.heap.size w W) (hb : Blk W tb 48 1 (fun _ => v)) (htb : w.heap.size ≤ tb) (hrw : IntB W rb ns (Z k))
    (q1 : W.ownsRow base 53 1 v k (rwL A k)) (q2 : low ≤ L 0) (q3 : L k ≤ top) (q4 : ∀ i, i < k → L i ≤ L (i + 1) ∧ SlF W 3 1 (L i) (L (i + 1)) (A i) ns (rowV (Z i))) (hbase : base = w.heap.size) (htop : top ≤ W.heap.size)
    (h5 : Below W.heap.size W w5) (s5 : SlF w5 3 1 lo5 hi5 u ns (rowV (Z k))) (h1 : W.heap.size ≤ lo5) (h2 : lo5 ≤ hi5) (h3 : hi5 ≤ w5.heap.size)
    (r1 : w6.ownsRow base 53 1 v' (k + 1) (rwL A k ++ [u])) (r2 : (w5.alloc (.cells #[u] 53)).grownBy w6 v.ownBlock) :
    Blk w6 tb 48 1 (fun _ => v) ∧ (KeepsOthers W (w6.setCell ⟨tb, 0, none⟩ v') ∧ KpT W (w6.setCell ⟨tb, 0, none⟩ v') ∧ IntB (w6.setCell ⟨tb, 0, none⟩ v') rb ns (Z k) ∧ ∃ x top', Blk (w6.setCell ⟨tb, 0, none⟩ v') tb 48 1 (fun _ => x) ∧ RowI (w6.setCell ⟨tb, 0, none⟩ v') base low top' x (k + 1) ns Z ∧ x.ownBlock ≠ some rb ∧ (top' ≤ (w6.setCell ⟨tb, 0, none⟩ v').heap.size ∨ (k + 1 = 0 ∧ top' = low)) ∧ Below w.heap.size w (w6.setCell ⟨tb, 0, none⟩ v')) := by
  subst hbase
  have hU : Below W.heap.size W (w5.alloc (.cells #[u] 53)) := below_alloc h5 _
  have ownU := own_on q1 hU
  have tg := own_grown ownU r2
  have tW : Turned W w6 (· = 53) w.heap.size (w5.alloc (.cells #[u] 53)).heap.size := (Turned.of_below hU).trans tg
  have b6 := hb.turned tW (.inl (by decide))
  have i6 : IntB w6 rb ns (Z k) := Blk.turned hrw tW (.inl (by decide))
  have tS : Turned w6 (w6.setCell ⟨tb, 0, none⟩ v') (· = 48) tb (tb + 1) := Turned.of_grown (grown_set (World.grownBy.refl _ _) _) (Nat.le_refl _) (by omega) rfl b6
  have tA : Turned W (w6.setCell ⟨tb, 0, none⟩ v') (fun e => e = 53 ∨ e = 48) w.heap.size (tb + 1 + (w5.alloc (.cells #[u] 53)).heap.size) := (tW.mono (fun _ h => .inl h) (Nat.le_refl _) (by omega)).trans (tS.mono (fun _ h => .inr h) htb (by omega))
  have I6 : RowI w6 w.heap.size low hi5 v' (k + 1) ns Z := RowI.step ownU q2 q3 (fun i hi => ⟨(q4 i hi).1, (q4 i hi).2.on hU⟩) (s5.on (below_alloc (Below.refl _ _) _)) (by omega) h2 r1 r2
  have zz : W.heap.size ≤ w6.heap.size := tW.size
  have z6 : (w5.alloc (.cells #[u] 53)).heap.size ≤ w6.heap.size := tg.size
  rw [World.size_alloc] at z6
  refine ⟨b6, keeps_turned tA, KpT.of_turned tA (by decide) (by decide) (by decide) (by decide), Blk.turned i6 tS (.inl (by decide)), v', hi5, blk_one b6 v', I6.turned tS (by decide) (by decide), fun e => ?_, .inl (by have := tS.size; omega), (hB.trans (tW.below (Nat.le_refl _) hB.size)).trans (tS.below htb (by have := hB.size; omega))⟩
  obtain ⟨_, mm, f, h9⟩ := own_blk r1 e
  have := h9.type_eq i6
  exact absurd this (by decide)

end Go.Proofs.YtlpopfhaephfaabDoor
