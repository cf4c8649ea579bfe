import Derived.Test.YtlpopfhaephfaaaDoorQT
import Derived.Test.YtlpopfhaephfaaaDoorCR
import Derived.Test.YtlpopfhaephfaaaDoorRN5
namespace Go.Proofs.YtlpopfhaephfaaaDoor
open Go.RowKit Go.Maps

theorem duo {w : World} {g e m n k : Nat} {f : Nat → Value} {P : Nat → Nat → Int} (h : Blk w g e m f) (hm : n * 2 ≤ m) (hk : k < n) (hf : ∀ i, i < n → ∀ j, j < 2 → f (i * 2 + j) = evs P i j) :
    w.cell? ⟨g, k * 2, none⟩ = some (.int .i64 (P k 0)) ∧ w.cell? ⟨g, k * 2 + 1, none⟩ = some (.int .i64 (P k 1)) :=
  ⟨by rw [h.cell (by omega)]; exact congrArg some (hf k hk 0 (by omega)), by rw [h.cell (by omega), hf k hk 1 (by omega)]; rfl⟩

/-- what stands in the block behind k rounds of marking -/
def mark2 (q0 : Int) (k : Nat) (f : Nat → Value) : Nat → Value := fun c => if c < k * 2 then .int .i64 (q0 + (c : Int)) else f c

theorem mark2_step (q0 : Int) (k : Nat) (f : Nat → Value) (c : Nat) :
    (if c = k * 2 + 1 then Value.int .i64 (q0 + 2 * (k : Int) + 1) else if c = k * 2 then Value.int .i64 (q0 + 2 * (k : Int)) else mark2 q0 k f c) = mark2 q0 (k + 1) f c := by
  unfold mark2
  split
  · rename_i h; subst h; rw [if_pos (by omega)]; congr 1; omega
  · split
    · rename_i h; subst h; rw [if_pos (by omega)]; congr 1; omega
    · by_cases h : c < k * 2
      · rw [if_pos h, if_pos (by omega)]
      · rw [if_neg h, if_neg (by omega)]

def mkG (q0 : Int) (i j : Nat) : Int := q0 + ((i * 2 + j : Nat) : Int)

/-- the cells of a list of gaps -/
def gpC (l : List (Int × Int)) : List Value := l.flatMap fun p => [.int .i64 p.1, .int .i64 p.2]
theorem gpC_len (l : List (Int × Int)) : (gpC l).length = l.length * 2 := by
  induction l with
  | nil => rfl
  | cons a l ih => simp only [gpC, List.flatMap_cons, List.length_append, List.length_cons, List.length_nil] at ih ⊢; omega
theorem gpC_snoc (l : List (Int × Int)) (p : Int × Int) : gpC (l ++ [p]) = gpC l ++ [.int .i64 p.1, .int .i64 p.2] := by simp [gpC]
def gpP (l : List (Int × Int)) (i j : Nat) : Int := if j = 0 then (l.getD i (0, 0)).1 else (l.getD i (0, 0)).2
theorem gpC_get (l : List (Int × Int)) (i j : Nat) (hi : i < l.length) (hj : j < 2) : (gpC l)[i * 2 + j]? = some (evs (gpP l) i j) := by
  induction l generalizing i with
  | nil => simp at hi
  | cons a l ih =>
    simp only [gpC, List.flatMap_cons]
    cases i with
    | zero =>
      rw [List.getElem?_append_left (by simp; omega)]
      rcases (show j = 0 ∨ j = 1 by omega) with rfl | rfl <;> simp [evs, gpP]
    | succ i =>
      rw [List.getElem?_append_right (by simp; omega)]
      simp only [List.length_cons, List.length_nil]
      rw [show (i + 1) * 2 + j - (0 + 1 + 1) = i * 2 + j by omega]
      have := ih i (by simpa using hi)
      simp only [gpC] at this
      rw [this]
      simp [evs, gpP]

/-- whether a section is told free behind the k-th event though somebody is there -/
def gapB (S : Int) (n : Nat) (F T : Nat → Int) (P : Nat → Nat → Int) (k i : Nat) : Bool := decide ((runX S n F T P (k + 1) i).told = 0) && decide (¬ trZ S n F T P (k + 1) i = 0)
/-- the gaps of the k-th event up to a section; of the events up to one -/
def gpR (S : Int) (n : Nat) (F T : Nat → Int) (P : Nat → Nat → Int) (k : Nat) : Nat → List (Int × Int)
  | 0 => []
  | s + 1 => gpR S n F T P k s ++ (if gapB S n F T P k s then [((k : Int), (s : Int))] else [])
def gpA (S : Int) (n : Nat) (F T : Nat → Int) (P : Nat → Nat → Int) (ns : Nat) : Nat → List (Int × Int)
  | 0 => []
  | k + 1 => gpA S n F T P ns k ++ gpR S n F T P k ns
theorem gpR_len (S : Int) (n : Nat) (F T : Nat → Int) (P : Nat → Nat → Int) (k s : Nat) : (gpR S n F T P k s).length ≤ s := by
  induction s with
  | zero => simp [gpR]
  | succ s ih =>
    simp only [gpR, List.length_append]
    split <;> simp <;> omega
theorem gpA_len (S : Int) (n : Nat) (F T : Nat → Int) (P : Nat → Nat → Int) (ns k : Nat) (h : ns ≤ 60) : (gpA S n F T P ns k).length ≤ 60 * k := by
  induction k with
  | zero => simp [gpA]
  | succ k ih =>
    have := gpR_len S n F T P k ns
    simp only [gpA, List.length_append]
    omega

theorem Tryd.infoGp : (Tryd.prog.info? 72).map (fun i => (i.zero, i.size, i.bytes)) = some (some (.agg #[.int .i64 0, .int .i64 0]), 2, 16) := by kernel_rfl

theorem new_cells2 (w : World) (a b : Value) (e : TypeId) : ∀ j u, [a, b][j]? = some u → (w.alloc (.cells #[a, b] e)).cell? ((⟨w.heap.size, 0, none⟩ : Addr).add j) = some u := by
  intro j u hu
  have hj : j < 2 := (List.getElem?_eq_some_iff.1 hu).1
  have ea : (⟨w.heap.size, 0, none⟩ : Addr).add j = ⟨w.heap.size, j, none⟩ := by simp [Addr.add]; exact fun h => h.symm
  rw [ea]
  match j, hj with
  | 0, _ => simpa using hu
  | 1, _ => simpa using hu

end Go.Proofs.YtlpopfhaephfaaaDoor

namespace Go.Proofs.YtlpopfhaephfaaaDoor
open Go.RowKit Go.Shelf
attribute [local go_sem] Oper.semAt_some

/-- what lies below B, but for one block, is as it was -/
def KB (w3 : World) (gb : Nat) (W : World) : Prop := w3.heap.size ≤ W.heap.size ∧ ∀ b, b < w3.heap.size → b ≠ gb → W.heap[b]? = w3.heap[b]?

theorem KB.grown {w3 A B : World} {gb : Nat} {row : Option Nat} (h : KB w3 gb A) (hg : A.grownBy B row) (hr : ∀ r, row = some r → w3.heap.size ≤ r ∨ r = gb) : KB w3 gb B :=
  ⟨Nat.le_trans h.1 hg.size, fun b hb hne => (hg.block b (Nat.lt_of_lt_of_le hb h.1) (fun e => by have := hr b e.symm; omega)).trans (h.2 b hb hne)⟩

theorem KB.turned {w3 A B : World} {gb lo hi : Nat} {E : Nat → Prop} (h : KB w3 gb A) (ht : Turned A B E lo hi) (hr : w3.heap.size ≤ lo ∨ (lo = gb ∧ hi = gb + 1)) : KB w3 gb B :=
  ⟨Nat.le_trans h.1 ht.size, fun b hb hne => by
    rcases ht.block b (Nat.lt_of_lt_of_le hb h.1) with h' | ⟨a1, a2, _⟩
    · exact h'.trans (h.2 b hb hne)
    · omega⟩

theorem KB.blk {w3 W : World} {gb b e e' m m' : Nat} {f f' : Nat → Value} (h : KB w3 gb W) (hG : Blk w3 gb e' m' f') (hb : Blk w3 b e m f) (he : e ≠ e') : W.heap[b]? = w3.heap[b]? :=
  h.2 b hb.lt (fun e1 => by subst e1; exact he (hb.type_eq hG))

/-- behind a gap that was found -/
theorem gap_fin {w w3 W wq w6 : World} {gb rb ns k s : Nat} {v v' : Value} {l : List (Int × Int)} {Z : Nat → Int} (hgb : w.heap.size ≤ gb) (hw3 : w.heap.size ≤ w3.heap.size) (hb : Blk wq gb 30 1 (fun _ => v)) (hO : wq.ownsRow w3.heap.size 72 2 v l.length (gpC l)) (hi : IntB wq rb ns Z) (hK : KB w3 gb wq) (hB : Below w.heap.size w wq) (k1 : KeepsOthers W wq) (k2 : KpT W wq)
    (r1 : w6.ownsRow w3.heap.size 72 2 v' (l.length + 1) (gpC l ++ [.int .i64 (k : Int), .int .i64 (s : Int)])) (r2 : (wq.alloc (.cells #[.int .i64 (k : Int), .int .i64 (s : Int)] 72)).grownBy w6 v.ownBlock) :
    Blk w6 gb 30 1 (fun _ => v) ∧ Blk (w6.setCell ⟨gb, 0, none⟩ v') gb 30 1 (fun _ => v') ∧ (w6.setCell ⟨gb, 0, none⟩ v').ownsRow w3.heap.size 72 2 v' (l ++ [((k : Int), (s : Int))]).length (gpC (l ++ [((k : Int), (s : Int))])) ∧ v'.ownBlock ≠ some rb ∧ IntB (w6.setCell ⟨gb, 0, none⟩ v') rb ns Z ∧ KB w3 gb (w6.setCell ⟨gb, 0, none⟩ v') ∧ Below w.heap.size w (w6.setCell ⟨gb, 0, none⟩ v') ∧ KeepsOthers W (w6.setCell ⟨gb, 0, none⟩ v') ∧ KpT W (w6.setCell ⟨gb, 0, none⟩ v') := by
  have hU : Below wq.heap.size wq (wq.alloc (.cells #[.int .i64 (k : Int), .int .i64 (s : Int)] 72)) := below_alloc (Below.refl _ _) _
  have ownU := own_on hO hU
  have tg := own_grown ownU r2
  have tW : Turned wq w6 (· = 72) w3.heap.size (wq.alloc (.cells #[.int .i64 (k : Int), .int .i64 (s : Int)] 72)).heap.size := (Turned.of_below hU).trans tg
  have b6 := hb.turned tW (.inl (by decide))
  have i6 : IntB w6 rb ns Z := Blk.turned hi tW (.inl (by decide))
  have tS : Turned w6 (w6.setCell ⟨gb, 0, none⟩ v') (· = 30) gb (gb + 1) := Turned.of_grown (grown_set (World.grownBy.refl _ _) _) (Nat.le_refl _) (by omega) rfl b6
  have z6 : wq.heap.size ≤ w6.heap.size := tW.size
  have hs := hB.size
  refine ⟨b6, blk_one b6 v', by rw [gpC_snoc, List.length_append]; exact own_turned r1 tS (by decide), fun e => ?_, Blk.turned i6 tS (.inl (by decide)), (hK.turned tW (.inl (Nat.le_refl _))).turned tS (.inr ⟨rfl, rfl⟩), (hB.trans (tW.below hw3 hs)).trans (tS.below hgb (by omega)), k1.trans ((keeps_turned tW).trans (keeps_turned tS)), k2.trans ((KpT.of_turned tW (by decide) (by decide) (by decide) (by decide)).trans (KpT.of_turned tS (by decide) (by decide) (by decide) (by decide)))⟩
  obtain ⟨_, mm, f, h9⟩ := own_blk r1 e
  exact absurd (h9.type_eq i6) (by decide)

theorem implGaps_bad (S : Int) (g n m ce : Nat) (ae : Option Addr) (F T : Nat → Int) (w : World) (hm : m ≤ 1048576) (hrow : CRow w g n F T) (hb : ¬ (lokZ S n F T = 0 ∧ m ≤ 2000)) :
    Calls Tryd.prog 8 #[.agg #[.int .i64 S, .slice (gA g) n (gC g)], .slice ae m ce] w fun e w' => e = .returned (.slice none 0 0) ∧ Below w.heap.size w w' := by
  have kc := fun o => runOk_any S g n m ce ae F T _ hm (hrow.alloc o)
  have e0 : (lokZ S n F T == 0 && decide (m ≤ 2000)) = false := by
    cases h1 : (lokZ S n F T == 0)
    · rfl
    · simp only [beq_iff_eq] at h1
      simp only [Bool.true_and, decide_eq_false_iff_not]
      exact fun h => hb ⟨h1, h⟩
  rw [e0] at kc
  go_enter Tryd.func8, Tryd.ntmps8
  go_wp2_with fail
  refine (kc _).mono ?_
  rintro e w1 ⟨rfl, hb1⟩
  have B1 := below_on (show Below w.heap.size w _ from (by repeat (first | exact Below.refl _ _ | assumption | refine below_alloc ?_ _ | refine Below.setCell ?_ (by first | omega | (simp; done) | (simp; omega)) _ | refine Below.alloc ?_ (by first | omega | (simp; done) | (simp; omega)) _ | refine Below.drew ?_))) hb1
  go_wp2
  go_ret
  exact ⟨rfl, B1⟩

set_option maxRecDepth 100000 in
set_option maxHeartbeats 4000000 in
theorem implGaps_ok (g n le he m ns : Nat) (F T : Nat → Int) (P : Nat → Nat → Int) (ve : Value) (w : World) (hrow : CRow w g n F T) (hev : SlF w 56 3 le he ve m (evs P)) (hl : lokZ (ns : Int) n F T = 0) (hm : m ≤ 2000) :
    Calls Tryd.prog 8 #[.agg #[.int .i64 (ns : Int), .slice (gA g) n (gC g)], ve] w fun e w' => ∃ u, e = .returned u ∧ SlF w' 72 2 w.heap.size w'.heap.size u (gpA (ns : Int) n F T P ns m).length (evs (gpP (gpA (ns : Int) n F T P ns m))) ∧ Below w.heap.size w w' := by
  obtain ⟨r1, r2, r3⟩ := lok_range hl
  have hp : 0 < ns := by omega
  have hm' : m ≤ 1048576 := by omega
  obtain ⟨ae, ce, rfl, he0⟩ := id hev
  obtain ⟨i0, hi, hz0, hz1, hz2⟩ := info_parts Tryd.infoGp
  have kc := fun o => runOk_any (ns : Int) g n m ce ae F T _ hm' (hrow.alloc o)
  have kr := fun W hr hv => implRun_ok (ns : Int) g n le he m ns F T P (.slice ae m ce) W hr hv hl rfl hm
  have e0 : (lokZ (ns : Int) n F T == 0 && decide (m ≤ 2000)) = true := by simp [hl, hm]
  rw [e0] at kc
  clear e0 he0
  obtain ⟨V, eV⟩ : ∃ V, w.alloc (.cells #[.int .i64 (ns : Int), .slice (gA g) n (gC g)] 25) = V := ⟨_, rfl⟩
  have sV : V.heap.size = w.heap.size + 1 := by rw [← eV]; simp
  have bV : Below w.heap.size w V := by rw [← eV]; exact (by repeat (first | exact Below.refl _ _ | assumption | refine below_alloc ?_ _ | refine Below.setCell ?_ (by first | omega | (simp; done) | (simp; omega)) _ | refine Below.alloc ?_ (by first | omega | (simp; done) | (simp; omega)) _ | refine Below.drew ?_))
  have bL : Blk V w.heap.size 25 2 (fun i => if i = 0 then .int .i64 (ns : Int) else .slice (gA g) n (gC g)) := by
    rw [← eV]
    exact Blk.new w #[.int .i64 (ns : Int), .slice (gA g) n (gC g)] 25 _ (fun i hi => by simp at hi; match i, hi with | 0, _ => rfl | 1, _ => rfl)
  have P0 : ∀ W, Below V.heap.size V W → W.cell? ⟨w.heap.size, 0, none⟩ = some (.int .i64 (ns : Int)) ∧ W.cell? ⟨w.heap.size, 1, none⟩ = some (.slice (gA g) n (gC g)) := fun W hb => ⟨(bL.on hb).cell (i := 0) (by omega), (bL.on hb).cell (i := 1) (by omega)⟩
  have kc' := kc (.cells #[.int .i64 (ns : Int), .slice (gA g) n (gC g)] 25)
  rw [eV] at kc'
  have EV : Hid _ := eV
  clear eV bL kc
  refine (callsIn_wide (n := 3)).1 ?_
  refine callsIn_of_wp_marks Tryd.func8 rfl trivial ?_ rfl
  simp only [Tryd.ntmps8, List.size_toArray, List.length_cons, List.length_nil, Nat.reduceAdd, Nat.reduceSub, Array.replicate_succ, Array.replicate_zero, List.push_toArray, List.append_toArray, List.nil_append, List.cons_append]
  gi_wp2_with fail
  rw [EV.out]
  refine ⟨trivial, (callsIn_wide.2 kc').mono ?_⟩
  clear kc'
  rintro e w1 ⟨rfl, B1⟩
  obtain ⟨y0, y1⟩ := P0 w1 B1
  gi_wp2_with fail
  refine ⟨trivial, (callsIn_wide.2 (kr _ (hrow.on (below_on bV B1)) (hev.on (below_on bV B1)))).mono ?_⟩
  clear kr y0 y1
  rintro e w2 ⟨dv, rfl, D2, hb2⟩
  have B2 := below_on B1 hb2
  obtain ⟨A1, A2, L, hsl, hL0, hLm, hdn⟩ := D2
  obtain ⟨ad, cd, rfl, _⟩ := id hsl
  obtain ⟨y0, y1⟩ := P0 w2 B2
  have zl : w.heap.size < w2.heap.size := by have := B2.size; omega
  have zl1 : w.heap.size < w2.heap.size + 1 := by omega
  gi_wp2_with fail
  have bD : Blk ((w2.alloc (.cells #[.slice ad m cd] 34)).alloc (.cells #[.slice none 0 0] 30)) w2.heap.size 34 1 (fun _ => .slice ad m cd) :=
    (Blk.new w2 #[.slice ad m cd] 34 (fun _ => .slice ad m cd) (fun i hi => by simp at hi; match i, hi with | 0, _ => rfl)).alloc _
  have bG : Blk ((w2.alloc (.cells #[.slice ad m cd] 34)).alloc (.cells #[.slice none 0 0] 30)) (w2.heap.size + 1) 30 1 (fun _ => .slice none 0 0) := by
    have := Blk.new (w2.alloc (.cells #[.slice ad m cd] 34)) #[.slice none 0 0] 30 (fun _ => .slice none 0 0) (fun i hi => by simp at hi; match i, hi with | 0, _ => rfl)
    rw [World.size_alloc] at this
    exact this
  have B3' : Below w2.heap.size w2 ((w2.alloc (.cells #[.slice ad m cd] 34)).alloc (.cells #[.slice none 0 0] 30)) := below_alloc (below_alloc (Below.refl _ _) _) _
  obtain ⟨W2, e2⟩ : ∃ W2, (w2.alloc (.cells #[.slice ad m cd] 34)).alloc (.cells #[.slice none 0 0] 30) = W2 := ⟨_, rfl⟩
  have z2 : w2.heap.size + 1 < W2.heap.size := by rw [← e2]; simp
  rw [e2] at bD bG B3' ⊢
  clear e2 y0 y1
  refine ⟨trivial, (callsIn_wide.2 (rows_any (ns : Int) g n m ce ae W2)).mono ?_⟩
  rintro e w3 ⟨rfl, hw3⟩
  have h23 : Below W2.heap.size W2 w3 := by rw [hw3]; exact (by repeat (first | exact Below.refl _ _ | assumption | refine below_alloc ?_ _ | refine Below.setCell ?_ (by first | omega | (simp; done) | (simp; omega)) _ | refine Below.alloc ?_ (by first | omega | (simp; done) | (simp; omega)) _ | refine Below.drew ?_))
  have z3 : w3.heap.size = W2.heap.size + 1 + 1 := by rw [hw3]; simp
  have h2w3 := below_on B3' h23
  have B3 := below_on bV (below_on B2 h2w3)
  have eL : Blk w3 W2.heap.size 25 2 (fun i => if i = 0 then .int .i64 (ns : Int) else .slice (gA g) n (gC g)) := by
    rw [hw3]
    exact (Blk.new W2 #[.int .i64 (ns : Int), .slice (gA g) n (gC g)] 25 _ (fun i hi => by simp at hi; match i, hi with | 0, _ => rfl | 1, _ => rfl)).alloc _
  have eE : Blk w3 (W2.heap.size + 1) 26 1 (fun _ => .slice ae m ce) := by
    rw [hw3]
    have := Blk.new (W2.alloc (.cells #[.int .i64 (ns : Int), .slice (gA g) n (gC g)] 25)) #[.slice ae m ce] 26 (fun _ => .slice ae m ce) (fun i hi => by simp at hi; match i, hi with | 0, _ => rfl)
    rw [World.size_alloc] at this
    exact this
  have EN : EnvT w3 W2.heap.size (W2.heap.size + 1) (ns : Int) g n le he m ae ce F T P := ⟨eL, eE, hrow.on B3, hev.on B3⟩
  have bD3 := bD.on h23
  have bG3 := bG.on h23
  have hsl3 := hsl.on h2w3
  have hdn3 : ∀ i, i < m → SlF w3 43 5 (L i) (L (i + 1)) (A1 i) ns (secs (runX (ns : Int) n F T P (i + 1))) ∧ ∃ x2 y2, A2 i = .slice x2 n y2 := fun i hi => ⟨(hdn i hi).2.1.on h2w3, by obtain ⟨x2, y2, e2, _⟩ := (hdn i hi).2.2; exact ⟨x2, y2, e2⟩⟩
  have zT : w2.heap.size + 1 < w3.heap.size := by omega
  have zw : w.heap.size ≤ w3.heap.size := B3.size
  have zw2 : w.heap.size ≤ w2.heap.size := by omega
  clear hw3 eL eE h23 bD bG B3' h2w3 B2 B1 EV P0 z3 sV bV hb2 hsl hdn hL0 hLm
  gi_wp2_with fail
  refine range_rows (gf := 47) (lb := #[.pointer (some ⟨W2.heap.size, 0, none⟩), .pointer (some ⟨W2.heap.size + 1, 0, none⟩)]) rfl (enters_of Tryd.func47 (by kernel_rfl) rfl) (rows1_in _ W2.heap.size (W2.heap.size + 1) g n le he m ce ns ae F T P w3 hl hm EN) (fun _ _ => rfl)
    (fun rb k W l o o' h h1 h2 => Blk.of_block h (World.putObj_heap_other (fun e1 => by subst e1; obtain ⟨o2, h3, h4⟩ := blk_cells h; rw [h1] at h3; cases h3; rw [h2] at h4; cases h4)))
    KpT.trans KpT.putObj
    (fun k W => ∃ v, Blk W (w2.heap.size + 1) 30 1 (fun _ => v) ∧ W.ownsRow w3.heap.size 72 2 v (gpA (ns : Int) n F T P ns k).length (gpC (gpA (ns : Int) n F T P ns k)) ∧ v.ownBlock ≠ some (w3.heap.size + 1 + 1) ∧ KB w3 (w2.heap.size + 1) W ∧ Below w.heap.size w W)
    ?own ⟨_, bG3, World.ownsRow_nil _ _ _ _, by simp [Value.ownBlock], ⟨Nat.le_refl _, fun _ _ _ => rfl⟩, B3⟩
    (fun k => { tmps := #[.agg #[.int .i64 (ns : Int), .slice (gA g) n (gC g)], .slice ae m ce, .pointer (some ⟨w.heap.size, 0, none⟩), undef, .slice none 0 0, .pointer (some ⟨w2.heap.size, 0, none⟩), .pointer (some ⟨w2.heap.size + 1, 0, none⟩), .int .i64 (k : Int), .slice (some ⟨w3.heap.size + 1 + 1, 0, none⟩) ns ns, undef, undef, .agg #[.int .i64 (ns : Int), .slice (gA g) n (gC g)], .slice ae m ce, .bool true, .bool false, .agg #[.int .i64 (ns : Int), .slice (gA g) n (gC g)], .slice ae m ce, .slice ad m cd, .agg #[.int .i64 (ns : Int), .slice (gA g) n (gC g)], .slice ae m ce, .func (.func 47) #[] #[.pointer (some ⟨W2.heap.size, 0, none⟩), .pointer (some ⟨W2.heap.size + 1, 0, none⟩)], .int .i64 (k : Int), .slice (some ⟨w3.heap.size + 1 + 1, 0, none⟩) ns ns, undef, undef, undef, undef, undef, undef, undef, undef, undef, undef, undef, undef, undef, undef, undef, undef, undef, undef, undef, undef, undef, undef, undef, undef, undef, undef, undef, undef, undef, undef], defers := [] }) ?assign ?body ?done
  case own =>
    rintro k A B row ⟨v, hb, hO, hne, hK, hB⟩ hg hr
    have key : ∀ b e mm f, Blk A b e mm f → b ≠ w3.heap.size + 1 + 1 → B.heap[b]? = A.heap[b]? := fun b e mm f h1 h2 => hg.block b h1.lt (fun e1 => by
      rcases hr b e1.symm with h | ⟨_, o, ho, hc⟩
      · exact h2 h
      · obtain ⟨o2, h3, h4⟩ := blk_cells h1
        rw [ho] at h3; cases h3; rw [hc] at h4; cases h4)
    refine ⟨v, hb.of_block (key _ _ _ _ hb (by omega)), own_of_block hO (fun b h1 => ?_), hne, hK.grown hg (fun r e => ?_), hB.grown hg hB.size (fun r e => ?_)⟩
    · obtain ⟨_, mm, f, h2⟩ := own_blk hO h1
      exact key _ _ _ _ h2 (fun e => hne (by rw [h1, e]))
    · rcases hr r e with h | ⟨h, _⟩ <;> omega
    · rcases hr r e with h | ⟨h, _⟩ <;> omega
  case assign =>
    intro l k W K hK
    gi_wp2
    exact hK
  case body =>
    rintro l k W hk ⟨v, hb, hO, hne, hKB, hB⟩ hrw
    have hi1 : (k : Int) < (m : Int) := by omega
    obtain ⟨s1, x2, y2, e2⟩ := hdn3 k hk
    obtain ⟨x1, y1, e1, _⟩ := id s1
    obtain ⟨ad', cd', ee, hd0⟩ := id hsl3
    simp only [Value.slice.injEq] at ee
    obtain ⟨rfl, _, rfl⟩ := ee
    rcases hd0 with hd0 | ⟨gd, md, fd, rfl, _, _, d2, d3, d4⟩
    · omega
    rw [e1] at s1
    obtain ⟨gs, rfl⟩ := s1.addr hp
    obtain ⟨_, _, m5, f5, b1, b2, b3⟩ := s1.blk hp
    have lg := gpA_len (ns : Int) n F T P ns k (by omega)
    have lg1 : (gpA (ns : Int) n F T P ns k).length ≤ 120000 := by omega
    gi_wp2
    gi_loopw [25] (fun i wq => ∃ (s : Nat) (v : Value), s ≤ ns ∧ i = .int .i64 s ∧ Blk wq (w2.heap.size + 1) 30 1 (fun _ => v) ∧ wq.ownsRow w3.heap.size 72 2 v (gpA (ns : Int) n F T P ns k ++ gpR (ns : Int) n F T P k s).length (gpC (gpA (ns : Int) n F T P ns k ++ gpR (ns : Int) n F T P k s)) ∧ v.ownBlock ≠ some (w3.heap.size + 1 + 1) ∧ IntB wq (w3.heap.size + 1 + 1) ns (trZ (ns : Int) n F T P (k + 1)) ∧ KB w3 (w2.heap.size + 1) wq ∧ Below w.heap.size w wq ∧ KeepsOthers W wq ∧ KpT W wq) (fun i _ => ns - (intOf i).toNat)
    case atStart => exact ⟨0, v, Nat.zero_le _, rfl, hb, by simpa [gpR] using hO, hne, hrw, hKB, hB, KeepsOthers.refl _, ⟨Nat.le_refl _, fun _ _ _ _ _ _ => rfl⟩⟩
    case round =>
      clear hb hO hne hKB hB hrw
      obtain ⟨s, v, hs, rfl, hb, hO, hne, hrw, hKB, hB, k1, k2⟩ := hrel
      by_cases hsl : s < ns
      · have hs1 : (s : Int) < (ns : Int) := by omega
        rename World => wq
        have q0 := Blk.cell hrw hsl
        have bD' := bD3.of_block (hKB.blk bG3 bD3 (by decide))
        have dc := bD'.cell (i := 0) (by omega)
        have d3' := d3.of_block (hKB.blk bG3 d3 (by decide))
        obtain ⟨c0, c1, c2, c3⟩ := four d3' d2 hk d4
        rw [e1] at c2
        rw [e2] at c3
        have b2' := b2.of_block (hKB.blk bG3 b2 (by decide))
        obtain ⟨f0, f1, f2, f3, f4⟩ := five b2' b1 hsl b3
        have gc := hb.cell (i := 0) (by omega)
        have lr := gpR_len (ns : Int) n F T P k s
        have eG : gpR (ns : Int) n F T P k (s + 1) = gpR (ns : Int) n F T P k s ++ (if gapB (ns : Int) n F T P k s then [((k : Int), (s : Int))] else []) := rfl
        have eB : gapB (ns : Int) n F T P k s = (decide ((runX (ns : Int) n F T P (k + 1) s).told = 0) && decide (¬ trZ (ns : Int) n F T P (k + 1) s = 0)) := rfl
        obtain ⟨l', el⟩ : ∃ l', gpA (ns : Int) n F T P ns k ++ gpR (ns : Int) n F T P k s = l' := ⟨_, rfl⟩
        have ll : l'.length ≤ 130000 := by rw [← el, List.length_append]; omega
        rw [el] at hO
        obtain ⟨x, ex⟩ : ∃ x, runX (ns : Int) n F T P (k + 1) s = x := ⟨_, rfl⟩
        obtain ⟨z, ez⟩ : ∃ z, trZ (ns : Int) n F T P (k + 1) s = z := ⟨_, rfl⟩
        rw [ex] at f0 f1 f2 f3 f4 eB
        simp only [ez] at q0
        rw [ez] at eB
        have EL : Hid _ := el
        have EG : Hid _ := eG
        have zt := hb.lt
        have zdb := bD'.lt
        have zgd := d3'.lt
        have zgs := b2'.lt
        have zrb : w3.heap.size + 1 + 1 < wq.heap.size := Blk.lt hrw
        clear ex ez el eG d3' b2' bD'
        obtain ⟨told, count, lost, sweep, last⟩ := x
        simp only at f0 f1 f2 f3 f4 eB
        by_cases hzz : z = 0
        · subst hzz
          have eB' : gapB (ns : Int) n F T P k s = false := by rw [eB]; simp
          have EB : Hid _ := eB'
          clear eB eB'
          gi_wp2
          go_roundw
          case rel => exact ⟨s + 1, v, by omega, by go_num, hb, by rw [EG.out, EB.out]; simp only [Bool.false_eq_true, if_false, List.append_nil]; rw [EL.out]; exact hO, hne, hrw, hKB, hB, k1, k2⟩
          case measure => simp [intOf]; omega
        · have hzz' : (z == 0) = false := by simp [hzz]
          by_cases ht : told = 0
          · subst ht
            have eB' : gapB (ns : Int) n F T P k s = true := by rw [eB]; simp [hzz]
            have EB : Hid _ := eB'
            have hnw := new_cells2 wq (.int .i64 (k : Int)) (.int .i64 (s : Int)) 72
            have h1c : ∀ u ∈ [Value.int .i64 (k : Int), .int .i64 (s : Int)], u.oneCell' = true := fun u hu => by
              simp only [List.mem_cons, List.not_mem_nil, or_false] at hu
              rcases hu with rfl | rfl <;> rfl
            have ownU := own_on hO (below_alloc (Below.refl wq.heap.size wq) (.cells #[.int .i64 (k : Int), .int .i64 (s : Int)] 72))
            have zbase : w3.heap.size ≤ (wq.alloc (.cells #[.int .i64 (k : Int), .int .i64 (s : Int)] 72)).heap.size := by simp; omega
            have fin := fun w6 v' r1 r2 => gap_fin (w := w) (w6 := w6) (v' := v') (k := k) (s := s) (show w.heap.size ≤ w2.heap.size + 1 by omega) zw hb hO hrw hKB hB k1 k2 r1 r2
            have FI : Hid _ := fin
            clear eB eB' fin
            gi_wp2_with (first
              | (gi_at_builtin; refine wpListIn_append_own _ rfl _ _ 30 rfl w3.heap.size 72 i0 _ 2 16 Tryd.underlying30 hi hz0 hz1 hz2 rfl (by decide) _ _ _ rfl ownU ⟨wq.heap.size, 0, none⟩ 1 1 [.int .i64 (k : Int), .int .i64 (s : Int)] rfl rfl hnw h1c (by unfold maxLen; omega) (by omega) zbase ?_; intro v' w6 hown' hgrow hnil; obtain ⟨g6, cap6, rfl⟩ := own_some hown' (by omega); obtain ⟨b6, fin⟩ := FI.out w6 _ hown' hgrow; have x6 := b6.cell (i := 0) (by omega); have u6 := b6.frozen 0; have FJ : Hid _ := fin; clear fin))
            obtain ⟨n1, n2, n3, n4, n5, n6, n7, n8⟩ := FJ.out
            go_roundw
            case rel =>
              refine ⟨s + 1, _, by omega, by go_num, n1, ?_, n3, n4, n5, n6, n7, n8⟩
              rw [EG.out, EB.out]
              simp only [if_true]
              rw [← List.append_assoc, EL.out]
              exact n2
            case measure => simp [intOf]; omega
          · have eB' : gapB (ns : Int) n F T P k s = false := by rw [eB]; simp [ht]
            have EB : Hid _ := eB'
            have ht' : (told == 0) = false := by simp [ht]
            clear eB eB'
            gi_wp2
            go_roundw
            case rel => exact ⟨s + 1, v, by omega, by go_num, hb, by rw [EG.out, EB.out]; simp only [Bool.false_eq_true, if_false, List.append_nil]; rw [EL.out]; exact hO, hne, hrw, hKB, hB, k1, k2⟩
            case measure => simp [intOf]; omega
      · have hsn : s = ns := by omega
        subst hsn
        gi_wp2
        exact ⟨k1, k2, hrw, v, hb, hO, hne, hKB, hB⟩
  case done =>
    rintro W ⟨v, hb, hO, hne, hKB, hB⟩ hD
    have c0 := hb.cell (i := 0) (by omega)
    have SW := SlF.of_ownsRow hO (fun i hi j hj => gpC_get _ i j hi hj)
    have BB : Below w.heap.size w (W.putObj w3.heap.size (.deferred none)) := hB.grown (grownBy_putObj' W w3.heap.size (.deferred none)) hB.size (fun r e => by cases e; exact zw)
    have SB : SlF (W.putObj w3.heap.size (.deferred none)) 72 2 w3.heap.size W.heap.size v _ (evs (gpP (gpA (ns : Int) n F T P ns m))) := SW.of_block (fun b _ _ h1 _ _ => World.putObj_heap_other (fun e1 => by
      subst e1
      obtain ⟨o2, h3, h4⟩ := blk_cells h1
      rw [hD] at h3; cases h3; cases h4))
    have HS : Hid _ := SB.wide (lo' := w.heap.size) zw (Nat.le_refl _)
    clear SW SB hO hb hne hKB
    gi_wp2
    refine ⟨by simp, .inl ⟨_, _, rfl, run_takeDeferred hD, ?_⟩⟩
    refine ⟨_, results_tmp rfl _ _ _, _, rfl, ?_, BB⟩
    rw [World.putObj_size]
    exact HS.out

end Go.Proofs.YtlpopfhaephfaaaDoor
