import Derived.Defers
import Derived.Recover
import Derived.Test.YtlpopfhaephfaaaGreatDoorQS
import Derived.Test.YtlpopfhaephfaaaGreatDoorCR
import Derived.Maps.AppendAt
import Derived.Test.YtlpopfhaephfaaaGreatDoorTS4
import Derived.Test.YtlpopfhaephfaaaGreatDoorQN
import Derived.Test.YtlpopfhaephfaaaGreatDoorRE1
namespace Go.Proofs.YtlpopfhaephfaaaGreatDoor
open Go.RowKit Go.Maps

theorem Box3.but {w w' : World} {b c : Nat} {e : TypeId} {x y z : Value} (h : Box3 w c e x y z) (hb : w.grownBy w' (some b)) (hc : c ≠ b) : Box3 w' c e x y z :=
  Blk.of_block h (hb.block c (Blk.lt h) (fun e => hc (by injection e)))

theorem Box3.put {w : World} {b : Nat} {e : TypeId} {x y z : Value} (h : Box3 w b e x y z) (x' y' z' : Value) : Box3 (((w.setCell ⟨b, 0, none⟩ x').setCell ⟨b, 1, none⟩ y').setCell ⟨b, 2, none⟩ z') b e x' y' z' :=
  (((Blk.set h 0 x').set 1 y').set 2 z').congr fun i hi => by
    match i, hi with
    | 0, _ => rfl
    | 1, _ => rfl
    | 2, _ => rfl

set_option maxRecDepth 100000 in
/-- The deferred function behind a line that is none. -/
theorem catch_bad (h : Nat) (k : Int) (x y z : Value) (older : List PanicEntry) (w : World) (hb : Box3 w h 31 x y z) :
    CallsD Tryz.prog 34 #[.pointer (some ⟨h, 0, none⟩)] (.panicking ({ v := badV k, recovered := false } :: older)) w fun e u' w' =>
      e = .returned (.tuple #[]) ∧ u' = .panicking ({ v := badV k, recovered := true } :: older) ∧ Box3 w' h 31 (.int .i64 3) (.int .i64 k) (.slice none 0 0) ∧ w.grownBy w' (some h) := by
  unfold badV
  have hta : ∀ W : World, (Instr.typeAssert (.iface 83 (.agg #[.int .i64 k])) 20 83 true).run Tryz.prog W = .ok (.tuple #[.agg #[.int .i64 k], .bool true]) W := fun _ => by kernel_rfl
  have hlt : h < w.heap.size := Blk.lt hb
  have hne : ¬ h = w.heap.size := by omega
  obtain ⟨c0, c1, c2⟩ := hb.cells
  have z0 := Blk.frozen hb 0
  have z1 := Blk.frozen hb 1
  have z2 := Blk.frozen hb 2
  have b1 : Box3 ((((w.setCell ⟨h, 0, none⟩ (.int .i64 3)).setCell ⟨h, 1, none⟩ (.int .i64 k)).setCell ⟨h, 2, none⟩ (.slice none 0 0)).alloc (.cells #[.int .i64 k] 83)) h 31 (.int .i64 3) (.int .i64 k) (.slice none 0 0) := (hb.put _ _ _).alloc _
  have g1 : w.grownBy ((((w.setCell ⟨h, 0, none⟩ (.int .i64 3)).setCell ⟨h, 1, none⟩ (.int .i64 k)).setCell ⟨h, 2, none⟩ (.slice none 0 0)).alloc (.cells #[.int .i64 k] 83)) (some h) :=
    but_on (but_trans (but_trans (but_set w h 0 _) (but_set _ h 1 _)) (but_set _ h 2 _)) (below_alloc (Below.refl _ _) _)
  refine callsD_of_wpS Tryz.func34 rfl fun c₀ cs hu => ?_
  apply wpS_seq
  apply wpS_region
  simp [wpOpsS, go_sem, recoverD, hu, Tryz.ntmps34, Exit.thenS, Array.replicate, List.replicate]
  refine wpS_of_wp ?_
  generalize hQ : (fun (e : Exit) (a' : Act) (w' : World) => bodyPostS Tryz.prog Tryz.f34 c₀ cs _ e a' _ w') = Q'
  go_wp2
  subst hQ
  exact ⟨rfl, _, rfl, .tuple #[], by simp [results, Tryz.results34], rfl, rfl, b1, g1⟩

set_option maxRecDepth 100000 in
/-- The deferred function behind a text that was gone through. -/
theorem catch_idle (h : Nat) (w : World) :
    CallsD Tryz.prog 34 #[.pointer (some ⟨h, 0, none⟩)] .returning w fun e u' w' => e = .returned (.tuple #[]) ∧ u' = .returning ∧ Below w.heap.size w w' := by
  have hta : ∀ W : World, (Instr.typeAssert .nilIface 20 83 true).run Tryz.prog W = .ok (.tuple #[.agg #[.int .i64 0], .bool false]) W := fun _ => by kernel_rfl
  have b1 : Below w.heap.size w (w.alloc (.cells #[.int .i64 0] 83)) := below_alloc (Below.refl _ _) _
  refine callsD_of_wpS Tryz.func34 rfl fun c₀ cs hu => ?_
  apply wpS_seq
  apply wpS_region
  simp [wpOpsS, go_sem, recoverD, hu, Tryz.ntmps34, Exit.thenS, Array.replicate, List.replicate]
  refine wpS_of_wp ?_
  generalize hQ : (fun (e : Exit) (a' : Act) (w' : World) => bodyPostS Tryz.prog Tryz.f34 c₀ cs _ e a' _ w') = Q'
  go_wp2
  subst hQ
  exact ⟨rfl, .returning, by cases c₀; simp at hu; subst hu; rfl, .tuple #[], by simp [results, Tryz.results34], rfl, rfl, b1⟩

end Go.Proofs.YtlpopfhaephfaaaGreatDoor

namespace Go.Proofs.YtlpopfhaephfaaaGreatDoor
open Go.RowKit Go.Maps

section
variable {P : Program}
/-- A frame that is left looks at its results alone. -/
theorem leaves_same {fn : Func} {tmps tmps' : Array Value} {R : Ending → World → Prop} (h : ∀ w, (results fn tmps').run P w = (results fn tmps).run P w) :
    ∀ (ds : List Deferred) (u : FrameMode) (w : World), Leaves P fn tmps R ds u w → Leaves P fn tmps' R ds u w
  | [], .returning, w, k => by
    obtain ⟨v, h1, h2⟩ := k
    exact ⟨v, (h w).trans h1, h2⟩
  | [], .panicking _, _, k => k
  | [], .run, _, k => k
  | d :: ds, u, w, k => by
    obtain ⟨hu, fv, cap, f, args, h1, h2, h3⟩ := k
    refine ⟨hu, fv, cap, f, args, h1, h2, h3.mono fun e u' w' k => ?_⟩
    match e, k with
    | .returned _, k => exact leaves_same h ds _ _ k
    | .panicked _, k => exact leaves_same h ds _ _ k
    | .outgrown, k => exact k
end

/-- The events' cells. -/
def evC (l : List (Int × Int × Int)) : List Value := l.flatMap fun e => [.int .i64 e.1, .int .i64 e.2.1, .int .i64 e.2.2]

theorem evC_at : ∀ (l : List (Int × Int × Int)) (i : Nat), i < l.length → ∀ j, j < 3 → (evC l)[i * 3 + j]? = some (evs (evT l) i j)
  | [], i, hi, _, _ => by simp at hi
  | (a, b, c) :: r, 0, _, j, hj => by
    match j, hj with
    | 0, _ => rfl
    | 1, _ => rfl
    | 2, _ => rfl
  | (a, b, c) :: r, i + 1, hi, j, hj => by
    have := evC_at r i (by simpa using hi) j hj
    have e1 : evC ((a, b, c) :: r) = [.int .i64 a, .int .i64 b, .int .i64 c] ++ evC r := rfl
    rw [e1, List.getElem?_append_right (by simp; omega)]
    rw [show (i + 1) * 3 + j - [Value.int .i64 a, .int .i64 b, .int .i64 c].length = i * 3 + j by simp; omega, this]
    rfl

theorem evC_snoc (l : List (Int × Int × Int)) (a b c : Int) : evC (l ++ [(a, b, c)]) = evC l ++ [.int .i64 a, .int .i64 b, .int .i64 c] := by
  simp [evC]

theorem res41 (a : Act) (i : Nat) (hi : i ≠ 4) (v : Value) (w : World) : (results Tryz.f20 a.tmps).run Tryz.prog w = (results Tryz.f20 (a.put (some i) v).tmps).run Tryz.prog w := by
  simp [results, Tryz.results20, Act.put, hi]

theorem Sc.new (w : World) (S : Int) (g n mo md : Nat) (t : List UInt8) (k : Int) : Sc (w.alloc (.cells #[.int .i64 S, .slice (gA g) n (gC g), .map (some mo), .map (some md), .string ⟨t.toArray⟩, .int .i64 k] 88)) w.heap.size S g n mo md t k :=
  Blk.new w #[.int .i64 S, .slice (gA g) n (gC g), .map (some mo), .map (some md), .string ⟨t.toArray⟩, .int .i64 k] _ _ (fun i hi => by simp at hi; match i, hi with | 0, _ => rfl | 1, _ => rfl | 2, _ => rfl | 3, _ => rfl | 4, _ => rfl | 5, _ => rfl)

/-- A scanner's cells before they are laid. -/
def zer6 : Nat → Value
  | 0 => .int .i64 0
  | 1 => .slice none 0 0
  | 2 => .map none
  | 3 => .map none
  | 4 => .string ⟨#[]⟩
  | _ => .int .i64 0

theorem zero6 (w : World) : Blk (w.alloc (.cells #[.int .i64 0, .slice none 0 0, .map none, .map none, .string ⟨#[]⟩, .int .i64 0] 88)) w.heap.size 88 6 zer6 :=
  Blk.new w #[.int .i64 0, .slice none 0 0, .map none, .map none, .string ⟨#[]⟩, .int .i64 0] _ _ (fun i hi => by simp at hi; match i, hi with | 0, _ => rfl | 1, _ => rfl | 2, _ => rfl | 3, _ => rfl | 4, _ => rfl | 5, _ => rfl)

def set6 (w : World) (b : Nat) (v0 v1 v2 v3 v4 v5 : Value) : World := (((((w.setCell ⟨b, 0, none⟩ v0).setCell ⟨b, 1, none⟩ v1).setCell ⟨b, 2, none⟩ v2).setCell ⟨b, 3, none⟩ v3).setCell ⟨b, 4, none⟩ v4).setCell ⟨b, 5, none⟩ v5

theorem below_set6 {B b : Nat} {a w : World} (h : Below B a w) (hb : B ≤ b) (v0 v1 v2 v3 v4 v5 : Value) : Below B a (set6 w b v0 v1 v2 v3 v4 v5) :=
  (((((h.setCell hb v0).setCell hb v1).setCell hb v2).setCell hb v3).setCell hb v4).setCell hb v5

theorem sc_set6 {w : World} {b : Nat} {f : Nat → Value} (h : Blk w b 88 6 f) (S : Int) (g n mo md : Nat) (t : List UInt8) (k : Int) : Sc (set6 w b (.int .i64 S) (.slice (gA g) n (gC g)) (.map (some mo)) (.map (some md)) (.string ⟨t.toArray⟩) (.int .i64 k)) b S g n mo md t k :=
  ((((((Blk.set h 0 _).set 1 _).set 2 _).set 3 _).set 4 _).set 5 _).congr fun i hi => by
    match i, hi with
    | 0, _ => rfl
    | 1, _ => rfl
    | 2, _ => rfl
    | 3, _ => rfl
    | 4, _ => rfl
    | 5, _ => rfl

theorem knows_set {w : World} {b c i : Nat} {f : List UInt8 → Option Int} {v : Value} (h : Knows w c f) (hc : c ≠ b) : Knows (w.setCell ⟨b, i, none⟩ v) c f := by
  obtain ⟨n, D, hn, ho, h2⟩ := h
  exact ⟨n, D, hn, ho.setCell (a := ⟨b, i, none⟩) hc v, h2⟩

theorem knows_set6 {w : World} {b c : Nat} {f : List UInt8 → Option Int} (h : Knows w c f) (hc : c ≠ b) (v0 v1 v2 v3 v4 v5 : Value) : Knows (set6 w b v0 v1 v2 v3 v4 v5) c f :=
  knows_set (knows_set (knows_set (knows_set (knows_set (knows_set h hc) hc) hc) hc) hc) hc

/-- What was heard, as a value: its events lie between lo and hi. -/
def HdF (w' : World) (lo hi : Nat) (v : Value) (r : Int × Nat × List (Int × Int × Int)) : Prop :=
  ∃ sl, v = .agg #[.int .i64 r.1, .int .i64 (r.2.1 : Int), sl] ∧ SlF w' 47 3 lo hi sl r.2.2.length (evs (evT r.2.2))

def rdO (Z : Nat ⊕ List (Int × Int × Int)) : Int × Nat × List (Int × Int × Int) :=
  match Z with
  | .inl k => (3, k, [])
  | .inr l => (0, 0, l)

def ScP (w w' : World) (r : Int × Nat × List (Int × Int × Int)) (e : Ending) : Prop := ∃ v, e = .returned v ∧ HdF w' w.heap.size w'.heap.size v r ∧ Below w.heap.size w w'

/-- How much of the text is left, as the heap has it. -/
def restN (w : World) (b : Nat) : Nat :=
  match w.cell? ⟨b, 4, none⟩ with
  | some (.string s) => s.size
  | _ => 0

theorem restN_of {w : World} {b : Nat} {S : Int} {g n mo md : Nat} {rest : List UInt8} {k : Int} (h : Sc w b S g n mo md rest k) : restN w b = rest.length := by
  unfold restN
  rw [h.cells.2.2.1]
  exact str_size rest

theorem own_but {w w' : World} {B e sz k b : Nat} {v : Value} {xs : List Value} (h : w.ownsRow B e sz v k xs) (hb : w.grownBy w' (some b)) (hlt : b < B) : w'.ownsRow B e sz v k xs := by
  refine ⟨h.1, ?_⟩
  rcases h.2 with hn | ⟨g, cap, cur, hv, hbg, hg, r⟩
  · exact .inl hn
  · exact .inr ⟨g, cap, cur, hv, hbg, (hb.block g (Array.getElem?_eq_some_iff.1 hg).1 (fun e => by injection e with e; omega)).trans hg, r⟩

theorem Knows.ne {w : World} {b c : Nat} {e : TypeId} {m : Nat} {f : List UInt8 → Option Int} {k : Nat → Value} (h : Knows w c f) (hb : Blk w b e m k) : c ≠ b := by
  rintro rfl
  obtain ⟨_, _, _, ⟨es, clock, h1, _⟩, _⟩ := h
  obtain ⟨_, h2, _⟩ := hb
  rw [h1] at h2
  cases h2

theorem Knows.below {w w' : World} {b B : Nat} {f : List UInt8 → Option Int} (h : Knows w b f) (hb : Below B w w') (hl : b < B) : Knows w' b f := by
  obtain ⟨n, D, hn, ho, h2⟩ := h
  obtain ⟨es, clock, h3, h4⟩ := ho
  exact ⟨n, D, hn, ⟨es, clock, (hb.block b hl).trans h3, h4⟩, h2⟩

theorem below_but {w w1 w2 : World} {b : Nat} (h : Below w.heap.size w w1) (k : w1.grownBy w2 (some b)) (hb : w.heap.size ≤ b) : Below w.heap.size w w2 :=
  ⟨k.os.trans h.os, k.tape.trans h.tape, k.output.trans h.output, Nat.le_trans h.size k.size, fun i hi => (k.block i (Nat.lt_of_lt_of_le hi h.size) (fun e => by injection e with e; omega)).trans (h.block i hi)⟩

set_option maxRecDepth 100000 in
set_option maxHeartbeats 4000000 in
theorem scan_any (S : Int) (g n : Nat) (t : List UInt8) (w : World) (hn : n ≤ 120) (hL : LayR w) (hlen : t.length ≤ 20000) :
    Calls Tryz.prog 20 #[.agg #[.int .i64 S, .slice (gA g) n (gC g)], .string ⟨t.toArray⟩] w fun e w' => ScP w w' (rdO (rdL S n (t.length + 1) t [])) e := by
  obtain ⟨Z, eZ⟩ : ∃ Z, rdL S n (t.length + 1) t [] = Z := ⟨_, rfl⟩
  have rd0 : Hid (RdTo S n t [] Z) := ⟨t.length + 1, Nat.lt_succ_self _, eZ⟩
  rw [eZ]
  clear eZ
  have hmf : ∀ (fn : Fn) (first cap : Array Value) (w : World), (Instr.makeFunc fn first cap).run Tryz.prog w = .ok (.func fn first cap) w := fun _ _ _ _ => rfl
  obtain ⟨W0, eW⟩ : ∃ W0, (w.alloc (.cells #[.int .i64 S, .slice (gA g) n (gC g)] 25)).alloc (.cells #[.int .i64 0, .int .i64 0, .slice none 0 0] 31) = W0 := ⟨_, rfl⟩
  have bW : Below w.heap.size w W0 := by rw [← eW]; exact (by repeat (first | exact Below.refl _ _ | assumption | refine below_alloc ?_ _ | refine Below.setCell ?_ (by first | omega | (simp; done) | (simp; omega)) _ | refine Below.alloc ?_ (by first | omega | (simp; done) | (simp; omega)) _ | refine Below.drew ?_))
  have hP : ∀ W, Below W0.heap.size W0 W → W.cell? ⟨w.heap.size, 0, none⟩ = some (.int .i64 S) ∧ W.cell? ⟨w.heap.size, 1, none⟩ = some (.slice (gA g) n (gC g)) := by
    have c0 : W0.cell? ⟨w.heap.size, 0, none⟩ = some (.int .i64 S) := by rw [← eW]; simp
    have c1 : W0.cell? ⟨w.heap.size, 1, none⟩ = some (.slice (gA g) n (gC g)) := by rw [← eW]; simp
    exact fun W hb => ⟨by rw [hb.cell (block_lt_of_cell c0)]; exact c0, by rw [hb.cell (block_lt_of_cell c1)]; exact c1⟩
  obtain ⟨h, eh⟩ : ∃ h, w.heap.size + 1 = h := ⟨_, rfl⟩
  have hW : Box3 W0 h 31 (.int .i64 0) (.int .i64 0) (.slice none 0 0) := by
    rw [← eW, ← eh]
    have := Box3.lay (w.alloc (.cells #[.int .i64 S, .slice (gA g) n (gC g)] 25)) (.int .i64 0) (.int .i64 0) (.slice none 0 0) 31
    rwa [World.size_alloc] at this
  have lW := hL.on bW
  have EW : Hid _ := eW
  have EH : Hid _ := eh
  have HP : Hid _ := hP
  clear eW eh hP
  go_enter_defers Tryz.func20, Tryz.ntmps20
  go_upto_region 2 with fail
  rw [EW.out, EH.out]
  go_cut [5] from 7 (fun v wc => ∃ sb mo md, v = .pointer (some ⟨sb, 0, none⟩) ∧ Sc wc sb S g n mo md t 0 ∧ Knows wc mo opB ∧ Knows wc md dirB ∧ mo ≠ sb ∧ md ≠ sb ∧ W0.heap.size ≤ sb ∧ Below W0.heap.size W0 wc)
  case first =>
    refine wp_region_any (by kernel_rfl) ?_
    refine InC.any (C := fun W => Below W0.heap.size W0 W) _ _ _ _ ?_
    have C0 : Below W0.heap.size W0 W0.drew := (Below.refl _ _).drew
    refine InC.take (i := 0) (v := .agg #[.int .i64 S, .slice (gA g) n (gC g)]) rfl (by kernel_rfl) (by kernel_rfl) (by kernel_rfl) (fun _ a _ h => leaves_same (res41 a 7 (by decide) _) _ _ _ h) C0 (Or.inl ⟨by rfl, ?_⟩) ?_
    · intro W hW
      obtain ⟨x0, x1⟩ := HP.out W hW
      go_simp
    refine InC.take (i := 3) (v := .string ⟨t.toArray⟩) rfl (by kernel_rfl) (by kernel_rfl) (by kernel_rfl) (fun _ a _ h => leaves_same (res41 a 10 (by decide) _) _ _ _ h) C0 (Or.inl ⟨by rfl, ?_⟩) ?_
    · intro W hW
      go_simp
    have CA : Below W0.heap.size W0 (W0.alloc (.cells #[.int .i64 0, .slice none 0 0, .map none, .map none, .string ⟨#[]⟩, .int .i64 0] 88)).drew := (below_alloc (Below.refl _ _) _).drew
    refine InC.next2 (i := 1) (j := 5) (by kernel_rfl) (InC.one rfl fun K hK => ?_) (InC.one rfl fun K hK => ?_)
    · go_simp
      refine (opsByWord_any _ (lW.on C0).toLay).mono ?_
      rintro e wo ⟨rfl, ko, bo⟩
      obtain ⟨mo, emo⟩ : ∃ mo, W0.drew.heap.size = mo := ⟨_, rfl⟩
      rw [emo] at ko ⊢
      have Co := below_on C0 bo
      refine hK _ _ Co ?_
      clear hK K
      refine InC.next2 (i := 2) (j := 5) (by kernel_rfl) (InC.one rfl fun K hK => ?_) (InC.one rfl fun K hK => ?_)
      · go_simp
        refine (dirsBySign_any _).mono ?_
        rintro e wd ⟨rfl, kmd, bd⟩
        obtain ⟨md, emd⟩ : ∃ md, wo.heap.size = md := ⟨_, rfl⟩
        rw [emd] at kmd ⊢
        have kmo := ko.on bd
        have CB := below_on Co bd
        refine hK _ _ CB ?_
        clear hK K
        refine InC.take (i := 4) (v := .agg #[.int .i64 S, .slice (gA g) n (gC g), .map (some mo), .map (some md), .string ⟨t.toArray⟩, .int .i64 0]) rfl (by kernel_rfl) (by kernel_rfl) (by kernel_rfl) (fun _ a _ h => leaves_same (res41 a 11 (by decide) _) _ _ _ h) CB (Or.inl ⟨by rfl, ?_⟩) ?_
        · intro W hW
          go_simp
        refine InC.next1 (i := 5) (by kernel_rfl) (InC.one rfl fun K hK => ?_)
        go_simp
        refine hK _ _ (below_alloc CB _) ?_
        clear hK K
        refine InC.next1 (i := 6) (by kernel_rfl) (InC.one rfl fun K hK => ?_)
        go_simp
        refine hK _ _ (below_alloc CB _) ?_
        clear hK K
        refine InC.done (by kernel_rfl) ?_
        go_wp2_with fail
        go_meet
        case rel =>
          have hbn := below_alloc (Below.refl wd.heap.size wd) (.cells #[.int .i64 S, .slice (gA g) n (gC g), .map (some mo), .map (some md), .string ⟨t.toArray⟩, .int .i64 0] 88)
          exact ⟨_, mo, md, rfl, Sc.new _ _ _ _ _ _ _ _, kmo.on hbn, kmd.on hbn, Nat.ne_of_lt kmo.lt, Nat.ne_of_lt kmd.lt, CB.size, below_alloc CB _⟩
      · go_simp
        have zA := zero6 wo
        have hsb : W0.heap.size ≤ wo.heap.size := Co.size
        have Ca := below_alloc Co (.cells #[.int .i64 0, .slice none 0 0, .map none, .map none, .string ⟨#[]⟩, .int .i64 0] 88)
        have ka := ko.on (below_alloc (Below.refl wo.heap.size wo) (.cells #[.int .i64 0, .slice none 0 0, .map none, .map none, .string ⟨#[]⟩, .int .i64 0] 88))
        refine hK _ _ Ca ?_
        clear hK K
        refine InC.next1 (i := 2) (by kernel_rfl) (InC.one rfl fun K hK => ?_)
        go_simp
        refine (dirsBySign_any _).mono ?_
        rintro e wd ⟨rfl, kmd, bd⟩
        obtain ⟨md, emd⟩ : ∃ md, (wo.alloc (.cells #[.int .i64 0, .slice none 0 0, .map none, .map none, .string ⟨#[]⟩, .int .i64 0] 88)).heap.size = md := ⟨_, rfl⟩
        have hmd : md ≠ wo.heap.size := by rw [← emd]; simp
        have hmo : mo ≠ wo.heap.size := Nat.ne_of_lt ko.lt
        rw [emd] at kmd ⊢
        have kmo := ka.on bd
        have CB := below_on Ca bd
        have zB := zA.on bd
        refine hK _ _ CB ?_
        clear hK K emd
        refine InC.next1 (i := 4) (by kernel_rfl) (InC.one rfl fun K hK => ?_)
        go_simp
        refine hK _ _ CB ?_
        clear hK K
        refine InC.next1 (i := 6) (by kernel_rfl) (InC.one rfl fun K hK => ?_)
        have f0 := Blk.frozen zB 0
        have f1 := Blk.frozen zB 1
        have f2 := Blk.frozen zB 2
        have f3 := Blk.frozen zB 3
        have f4 := Blk.frozen zB 4
        have f5 := Blk.frozen zB 5
        have y0 := zB.cell (i := 0) (by omega)
        have y1 := zB.cell (i := 1) (by omega)
        have y2 := zB.cell (i := 2) (by omega)
        have y3 := zB.cell (i := 3) (by omega)
        have y4 := zB.cell (i := 4) (by omega)
        have y5 := zB.cell (i := 5) (by omega)
        have CE := below_set6 CB hsb (.int .i64 S) (.slice (gA g) n (gC g)) (.map (some mo)) (.map (some md)) (.string ⟨t.toArray⟩) (.int .i64 0)
        have SE := sc_set6 zB S g n mo md t 0
        have KO := knows_set6 kmo hmo (.int .i64 S) (.slice (gA g) n (gC g)) (.map (some mo)) (.map (some md)) (.string ⟨t.toArray⟩) (.int .i64 0)
        have KD := knows_set6 kmd hmd (.int .i64 S) (.slice (gA g) n (gC g)) (.map (some mo)) (.map (some md)) (.string ⟨t.toArray⟩) (.int .i64 0)
        unfold set6 at CE SE KO KD
        go_simp
        refine hK _ _ CE ?_
        clear hK K
        refine InC.done (by kernel_rfl) ?_
        go_wp2_with fail
        go_meet
        case rel => exact ⟨_, mo, md, rfl, SE, KO, KD, hmo, hmd, hsb, CE⟩
    · go_simp
      have zA := zero6 W0
      have hsb : W0.heap.size ≤ W0.heap.size := Nat.le_refl _
      refine hK _ _ CA ?_
      clear hK K
      refine InC.next1 (i := 1) (by kernel_rfl) (InC.one rfl fun K hK => ?_)
      go_simp
      refine (opsByWord_any _ (lW.on CA).toLay).mono ?_
      rintro e wo ⟨rfl, ko, bo⟩
      obtain ⟨mo, emo⟩ : ∃ mo, (W0.alloc (.cells #[.int .i64 0, .slice none 0 0, .map none, .map none, .string ⟨#[]⟩, .int .i64 0] 88)).drew.heap.size = mo := ⟨_, rfl⟩
      have hmo : mo ≠ W0.heap.size := by rw [← emo]; exact Nat.ne_of_gt (by simp)
      rw [emo] at ko ⊢
      have Co := below_on CA bo
      refine hK _ _ Co ?_
      clear hK K emo
      refine InC.next1 (i := 2) (by kernel_rfl) (InC.one rfl fun K hK => ?_)
      go_simp
      refine (dirsBySign_any _).mono ?_
      rintro e wd ⟨rfl, kmd, bd⟩
      obtain ⟨md, emd⟩ : ∃ md, wo.heap.size = md := ⟨_, rfl⟩
      rw [emd] at kmd ⊢
      have hmd : md ≠ W0.heap.size := by
        have := bo.size
        rw [← emd]
        have h1 : (W0.alloc (.cells #[.int .i64 0, .slice none 0 0, .map none, .map none, .string ⟨#[]⟩, .int .i64 0] 88)).drew.heap.size = W0.heap.size + 1 := by simp
        omega
      have kmo := ko.on bd
      have CB := below_on Co bd
      have zB := (Blk.drew zA).on (below_on (w := (W0.alloc (.cells #[.int .i64 0, .slice none 0 0, .map none, .map none, .string ⟨#[]⟩, .int .i64 0] 88)).drew) bo bd)
      refine hK _ _ CB ?_
      clear hK K emd
      refine InC.next1 (i := 4) (by kernel_rfl) (InC.one rfl fun K hK => ?_)
      go_simp
      refine hK _ _ CB ?_
      clear hK K
      refine InC.next1 (i := 6) (by kernel_rfl) (InC.one rfl fun K hK => ?_)
      have f0 := Blk.frozen zB 0
      have f1 := Blk.frozen zB 1
      have f2 := Blk.frozen zB 2
      have f3 := Blk.frozen zB 3
      have f4 := Blk.frozen zB 4
      have f5 := Blk.frozen zB 5
      have y0 := zB.cell (i := 0) (by omega)
      have y1 := zB.cell (i := 1) (by omega)
      have y2 := zB.cell (i := 2) (by omega)
      have y3 := zB.cell (i := 3) (by omega)
      have y4 := zB.cell (i := 4) (by omega)
      have y5 := zB.cell (i := 5) (by omega)
      have CE := below_set6 CB hsb (.int .i64 S) (.slice (gA g) n (gC g)) (.map (some mo)) (.map (some md)) (.string ⟨t.toArray⟩) (.int .i64 0)
      have SE := sc_set6 zB S g n mo md t 0
      have KO := knows_set6 kmo hmo (.int .i64 S) (.slice (gA g) n (gC g)) (.map (some mo)) (.map (some md)) (.string ⟨t.toArray⟩) (.int .i64 0)
      have KD := knows_set6 kmd hmd (.int .i64 S) (.slice (gA g) n (gC g)) (.map (some mo)) (.map (some md)) (.string ⟨t.toArray⟩) (.int .i64 0)
      unfold set6 at CE SE KO KD
      go_simp
      refine hK _ _ CE ?_
      clear hK K
      refine InC.done (by kernel_rfl) ?_
      go_wp2_with fail
      go_meet
      case rel => exact ⟨_, mo, md, rfl, SE, KO, KD, hmo, hmd, hsb, CE⟩
  case rest =>
    obtain ⟨sb, mo, md, rfl, sc, ko, kd, nmo, nmd, hsb, bwc⟩ := hcut
    rename World => wc
    have h0 := hW.on bwc
    have lsb : sb < wc.heap.size := Blk.lt sc
    have hh1 : Hid (w.heap.size < h ∧ h < W0.heap.size) := ⟨by rw [← EH.out]; omega, Blk.lt hW⟩
    have nhs : h ≠ sb := by have := hh1.out.2; omega
    have bw1 := below_on bW bwc
    have zc : Hid (w.heap.size ≤ wc.heap.size) := bw1.size
    have lh : h < wc.heap.size := by have := hh1.out; omega
    have lmo := ko.lt
    have lmd := kd.lt
    have nmoh := ko.ne h0
    have nmdh := kd.ne h0
    clear bwc hW bW lW HP EW EH
    go_wp2
    go_loopw [12] (fun _ wr => ∃ (rest : List UInt8) (acc : List (Int × Int × Int)) (sl : Value), Sc wr sb S g n mo md rest (acc.length : Int) ∧ Hid (RdTo S n rest acc Z ∧ acc.length ≤ 2000 ∧ rest.length ≤ 20000) ∧ Box3 wr h 31 (.int .i64 0) (.int .i64 0) sl ∧ wr.ownsRow wc.heap.size 47 3 sl acc.length (evC acc) ∧ Knows wr mo opB ∧ Knows wr md dirB ∧ Below w.heap.size w wr ∧ wc.heap.size ≤ wr.heap.size) (fun _ wr => restN wr sb)
    case atStart => exact ⟨t, [], .slice none 0 0, sc, ⟨rd0.out, by simp, hlen⟩, h0, World.ownsRow_nil _ _ _ _, ko, kd, bw1, Nat.le_refl _⟩
    case round =>
      clear sc ko kd bw1 h0 rd0
      obtain ⟨rest, acc, sl, sc, hH, hx, ow, ko, kd, bw, zw⟩ := hrel
      obtain ⟨ao, cap, esl⟩ : ∃ ao cap, sl = .slice ao acc.length cap := by
        rcases ow.2 with ⟨hv, h0⟩ | ⟨g, cap, cur, hv, _⟩
        · exact ⟨_, _, by rw [h0]; exact hv⟩
        · exact ⟨_, _, hv⟩
      subst esl
      obtain ⟨_, _, s4, s5⟩ := sc.cells
      obtain ⟨x0, x1, x2⟩ := hx.cells
      by_cases hr : rest = []
      · subst hr
        obtain ⟨hR, _, _⟩ := hH.out
        have hZ := hR.nil
        subst hZ
        have z0 := Blk.frozen hx 0
        have z1 := Blk.frozen hx 1
        have z2 := Blk.frozen hx 2
        have g3 : wr.grownBy (((wr.setCell ⟨h, 0, none⟩ (.int .i64 0)).setCell ⟨h, 1, none⟩ (.int .i64 0)).setCell ⟨h, 2, none⟩ (.slice ao acc.length cap)) (some h) := but_trans (but_trans (but_set wr h 0 _) (but_set _ h 1 _)) (but_set _ h 2 _)
        have hx3 := hx.put (.int .i64 0) (.int .i64 0) (.slice ao acc.length cap)
        have sl3 : SlF (((wr.setCell ⟨h, 0, none⟩ (.int .i64 0)).setCell ⟨h, 1, none⟩ (.int .i64 0)).setCell ⟨h, 2, none⟩ (.slice ao acc.length cap)) 47 3 wc.heap.size _ (.slice ao acc.length cap) acc.length (evs (evT acc)) := SlF.of_ownsRow (own_but ow g3 lh) (fun i hi j hj => evC_at acc i hi j hj)
        have b3 : Below w.heap.size w (((wr.setCell ⟨h, 0, none⟩ (.int .i64 0)).setCell ⟨h, 1, none⟩ (.int .i64 0)).setCell ⟨h, 2, none⟩ (.slice ao acc.length cap)) := below_but bw g3 (by have := hh1.out; omega)
        clear hR ow g3
        go_wp2
        refine leaves_cons (f := 34) (args := #[.pointer (some ⟨h, 0, none⟩)]) (by simp) (by simp [go_sem]) ?_
        refine (catch_idle h _).mono ?_
        rintro e u' w'' ⟨rfl, rfl, hbi⟩
        obtain ⟨m0, m1, m2⟩ := (hx3.on hbi).cells
        have F1 : ScP w w'' (rdO (.inr acc)) (.returned (.agg #[.int .i64 0, .int .i64 0, .slice ao acc.length cap])) := ⟨_, rfl, ⟨_, rfl, (sl3.on hbi).wide zc.out hbi.size⟩, below_on b3 hbi⟩
        refine ⟨_, ?_, F1⟩
        simp [results, Tryz.results20, go_sem, m0, m1, m2]
      · have hne : (rest == []) = false := by simpa using hr
        have hme : restN wr sb = rest.length := restN_of sc
        obtain ⟨i0, hi, hz0, hz1, hz2⟩ := info_parts Tryz.infoEv
        have ke := event_any sb S g n mo md rest acc.length wr.drew hn (Blk.drew sc) (ko.on (Below.refl wr.heap.size wr).drew) (kd.on (Below.refl wr.heap.size wr).drew) nmo nmd (hL.on (bw.trans ((Below.refl w.heap.size wr).drew))) (hL.noG (by have := hh1.out; omega)) hH.out.2.2 hH.out.2.1
        go_upto_region 4 with fail
        refine wp_region_any (by kernel_rfl) ?_
        refine InC.any (C := fun _ => True) _ _ _ _ ?_
        refine InC.take (i := 0) (v := .pointer (some ⟨h, 2, none⟩)) rfl (by kernel_rfl) (by kernel_rfl) (by kernel_rfl) (fun _ a _ h => leaves_same (res41 a 15 (by decide) _) _ _ _ h) trivial (Or.inl ⟨by rfl, ?_⟩) ?_
        · intro W hW
          go_simp
        refine InC.next2 (i := 1) (j := 2) (by kernel_rfl) (InC.one rfl fun K hK => ?_) (InC.one rfl fun K hK => ?_)
        · go_simp
          refine hK _ _ trivial ?_
          clear hK K
          refine InC.next1 (i := 2) (by kernel_rfl) (InC.one rfl fun K hK => ?_)
          go_simp
          refine ke.mono ?_
          clear ke
          rintro e w5 ⟨⟨p, q, op, f, d, rfl, hp, hk2, hpar, rfl, sc5⟩ | ⟨rfl, hbad⟩, g5⟩
          · obtain ⟨hR, hac, hrl⟩ := hH.out
            have hR2 := hR.step hp hpar hk2
            have hlq : q.length ≤ 20000 ∧ q.length < (p ++ 10 :: q).length := by simp at hrl ⊢; omega
            have HH2 : Hid (RdTo S n q (acc ++ [(op, f, d)]) Z ∧ (acc ++ [(op, f, d)]).length ≤ 2000 ∧ q.length ≤ 20000) := ⟨hR2, by simp; omega, hlq.1⟩
            have HM : Hid (q.length < (p ++ 10 :: q).length) := hlq.2
            have EL : Hid (((acc ++ [(op, f, d)]).length : Int) = (acc.length : Int) + 1 ∧ (acc ++ [(op, f, d)]).length = acc.length + 1) := ⟨by simp, by simp⟩
            have hx5 := Box3.but (Box3.drew hx) g5 nhs
            have ow5 := own_but (show wr.drew.ownsRow wc.heap.size 47 3 _ acc.length (evC acc) from ow) g5 lsb
            have ko5 := (ko.on (Below.refl wr.heap.size wr).drew).but g5 nmo
            have kd5 := (kd.on (Below.refl wr.heap.size wr).drew).but g5 nmd
            have b5 : Below w.heap.size w w5 := below_but (w1 := wr.drew) bw.drew g5 (by have := hh1.out; omega)
            have z5 : wc.heap.size ≤ w5.heap.size := Nat.le_trans zw g5.size
            refine hK _ _ trivial ?_
            clear hK K hR hR2 hlq hrl hpar hp sc hx ow ko kd bw g5 x0 x1 x2 s4 s5 hne hr
            refine InC.next1 (i := 3) (by kernel_rfl) (InC.one rfl fun K hK => ?_)
            go_simp
            have hbA := below_alloc (Below.refl w5.heap.size w5) (.cells #[.int .i64 op, .int .i64 f, .int .i64 d] 47)
            have nb := Box3.lay w5 (.int .i64 op) (.int .i64 f) (.int .i64 d) 47
            obtain ⟨n0, n1, n2⟩ := nb.cells
            refine hK _ _ trivial ?_
            clear hK K
            refine InC.next1 (i := 4) (by kernel_rfl) (InC.one rfl fun K hK => ?_)
            refine step_append_own rfl _ _ 26 rfl wc.heap.size 47 i0 (.agg #[.int .i64 0, .int .i64 0, .int .i64 0]) 3 24 Tryz.underlying26 hi hz0 hz1 hz2 rfl (by decide) _ _ _ rfl (own_on ow5 hbA) ⟨w5.heap.size, 0, none⟩ 1 1 [.int .i64 op, .int .i64 f, .int .i64 d] rfl rfl ?_ ?_ ?_ ?_ ?_ ?_
            · intro j u hj
              match j, hj with
              | 0, hj => simp at hj; subst hj; exact n0
              | 1, hj => simp at hj; subst hj; exact n1
              | 2, hj => simp at hj; subst hj; exact n2
            · intro u hu
              simp at hu
              rcases hu with rfl | rfl | rfl <;> rfl
            · unfold maxLen; omega
            · omega
            · exact Nat.le_trans z5 hbA.size
            intro v' w7 hown' hgrow _
            have ownb : ∀ x, (Value.slice ao acc.length cap).ownBlock = some x → wc.heap.size ≤ x := fun x hx => (ow5.lt x hx).1
            have bb7 : Below wc.heap.size (w5.alloc (.cells #[.int .i64 op, .int .i64 f, .int .i64 d] 47)) w7 := (Below.refl _ _).grown hgrow (Nat.le_trans z5 hbA.size) (fun x hx => ownb x hx)
            have sc7 := Blk.below (sc5.on hbA) bb7 lsb
            have hx7 : Box3 w7 h 31 (.int .i64 0) (.int .i64 0) (.slice ao acc.length cap) := Blk.below (hx5.on hbA) bb7 lh
            have ko7 := (ko5.on hbA).below bb7 lmo
            have kd7 := (kd5.on hbA).below bb7 lmd
            have b7 : Below w.heap.size w w7 := (below_on b5 hbA).trans (bb7.mono zc.out)
            have z7 : wc.heap.size ≤ w7.heap.size := Nat.le_trans (Nat.le_trans z5 hbA.size) bb7.size
            obtain ⟨ao', cap', ev'⟩ : ∃ ao' cap', v' = .slice ao' (acc.length + 1) cap' := by
              rcases hown'.2 with ⟨_, h0⟩ | ⟨g, cap, cur, hv, _⟩
              · omega
              · exact ⟨_, _, hv⟩
            subst ev'
            have g8 := but_set w7 h 2 (.slice ao' (acc.length + 1) cap')
            have sc8 : Sc (w7.setCell ⟨h, 2, none⟩ (.slice ao' (acc.length + 1) cap')) sb S g n mo md q ((acc.length : Int) + 1) := Blk.set_other sc7 nhs _
            have hx8 : Box3 (w7.setCell ⟨h, 2, none⟩ (.slice ao' (acc.length + 1) cap')) h 31 (.int .i64 0) (.int .i64 0) (.slice ao' (acc.length + 1) cap') := (Blk.set hx7 2 _).congr (fun i hi => by match i, hi with | 0, _ => rfl | 1, _ => rfl | 2, _ => rfl)
            have ow8 := own_but hown' g8 lh
            rw [← evC_snoc] at ow8
            have ko8 := knows_set (i := 2) (v := .slice ao' (acc.length + 1) cap') ko7 nmoh
            have kd8 := knows_set (i := 2) (v := .slice ao' (acc.length + 1) cap') kd7 nmdh
            have b8 := below_but b7 g8 (by have := hh1.out; omega)
            have z8 : wc.heap.size ≤ (w7.setCell ⟨h, 2, none⟩ (.slice ao' (acc.length + 1) cap')).heap.size := Nat.le_trans z7 g8.size
            obtain ⟨y0, y1, y2⟩ := hx7.cells
            have f2 := Blk.frozen hx7 2
            refine hK _ _ trivial ?_
            clear hK K bb7 hgrow hown' ow5 hx5 sc5 ko5 kd5 b5 ownb nb n0 n1 n2 hbA z5 z7
            refine InC.next1 (i := 5) (by kernel_rfl) (InC.one rfl fun K hK => ?_)
            go_simp
            refine hK _ _ trivial ?_
            clear hK K
            refine InC.next1 (i := 6) (by kernel_rfl) (InC.one rfl fun K hK => ?_)
            go_simp
            refine hK _ _ trivial ?_
            clear hK K
            refine InC.done (by kernel_rfl) ?_
            go_wp2
            exact ⟨⟨q, acc ++ [(op, f, d)], _, by rw [EL.out.1]; exact sc8, HH2, hx8, by rw [EL.out.2]; exact ow8, ko8, kd8, b8, z8⟩, by rw [hme, restN_of sc8]; exact HM.out⟩
          · have hZ : Z = .inl (acc.length + 1) := by
              obtain ⟨hR, _, _⟩ := hH.out
              rcases hbad with h | ⟨p, q, rfl, hp, h | h⟩
              · exact hR.open hr h
              · exact hR.many hr h
              · exact hR.bad hp h
            subst hZ
            have hx5 := Box3.but (Box3.drew hx) g5 nhs
            have b5 : Below w.heap.size w w5 := below_but (w1 := wr.drew) bw.drew g5 (by have := hh1.out; omega)
            refine leaves_cons (f := 34) (args := #[.pointer (some ⟨h, 0, none⟩)]) (by simp) (by simp [go_sem]) ?_
            refine (catch_bad h _ _ _ _ [] _ hx5).mono ?_
            rintro e u' w'' ⟨rfl, rfl, hx6, g6⟩
            obtain ⟨m0, m1, m2⟩ := hx6.cells
            have b6 := below_but b5 g6 (by have := hh1.out; omega)
            have F1 : ScP w w'' (rdO (.inl (acc.length + 1))) (.returned (.agg #[.int .i64 3, .int .i64 ((acc.length : Int) + 1), .slice none 0 0])) := ⟨_, rfl, ⟨_, by simp [rdO], ⟨none, 0, rfl, .inl rfl⟩⟩, b6⟩
            refine ⟨_, ?_, F1⟩
            simp [results, Tryz.results20, go_sem, m0, m1, m2]
        · go_simp
          refine ke.mono ?_
          clear ke
          rintro e w5 ⟨⟨p, q, op, f, d, rfl, hp, hk2, hpar, rfl, sc5⟩ | ⟨rfl, hbad⟩, g5⟩
          · obtain ⟨hR, hac, hrl⟩ := hH.out
            have hR2 := hR.step hp hpar hk2
            have hlq : q.length ≤ 20000 ∧ q.length < (p ++ 10 :: q).length := by simp at hrl ⊢; omega
            have HH2 : Hid (RdTo S n q (acc ++ [(op, f, d)]) Z ∧ (acc ++ [(op, f, d)]).length ≤ 2000 ∧ q.length ≤ 20000) := ⟨hR2, by simp; omega, hlq.1⟩
            have HM : Hid (q.length < (p ++ 10 :: q).length) := hlq.2
            have EL : Hid (((acc ++ [(op, f, d)]).length : Int) = (acc.length : Int) + 1 ∧ (acc ++ [(op, f, d)]).length = acc.length + 1) := ⟨by simp, by simp⟩
            have hx5 := Box3.but (Box3.drew hx) g5 nhs
            have ow5 := own_but (show wr.drew.ownsRow wc.heap.size 47 3 _ acc.length (evC acc) from ow) g5 lsb
            have ko5 := (ko.on (Below.refl wr.heap.size wr).drew).but g5 nmo
            have kd5 := (kd.on (Below.refl wr.heap.size wr).drew).but g5 nmd
            have b5 : Below w.heap.size w w5 := below_but (w1 := wr.drew) bw.drew g5 (by have := hh1.out; omega)
            have z5 : wc.heap.size ≤ w5.heap.size := Nat.le_trans zw g5.size
            refine hK _ _ trivial ?_
            clear hK K hR hR2 hlq hrl hpar hp sc hx ow ko kd bw g5 x0 x1 x2 s4 s5 hne hr
            refine InC.next2 (i := 1) (j := 3) (by kernel_rfl) (InC.one rfl fun K hK => ?_) (InC.one rfl fun K hK => ?_)
            · skip
              obtain ⟨k0, k1, k2⟩ := hx5.cells
              go_simp
              refine hK _ _ trivial ?_
              clear hK K k0 k1 k2
              refine InC.next1 (i := 3) (by kernel_rfl) (InC.one rfl fun K hK => ?_)
              go_simp
              have hbA := below_alloc (Below.refl w5.heap.size w5) (.cells #[.int .i64 op, .int .i64 f, .int .i64 d] 47)
              have nb := Box3.lay w5 (.int .i64 op) (.int .i64 f) (.int .i64 d) 47
              obtain ⟨n0, n1, n2⟩ := nb.cells
              refine hK _ _ trivial ?_
              clear hK K
              refine InC.next1 (i := 4) (by kernel_rfl) (InC.one rfl fun K hK => ?_)
              refine step_append_own rfl _ _ 26 rfl wc.heap.size 47 i0 (.agg #[.int .i64 0, .int .i64 0, .int .i64 0]) 3 24 Tryz.underlying26 hi hz0 hz1 hz2 rfl (by decide) _ _ _ rfl (own_on ow5 hbA) ⟨w5.heap.size, 0, none⟩ 1 1 [.int .i64 op, .int .i64 f, .int .i64 d] rfl rfl ?_ ?_ ?_ ?_ ?_ ?_
              · intro j u hj
                match j, hj with
                | 0, hj => simp at hj; subst hj; exact n0
                | 1, hj => simp at hj; subst hj; exact n1
                | 2, hj => simp at hj; subst hj; exact n2
              · intro u hu
                simp at hu
                rcases hu with rfl | rfl | rfl <;> rfl
              · unfold maxLen; omega
              · omega
              · exact Nat.le_trans z5 hbA.size
              intro v' w7 hown' hgrow _
              have ownb : ∀ x, (Value.slice ao acc.length cap).ownBlock = some x → wc.heap.size ≤ x := fun x hx => (ow5.lt x hx).1
              have bb7 : Below wc.heap.size (w5.alloc (.cells #[.int .i64 op, .int .i64 f, .int .i64 d] 47)) w7 := (Below.refl _ _).grown hgrow (Nat.le_trans z5 hbA.size) (fun x hx => ownb x hx)
              have sc7 := Blk.below (sc5.on hbA) bb7 lsb
              have hx7 : Box3 w7 h 31 (.int .i64 0) (.int .i64 0) (.slice ao acc.length cap) := Blk.below (hx5.on hbA) bb7 lh
              have ko7 := (ko5.on hbA).below bb7 lmo
              have kd7 := (kd5.on hbA).below bb7 lmd
              have b7 : Below w.heap.size w w7 := (below_on b5 hbA).trans (bb7.mono zc.out)
              have z7 : wc.heap.size ≤ w7.heap.size := Nat.le_trans (Nat.le_trans z5 hbA.size) bb7.size
              obtain ⟨ao', cap', ev'⟩ : ∃ ao' cap', v' = .slice ao' (acc.length + 1) cap' := by
                rcases hown'.2 with ⟨_, h0⟩ | ⟨g, cap, cur, hv, _⟩
                · omega
                · exact ⟨_, _, hv⟩
              subst ev'
              have g8 := but_set w7 h 2 (.slice ao' (acc.length + 1) cap')
              have sc8 : Sc (w7.setCell ⟨h, 2, none⟩ (.slice ao' (acc.length + 1) cap')) sb S g n mo md q ((acc.length : Int) + 1) := Blk.set_other sc7 nhs _
              have hx8 : Box3 (w7.setCell ⟨h, 2, none⟩ (.slice ao' (acc.length + 1) cap')) h 31 (.int .i64 0) (.int .i64 0) (.slice ao' (acc.length + 1) cap') := (Blk.set hx7 2 _).congr (fun i hi => by match i, hi with | 0, _ => rfl | 1, _ => rfl | 2, _ => rfl)
              have ow8 := own_but hown' g8 lh
              rw [← evC_snoc] at ow8
              have ko8 := knows_set (i := 2) (v := .slice ao' (acc.length + 1) cap') ko7 nmoh
              have kd8 := knows_set (i := 2) (v := .slice ao' (acc.length + 1) cap') kd7 nmdh
              have b8 := below_but b7 g8 (by have := hh1.out; omega)
              have z8 : wc.heap.size ≤ (w7.setCell ⟨h, 2, none⟩ (.slice ao' (acc.length + 1) cap')).heap.size := Nat.le_trans z7 g8.size
              obtain ⟨y0, y1, y2⟩ := hx7.cells
              have f2 := Blk.frozen hx7 2
              refine hK _ _ trivial ?_
              clear hK K bb7 hgrow hown' ow5 hx5 sc5 ko5 kd5 b5 ownb nb n0 n1 n2 hbA z5 z7
              refine InC.next1 (i := 5) (by kernel_rfl) (InC.one rfl fun K hK => ?_)
              go_simp
              refine hK _ _ trivial ?_
              clear hK K
              refine InC.next1 (i := 6) (by kernel_rfl) (InC.one rfl fun K hK => ?_)
              go_simp
              refine hK _ _ trivial ?_
              clear hK K
              refine InC.done (by kernel_rfl) ?_
              go_wp2
              exact ⟨⟨q, acc ++ [(op, f, d)], _, by rw [EL.out.1]; exact sc8, HH2, hx8, by rw [EL.out.2]; exact ow8, ko8, kd8, b8, z8⟩, by rw [hme, restN_of sc8]; exact HM.out⟩
            · skip
              go_simp
              have hbA := below_alloc (Below.refl w5.heap.size w5) (.cells #[.int .i64 op, .int .i64 f, .int .i64 d] 47)
              have nb := Box3.lay w5 (.int .i64 op) (.int .i64 f) (.int .i64 d) 47
              obtain ⟨n0, n1, n2⟩ := nb.cells
              refine hK _ _ trivial ?_
              clear hK K
              refine InC.next1 (i := 1) (by kernel_rfl) (InC.one rfl fun K hK => ?_)
              obtain ⟨k0, k1, k2⟩ := (hx5.on hbA).cells
              go_simp
              refine hK _ _ trivial ?_
              clear hK K k0 k1 k2
              refine InC.next1 (i := 4) (by kernel_rfl) (InC.one rfl fun K hK => ?_)
              refine step_append_own rfl _ _ 26 rfl wc.heap.size 47 i0 (.agg #[.int .i64 0, .int .i64 0, .int .i64 0]) 3 24 Tryz.underlying26 hi hz0 hz1 hz2 rfl (by decide) _ _ _ rfl (own_on ow5 hbA) ⟨w5.heap.size, 0, none⟩ 1 1 [.int .i64 op, .int .i64 f, .int .i64 d] rfl rfl ?_ ?_ ?_ ?_ ?_ ?_
              · intro j u hj
                match j, hj with
                | 0, hj => simp at hj; subst hj; exact n0
                | 1, hj => simp at hj; subst hj; exact n1
                | 2, hj => simp at hj; subst hj; exact n2
              · intro u hu
                simp at hu
                rcases hu with rfl | rfl | rfl <;> rfl
              · unfold maxLen; omega
              · omega
              · exact Nat.le_trans z5 hbA.size
              intro v' w7 hown' hgrow _
              have ownb : ∀ x, (Value.slice ao acc.length cap).ownBlock = some x → wc.heap.size ≤ x := fun x hx => (ow5.lt x hx).1
              have bb7 : Below wc.heap.size (w5.alloc (.cells #[.int .i64 op, .int .i64 f, .int .i64 d] 47)) w7 := (Below.refl _ _).grown hgrow (Nat.le_trans z5 hbA.size) (fun x hx => ownb x hx)
              have sc7 := Blk.below (sc5.on hbA) bb7 lsb
              have hx7 : Box3 w7 h 31 (.int .i64 0) (.int .i64 0) (.slice ao acc.length cap) := Blk.below (hx5.on hbA) bb7 lh
              have ko7 := (ko5.on hbA).below bb7 lmo
              have kd7 := (kd5.on hbA).below bb7 lmd
              have b7 : Below w.heap.size w w7 := (below_on b5 hbA).trans (bb7.mono zc.out)
              have z7 : wc.heap.size ≤ w7.heap.size := Nat.le_trans (Nat.le_trans z5 hbA.size) bb7.size
              obtain ⟨ao', cap', ev'⟩ : ∃ ao' cap', v' = .slice ao' (acc.length + 1) cap' := by
                rcases hown'.2 with ⟨_, h0⟩ | ⟨g, cap, cur, hv, _⟩
                · omega
                · exact ⟨_, _, hv⟩
              subst ev'
              have g8 := but_set w7 h 2 (.slice ao' (acc.length + 1) cap')
              have sc8 : Sc (w7.setCell ⟨h, 2, none⟩ (.slice ao' (acc.length + 1) cap')) sb S g n mo md q ((acc.length : Int) + 1) := Blk.set_other sc7 nhs _
              have hx8 : Box3 (w7.setCell ⟨h, 2, none⟩ (.slice ao' (acc.length + 1) cap')) h 31 (.int .i64 0) (.int .i64 0) (.slice ao' (acc.length + 1) cap') := (Blk.set hx7 2 _).congr (fun i hi => by match i, hi with | 0, _ => rfl | 1, _ => rfl | 2, _ => rfl)
              have ow8 := own_but hown' g8 lh
              rw [← evC_snoc] at ow8
              have ko8 := knows_set (i := 2) (v := .slice ao' (acc.length + 1) cap') ko7 nmoh
              have kd8 := knows_set (i := 2) (v := .slice ao' (acc.length + 1) cap') kd7 nmdh
              have b8 := below_but b7 g8 (by have := hh1.out; omega)
              have z8 : wc.heap.size ≤ (w7.setCell ⟨h, 2, none⟩ (.slice ao' (acc.length + 1) cap')).heap.size := Nat.le_trans z7 g8.size
              obtain ⟨y0, y1, y2⟩ := hx7.cells
              have f2 := Blk.frozen hx7 2
              refine hK _ _ trivial ?_
              clear hK K bb7 hgrow hown' ow5 hx5 sc5 ko5 kd5 b5 ownb nb n0 n1 n2 hbA z5 z7
              refine InC.next1 (i := 5) (by kernel_rfl) (InC.one rfl fun K hK => ?_)
              go_simp
              refine hK _ _ trivial ?_
              clear hK K
              refine InC.next1 (i := 6) (by kernel_rfl) (InC.one rfl fun K hK => ?_)
              go_simp
              refine hK _ _ trivial ?_
              clear hK K
              refine InC.done (by kernel_rfl) ?_
              go_wp2
              exact ⟨⟨q, acc ++ [(op, f, d)], _, by rw [EL.out.1]; exact sc8, HH2, hx8, by rw [EL.out.2]; exact ow8, ko8, kd8, b8, z8⟩, by rw [hme, restN_of sc8]; exact HM.out⟩
          · have hZ : Z = .inl (acc.length + 1) := by
              obtain ⟨hR, _, _⟩ := hH.out
              rcases hbad with h | ⟨p, q, rfl, hp, h | h⟩
              · exact hR.open hr h
              · exact hR.many hr h
              · exact hR.bad hp h
            subst hZ
            have hx5 := Box3.but (Box3.drew hx) g5 nhs
            have b5 : Below w.heap.size w w5 := below_but (w1 := wr.drew) bw.drew g5 (by have := hh1.out; omega)
            refine leaves_cons (f := 34) (args := #[.pointer (some ⟨h, 0, none⟩)]) (by simp) (by simp [go_sem]) ?_
            refine (catch_bad h _ _ _ _ [] _ hx5).mono ?_
            rintro e u' w'' ⟨rfl, rfl, hx6, g6⟩
            obtain ⟨m0, m1, m2⟩ := hx6.cells
            have b6 := below_but b5 g6 (by have := hh1.out; omega)
            have F1 : ScP w w'' (rdO (.inl (acc.length + 1))) (.returned (.agg #[.int .i64 3, .int .i64 ((acc.length : Int) + 1), .slice none 0 0])) := ⟨_, rfl, ⟨_, by simp [rdO], ⟨none, 0, rfl, .inl rfl⟩⟩, b6⟩
            refine ⟨_, ?_, F1⟩
            simp [results, Tryz.results20, go_sem, m0, m1, m2]

end Go.Proofs.YtlpopfhaephfaaaGreatDoor

namespace Go.Proofs.YtlpopfhaephfaaaGreatDoor
open Go.RowKit Go.Maps

theorem rdZ_lay {S : Int} {n : Nat} {F T : Nat → Int} {t : List UInt8} (h : ¬ lokZ S n F T = 0) : rdZ S n F T t = (1, 0, []) := by unfold rdZ; rw [if_neg h]
theorem rdZ_long {S : Int} {n : Nat} {F T : Nat → Int} {t : List UInt8} (h : lokZ S n F T = 0) (h2 : 20000 < t.length) : rdZ S n F T t = (2, 0, []) := by unfold rdZ; rw [if_pos h, if_neg (by omega)]
theorem rdZ_scan {S : Int} {n : Nat} {F T : Nat → Int} {t : List UInt8} (h : lokZ S n F T = 0) (h2 : t.length ≤ 20000) : rdZ S n F T t = rdO (rdL S n (t.length + 1) t []) := by
  unfold rdZ rdO; rw [if_pos h, if_pos h2]
  cases rdL S n (t.length + 1) t [] <;> rfl

/-- An answer that is laid into its own block. -/
theorem read_end {w V W : World} {r : Nat} {x y z : Value} {a : Int} {b : Nat} {sl : Value} {l : List (Int × Int × Int)} (hr : Box3 W r 31 x y z) (hb : Below w.heap.size w W) (hw : w.heap.size ≤ r)
    (hs : SlF W 47 3 w.heap.size W.heap.size sl l.length (evs (evT l))) (_hV : V = V) :
    ScP w (((W.setCell ⟨r, 0, none⟩ (.int .i64 a)).setCell ⟨r, 1, none⟩ (.int .i64 (b : Int))).setCell ⟨r, 2, none⟩ sl) (a, b, l) (.returned (.agg #[.int .i64 a, .int .i64 (b : Int), sl])) := by
  refine ⟨_, rfl, ⟨sl, rfl, ?_⟩, ((hb.setCell hw _).setCell hw _).setCell hw _⟩
  have := hs.turned (Turned.of_grown (E := (· = 31)) (lo := r) (hi := r + 1) (but_trans (but_trans (but_set W r 0 (.int .i64 a)) (but_set _ r 1 (.int .i64 (b : Int)))) (but_set _ r 2 sl)) (Nat.le_refl _) (Nat.lt_succ_self _) rfl hr) (.inl (by decide))
  simpa using this

set_option maxRecDepth 100000 in
set_option maxHeartbeats 2000000 in
theorem implRead_any (S : Int) (g n : Nat) (F T : Nat → Int) (t : List UInt8) (w : World) (hrow : CRow w g n F T) (hL : LayR w) (hlen : t.length ≤ 1048576) :
    Calls Tryz.prog 6 #[.agg #[.int .i64 S, .slice (gA g) n (gC g)], .string ⟨t.toArray⟩] w fun e w' => ScP w w' (rdZ S n F T t) e := by
  obtain ⟨R, hR⟩ : ∃ R, rdZ S n F T t = R := ⟨_, rfl⟩
  rw [hR]
  have HR : Hid _ := hR
  clear hR
  obtain ⟨W0, eW⟩ : ∃ W0, (w.alloc (.cells #[.int .i64 S, .slice (gA g) n (gC g)] 25)).alloc (.cells #[.int .i64 0, .int .i64 0, .slice none 0 0] 31) = W0 := ⟨_, rfl⟩
  have bW : Below w.heap.size w W0 := by rw [← eW]; exact (by repeat (first | exact Below.refl _ _ | assumption | refine below_alloc ?_ _ | refine Below.setCell ?_ (by first | omega | (simp; done) | (simp; omega)) _ | refine Below.alloc ?_ (by first | omega | (simp; done) | (simp; omega)) _ | refine Below.drew ?_))
  have hP : ∀ W, Below W0.heap.size W0 W → W.cell? ⟨w.heap.size, 0, none⟩ = some (.int .i64 S) ∧ W.cell? ⟨w.heap.size, 1, none⟩ = some (.slice (gA g) n (gC g)) := by
    have c0 : W0.cell? ⟨w.heap.size, 0, none⟩ = some (.int .i64 S) := by rw [← eW]; simp
    have c1 : W0.cell? ⟨w.heap.size, 1, none⟩ = some (.slice (gA g) n (gC g)) := by rw [← eW]; simp
    exact fun W hb => ⟨by rw [hb.cell (block_lt_of_cell c0)]; exact c0, by rw [hb.cell (block_lt_of_cell c1)]; exact c1⟩
  obtain ⟨r, er⟩ : ∃ r, w.heap.size + 1 = r := ⟨_, rfl⟩
  have hW : Box3 W0 r 31 (.int .i64 0) (.int .i64 0) (.slice none 0 0) := by
    rw [← eW, ← er]
    have := Box3.lay (w.alloc (.cells #[.int .i64 S, .slice (gA g) n (gC g)] 25)) (.int .i64 0) (.int .i64 0) (.slice none 0 0) 31
    rwa [World.size_alloc] at this
  have hwr : Hid (w.heap.size ≤ r) := by rw [← er]; exact Nat.le_succ _
  have kl := implLayoutOk_any S g n F T W0 (hrow.on bW)
  have EW : Hid _ := eW
  have ER : Hid _ := er
  have HP : Hid _ := hP
  have lL := hL.on bW
  clear eW er hP hrow
  by_cases hl : lokZ S n F T = 0
  · obtain ⟨r1, r2, r3⟩ := lok_range hl
    rw [hl] at kl
    go_enter Tryz.func6, Tryz.ntmps6
    go_upto_region 1 with fail
    rw [EW.out, ER.out]
    obtain ⟨x0, x1⟩ := HP.out W0 (Below.refl _ _)
    go_wp2_with fail
    refine kl.mono ?_
    clear kl
    rintro e w1 ⟨rfl, b1⟩
    have hx := hW.on b1
    have bw := below_on bW b1
    obtain ⟨x0, x1⟩ := HP.out w1 b1
    obtain ⟨y0, y1, y2⟩ := hx.cells
    have z0 := Blk.frozen hx 0
    have z1 := Blk.frozen hx 1
    have z2 := Blk.frozen hx 2
    by_cases hlong : 20000 < t.length
    · have hi : (20000 : Int) < (t.length : Int) := by omega
      obtain rfl := (rdZ_long hl hlong).symm.trans HR.out
      have FIN : Hid _ := read_end (V := w1) (a := 2) (b := 0) (sl := .slice none 0 0) (l := []) hx bw hwr.out ⟨none, 0, rfl, .inl rfl⟩ rfl
      have hx2 := hx.put (.int .i64 2) (.int .i64 0) (.slice none 0 0)
      obtain ⟨m0, m1, m2⟩ := hx2.cells
      clear hW b1 bW bw hx hx2 lL
      go_wp2
      exact bodyPost_ret (v := .agg #[.int .i64 2, .int .i64 0, .slice none 0 0]) (by simp [results, Tryz.results6, go_sem, m0, m1, m2]) rfl FIN.out
    · have hi : ¬ (20000 : Int) < (t.length : Int) := by omega
      have hR3 := (rdZ_scan (t := t) hl (by omega)).symm.trans HR.out
      have ks := scan_any S g n t w1 r3 (lL.on b1) (by omega)
      rw [hR3] at ks
      clear hW bW hR3 HR
      obtain ⟨A, B, l⟩ := R
      go_wp2_with fail
      refine ks.mono ?_
      clear ks
      rintro e w2 ⟨v, rfl, ⟨sl, rfl, hs⟩, b2⟩
      simp only at hs
      have hx2 := hx.on b2
      have bw2 := below_on bw b2
      obtain ⟨ao, cap, esl⟩ : ∃ ao cap, sl = .slice ao l.length cap := by
        obtain ⟨ao, cap, h, _⟩ := hs
        exact ⟨ao, cap, h⟩
      subst esl
      have FIN : Hid (ScP _ _ _ _) := read_end (V := w1) (a := A) (b := B) (l := l) hx2 bw2 hwr.out (hs.wide bw.size (Nat.le_refl _)) rfl
      have hx3 := hx2.put (.int .i64 A) (.int .i64 (B : Int)) (.slice ao l.length cap)
      obtain ⟨m0, m1, m2⟩ := hx3.cells
      obtain ⟨y0, y1, y2⟩ := hx2.cells
      have z0 := Blk.frozen hx2 0
      have z1 := Blk.frozen hx2 1
      have z2 := Blk.frozen hx2 2
      clear hs hx hx2 hx3 bw bw2 b1 b2 lL
      go_wp2
      exact bodyPost_ret (v := .agg #[.int .i64 A, .int .i64 (B : Int), .slice ao l.length cap]) (by simp [results, Tryz.results6, go_sem, m0, m1, m2]) rfl FIN.out
  · obtain rfl := (rdZ_lay hl).symm.trans HR.out
    clear HR
    obtain ⟨c, hc⟩ : ∃ c, lokZ S n F T = c := ⟨_, rfl⟩
    rw [hc] at kl hl
    clear hc
    go_enter Tryz.func6, Tryz.ntmps6
    go_upto_region 1 with fail
    rw [EW.out, ER.out]
    obtain ⟨x0, x1⟩ := HP.out W0 (Below.refl _ _)
    go_wp2_with fail
    refine kl.mono ?_
    clear kl
    rintro e w1 ⟨rfl, b1⟩
    have hx := hW.on b1
    have bw := below_on bW b1
    obtain ⟨y0, y1, y2⟩ := hx.cells
    have z0 := Blk.frozen hx 0
    have z1 := Blk.frozen hx 1
    have z2 := Blk.frozen hx 2
    have FIN : Hid _ := read_end (V := w1) (a := 1) (b := 0) (sl := .slice none 0 0) (l := []) hx bw hwr.out ⟨none, 0, rfl, .inl rfl⟩ rfl
    have hx2 := hx.put (.int .i64 1) (.int .i64 0) (.slice none 0 0)
    obtain ⟨m0, m1, m2⟩ := hx2.cells
    clear hW b1 bW bw hx hx2 lL
    go_wp2
    exact bodyPost_ret (v := .agg #[.int .i64 1, .int .i64 0, .slice none 0 0]) (by simp [results, Tryz.results6, go_sem, m0, m1, m2]) rfl FIN.out

end Go.Proofs.YtlpopfhaephfaaaGreatDoor

namespace Go.Proofs.YtlpopfhaephfaaaGreatDoor
open Go.RowKit

theorem evB_of {S : Int} {n : Nat} {op f d : Int} (h : evB S n op f d = true) : f < (n : Int) ∨ f < S := by
  unfold evB at h
  repeat' split at h
  all_goals simp at h
  all_goals omega

theorem Box3.putv {w : World} {b : Nat} {e : TypeId} {x y z : Value} (h : Box3 w b e x y z) (x' y' z' : Value) : Box3 (((w.setCell ⟨b, 0, none⟩ x').setCell ⟨b, 1, none⟩ y').setCell ⟨b, 2, none⟩ z') b e x' y' z' :=
  (((Blk.set h 0 x').set 1 y').set 2 z').congr fun i hi => by
    match i, hi with
    | 0, _ => rfl
    | 1, _ => rfl
    | 2, _ => rfl

/-- What the model finds of a line. -/
def leV (M : Option (Int × Int × Int)) : Value :=
  match M with
  | some (op, f, d) => .tuple #[.agg #[.int .i64 op, .int .i64 f, .int .i64 d], .bool true]
  | none => .tuple #[.agg #[.int .i64 0, .int .i64 0, .int .i64 0], .bool false]

set_option maxRecDepth 100000 in
set_option maxHeartbeats 4000000 in
theorem l4event_any (S : Int) (g n : Nat) (F T : Nat → Int) (line : List UInt8) (w : World) (hrow : CRow w g n F T) (hl : lokZ S n F T = 0) :
    Calls Tryz.prog 44 #[.agg #[.int .i64 S, .slice (gA g) n (gC g)], .string ⟨line.toArray⟩] w fun e w' => e = .returned (leV (parB S n line)) ∧ Below w.heap.size w w' := by
  obtain ⟨r1, r2, r3⟩ := lok_range hl
  obtain ⟨M, hM⟩ : ∃ M, parB S n line = M := ⟨_, rfl⟩
  have hsome : ∀ op f d, M = some (op, f, d) → evB S n op f d = true ∧ lineB op f d = line := fun op f d h => parB_some (hM.trans h)
  have hback : ∀ op f d, evB S n op f d = true → lineB op f d = line → M = some (op, f, d) := fun op f d h1 h2 => by
    rw [← hM, ← h2]; exact parB_line h1 r3 r2
  rw [hM]
  obtain ⟨V, eV⟩ : ∃ V, (w.alloc (.cells #[.int .i64 S, .slice (gA g) n (gC g)] 25)).alloc (.cells #[.int .i64 0, .int .i64 0, .int .i64 0] 47) = V := ⟨_, rfl⟩
  have bV : Below w.heap.size w V := by rw [← eV]; exact (by repeat (first | exact Below.refl _ _ | assumption | refine below_alloc ?_ _ | refine Below.setCell ?_ (by first | omega | (simp; done) | (simp; omega)) _ | refine Below.alloc ?_ (by first | omega | (simp; done) | (simp; omega)) _ | refine Below.drew ?_))
  have hP : ∀ W, Below V.heap.size V W → (W.cell? ⟨w.heap.size, 0, none⟩ = some (.int .i64 S) ∧ W.cell? ⟨w.heap.size, 1, none⟩ = some (.slice (gA g) n (gC g))) ∧ CRow W g n F T := by
    have c0 : V.cell? ⟨w.heap.size, 0, none⟩ = some (.int .i64 S) := by rw [← eV]; simp
    have c1 : V.cell? ⟨w.heap.size, 1, none⟩ = some (.slice (gA g) n (gC g)) := by rw [← eV]; simp
    exact fun W hb => ⟨⟨by rw [hb.cell (block_lt_of_cell c0)]; exact c0, by rw [hb.cell (block_lt_of_cell c1)]; exact c1⟩, hrow.on (below_on bV hb)⟩
  obtain ⟨r, er⟩ : ∃ r, w.heap.size + 1 = r := ⟨_, rfl⟩
  have hR : Box3 V r 47 (.int .i64 0) (.int .i64 0) (.int .i64 0) := by
    rw [← eV, ← er]
    have := Box3.lay (w.alloc (.cells #[.int .i64 S, .slice (gA g) n (gC g)] 25)) (.int .i64 0) (.int .i64 0) (.int .i64 0) 47
    rwa [World.size_alloc] at this
  obtain ⟨most, em⟩ : ∃ most : Int, most = if (n : Int) < S then S else (n : Int) := ⟨_, rfl⟩
  have hmost : most ≤ 120 ∧ (n : Int) ≤ most ∧ S ≤ most := by rw [em]; split <;> omega
  have hwr : Hid (w.heap.size < r ∧ r < V.heap.size) := ⟨by rw [← er]; omega, Blk.lt hR⟩
  have EV : Hid _ := eV
  have ER : Hid _ := er
  have HP : Hid _ := hP
  have HS : Hid _ := hsome
  have HB : Hid _ := hback
  clear eV er hP hsome hback hM hrow
  go_enter Tryz.func44, Tryz.ntmps44
  go_upto_region 1 with fail
  rw [EV.out, ER.out]
  obtain ⟨⟨x0, x1⟩, _⟩ := HP.out V (Below.refl _ _)
  rcases (show (most = S ∧ (n : Int) < S) ∨ (most = (n : Int) ∧ ¬ (n : Int) < S) by rw [em]; split <;> omega) with ⟨em', hc⟩ | ⟨em', hc⟩
  all_goals
    have EM : Hid _ := em'
    clear em em'
    go_wp2
    clear x0 x1
    go_loopw [7] (fun i wr => ∃ o : Nat, 1 ≤ o ∧ o ≤ 6 ∧ i = .int .i64 (o : Int) ∧ Box3 wr r 47 (.int .i64 0) (.int .i64 0) (.int .i64 0) ∧ Below V.heap.size V wr ∧ Hid (∀ op f d, M = some (op, f, d) → (o : Int) ≤ op)) (fun i _ => 6 - (intOf i).toNat)
    case atStart => exact ⟨1, by omega, by omega, rfl, hR, Below.refl _ _, fun op f d h => (evB_range (HS.out op f d h).1 r3 r2).1.1⟩
    case round =>
      obtain ⟨o, h1, h6, rfl, hb, Bw, hH⟩ := hrel
      by_cases ho : o ≤ 5
      · have hi1 : (o : Int) ≤ 5 := by omega
        obtain ⟨wb, hwb⟩ : ∃ wb, wordB (o : Int) = wb := ⟨_, rfl⟩
        have lw : wb.length ≤ 5 := by rw [← hwb]; exact wordB_length _
        obtain ⟨s1, hs1⟩ : ∃ s1, wb ++ [32] = s1 := ⟨_, rfl⟩
        have l1 : s1.length ≤ 6 := by rw [← hs1]; simp; omega
        have hadd1 : ∀ X : World, (Op.stringOp .add ⟨wb.toArray⟩ ⟨#[32]⟩).run Tryz.prog X = .ok (.string ⟨s1.toArray⟩) X := fun X => by rw [← hs1]; exact run_string_add_lists X wb [32] (by omega) (by simp)
        have cw : (wr.alloc (.cells wordsA 9)).cell? ⟨wr.heap.size, o, none⟩ = some (.string ⟨wb.toArray⟩) := by
          rw [← hwb]
          have := wordsA_at (o := o) (by omega)
          simp [this]
        have hw6 : (o : Int) < 6 := by omega
        have hpre : Hid (∀ f d, M = some ((o : Int), f, d) → s1.length ≤ line.length ∧ line.take s1.length = s1) := fun f d h => by
          have := (HS.out _ f d h).2
          have e : line = s1 ++ (Lib.itoa f ++ signB d) := by rw [← this, ← hs1, ← hwb]; simp [lineB]
          rw [e]
          simp
        have bW := below_alloc Bw (.cells wordsA 9)
        have hbW := hb.alloc (.cells wordsA 9)
        clear hs1 hwb hb Bw
        go_wp2_with fail
        refine (l4words_any _).mono ?_
        rintro e w1 ⟨rfl, rfl⟩
        by_cases hlt : line.length < s1.length
        · have hi2 : (line.length : Int) < (s1.length : Int) := by omega
          have hN : Hid (∀ op f d, M = some (op, f, d) → ((o + 1 : Nat) : Int) ≤ op) := fun op f d h => by
            have h3 := hH.out op f d h
            by_cases h4 : op = (o : Int)
            · subst h4
              have := (hpre.out f d h).1
              omega
            · omega
          go_wp2
          exact ⟨⟨o + 1, by omega, by omega, by simp, hbW, bW, hN⟩, by simp [intOf]; omega⟩
        · have hi2 : ¬ (line.length : Int) < (s1.length : Int) := by omega
          have hex : ((⟨line.toArray⟩ : ByteArray).extract 0 s1.length).toList = line.take s1.length := by rw [ByteArray.toList_eq, Lib.extract_from_zero]
          by_cases htk : line.take s1.length = s1
          · have hq : (line.take s1.length == s1) = true := by simpa using htk
            clear hpre htk
            go_wp2
            clear hex hq cw hadd1
            go_loopw [10] (fun i wr => ∃ fv : Nat, i = .int .i64 (fv : Int) ∧ Box3 wr r 47 (.int .i64 0) (.int .i64 0) (.int .i64 0) ∧ Below V.heap.size V wr ∧ Hid (∀ op f d, M = some (op, f, d) → (o : Int) ≤ op ∧ (op = (o : Int) → (fv : Int) ≤ f))) (fun i _ => most.toNat - (intOf i).toNat)
            case atStart => exact ⟨0, rfl, hbW, bW, fun op f d h => ⟨hH.out op f d h, fun _ => (evB_range (HS.out op f d h).1 r3 r2).2.1.1⟩⟩
            case round =>
              clear hbW bW hH
              obtain ⟨fv, rfl, hb, Bw, hH⟩ := hrel
              by_cases hf : (fv : Int) < most
              · have hf2 := hf
                rw [EM.out] at hf2
                have hfm : fv < 120 := by omega
                go_wp2
                go_loopw [11] (fun i wr => ∃ dv : Int, -1 ≤ dv ∧ dv ≤ 2 ∧ i = .int .i64 dv ∧ Box3 wr r 47 (.int .i64 0) (.int .i64 0) (.int .i64 0) ∧ Below V.heap.size V wr ∧ Hid (∀ op f d, M = some (op, f, d) → (o : Int) ≤ op ∧ (op = (o : Int) → (fv : Int) ≤ f ∧ (f = (fv : Int) → dv ≤ d)))) (fun i _ => (2 - intOf i).toNat)
                case atStart => exact ⟨-1, by omega, by omega, rfl, hb, Bw, fun op f d h => ⟨(hH.out op f d h).1, fun h2 => ⟨(hH.out op f d h).2 h2, fun _ => by have := (evB_range (HS.out op f d h).1 r3 r2).2.2; omega⟩⟩⟩
                case round =>
                  clear hb Bw hH
                  obtain ⟨dv, d1, d2, rfl, hb, Bw, hH⟩ := hrel
                  by_cases hd : dv ≤ 1
                  · obtain ⟨⟨x0, x1⟩, ro⟩ := HP.out wr Bw
                    have ke := specEventOk_any S (o : Int) (fv : Int) dv g n F T _ (ro.alloc (.cells #[.int .i64 (o : Int), .int .i64 (fv : Int), .int .i64 dv] 47))
                    have eE : evOk S n F T (o : Int) (fv : Int) dv = evB S n (o : Int) (fv : Int) dv := by unfold evOk; rw [hl]; simp
                    rw [eE] at ke
                    have bA := below_alloc (Below.refl wr.heap.size wr) (.cells #[.int .i64 (o : Int), .int .i64 (fv : Int), .int .i64 dv] 47)
                    have eA := Box3.lay wr (.int .i64 (o : Int)) (.int .i64 (fv : Int)) (.int .i64 dv) 47
                    have lw0 : w.heap.size < wr.heap.size := by have := Bw.size; have := hwr.out; omega
                    clear eE ro
                    cases hv : evB S n (o : Int) (fv : Int) dv with
                    | false =>
                      rw [hv] at ke
                      have hN : Hid (∀ op f d, M = some (op, f, d) → (o : Int) ≤ op ∧ (op = (o : Int) → (fv : Int) ≤ f ∧ (f = (fv : Int) → dv + 1 ≤ d))) := fun op f d h => by
                        have h3 := hH.out op f d h
                        refine ⟨h3.1, fun h4 => ⟨(h3.2 h4).1, fun h5 => ?_⟩⟩
                        have h6 := (h3.2 h4).2 h5
                        by_cases h7 : d = dv
                        · subst h7; subst h5; subst h4
                          have := (HS.out _ _ _ h).1
                          rw [hv] at this
                          cases this
                        · omega
                      clear hv hH
                      go_wp2_with fail
                      refine ke.mono ?_
                      clear ke
                      rintro e w4 ⟨rfl, b4⟩
                      have hb4 := hb.on (below_on bA b4)
                      have B4 := below_on Bw (below_on bA b4)
                      clear hb Bw bA b4 eA
                      go_wp2
                      exact ⟨⟨dv + 1, by omega, by omega, rfl, hb4, B4, hN⟩, by simp [intOf]; omega⟩
                    | true =>
                      rw [hv] at ke
                      have kl := fun W => l4line_any (o : Int) (fv : Int) dv (by omega) (by omega) (by omega) (by omega) (by omega) W
                      by_cases heq : lineB (o : Int) (fv : Int) dv = line
                      · have hMs := HB.out _ _ _ hv heq
                        subst hMs
                        rw [heq] at kl
                        clear hv hH heq HS HB
                        go_wp2_with fail
                        refine ke.mono ?_
                        clear ke
                        rintro e w4 ⟨rfl, b4⟩
                        obtain ⟨a0, a1, a2⟩ := (eA.on b4).cells
                        go_wp2_with fail
                        refine (kl _).mono ?_
                        clear kl
                        rintro e w5 ⟨rfl, b5⟩
                        have B5 := below_on bA (below_on b4 b5)
                        have hb5 := hb.on B5
                        obtain ⟨a0, a1, a2⟩ := ((eA.on b4).on b5).cells
                        obtain ⟨y0, y1, y2⟩ := hb5.cells
                        have z0 := Blk.frozen hb5 0
                        have z1 := Blk.frozen hb5 1
                        have z2 := Blk.frozen hb5 2
                        have hx2 := Box3.putv hb5 (.int .i64 (o : Int)) (.int .i64 (fv : Int)) (.int .i64 dv)
                        obtain ⟨m0, m1, m2⟩ := hx2.cells
                        have FIN := below_on bV (below_on Bw B5)
                        have F2 : Hid (Below w.heap.size w (((w5.setCell ⟨r, 0, none⟩ (.int .i64 (o : Int))).setCell ⟨r, 1, none⟩ (.int .i64 (fv : Int))).setCell ⟨r, 2, none⟩ (.int .i64 dv))) := ((FIN.setCell (Nat.le_of_lt hwr.out.1) _).setCell (Nat.le_of_lt hwr.out.1) _).setCell (Nat.le_of_lt hwr.out.1) _
                        have hne : ¬ wr.heap.size = r := by have := hwr.out; have := Bw.size; omega
                        clear hx2 hb5 hb Bw FIN bA b4 b5 B5 eA
                        go_wp2
                        exact bodyPost_ret (v := .tuple #[.agg #[.int .i64 (o : Int), .int .i64 (fv : Int), .int .i64 dv], .bool true]) (by simp [results, Tryz.results44, go_sem, m0, m1, m2]) rfl ⟨rfl, F2.out⟩
                      · have hN : Hid (∀ op f d, M = some (op, f, d) → (o : Int) ≤ op ∧ (op = (o : Int) → (fv : Int) ≤ f ∧ (f = (fv : Int) → dv + 1 ≤ d))) := fun op f d h => by
                          have h3 := hH.out op f d h
                          refine ⟨h3.1, fun h4 => ⟨(h3.2 h4).1, fun h5 => ?_⟩⟩
                          have h6 := (h3.2 h4).2 h5
                          by_cases h7 : d = dv
                          · subst h7; subst h5; subst h4
                            exact absurd (HS.out _ _ _ h).2 heq
                          · omega
                        obtain ⟨L, eL⟩ : ∃ L, lineB (o : Int) (fv : Int) dv = L := ⟨_, rfl⟩
                        rw [eL] at kl heq
                        have hq2 : (L == line) = false := by simpa using heq
                        clear hv hH heq eL
                        go_wp2_with fail
                        refine ke.mono ?_
                        clear ke
                        rintro e w4 ⟨rfl, b4⟩
                        obtain ⟨a0, a1, a2⟩ := (eA.on b4).cells
                        go_wp2_with fail
                        refine (kl _).mono ?_
                        clear kl
                        rintro e w5 ⟨rfl, b5⟩
                        have B5 := below_on bA (below_on b4 b5)
                        have hb5 := hb.on B5
                        have BB := below_on Bw B5
                        clear hb Bw bA b4 b5 B5 eA a0 a1 a2
                        go_wp2
                        exact ⟨⟨dv + 1, by omega, by omega, rfl, hb5, BB, hN⟩, by simp [intOf]; omega⟩
                  · have hN : Hid (∀ op f d, M = some (op, f, d) → (o : Int) ≤ op ∧ (op = (o : Int) → ((fv + 1 : Nat) : Int) ≤ f)) := fun op f d h => by
                      have h3 := hH.out op f d h
                      refine ⟨h3.1, fun h4 => ?_⟩
                      have h5 := h3.2 h4
                      by_cases h6 : f = (fv : Int)
                      · have := h5.2 h6
                        have := (evB_range (HS.out op f d h).1 r3 r2).2.2
                        omega
                      · omega
                    go_wp2
                    exact ⟨⟨fv + 1, by simp, hb, Bw, hN⟩, by simp [intOf]; omega⟩
              · have hf2 := hf
                rw [EM.out] at hf2
                have hN : Hid (∀ op f d, M = some (op, f, d) → ((o + 1 : Nat) : Int) ≤ op) := fun op f d h => by
                  have h3 := hH.out op f d h
                  by_cases h4 : op = (o : Int)
                  · have h5 := h3.2 h4
                    have h6 := evB_of (HS.out op f d h).1
                    omega
                  · omega
                go_wp2
                exact ⟨⟨o + 1, by omega, by omega, by simp, hb, Bw, hN⟩, by simp [intOf]; omega⟩
          · have hq : (line.take s1.length == s1) = false := by simpa using htk
            have hN : Hid (∀ op f d, M = some (op, f, d) → ((o + 1 : Nat) : Int) ≤ op) := fun op f d h => by
              have h3 := hH.out op f d h
              by_cases h4 : op = (o : Int)
              · subst h4
                exact absurd (hpre.out f d h).2 htk
              · omega
            clear hpre htk hH
            go_wp2
            exact ⟨⟨o + 1, by omega, by omega, by simp, hbW, bW, hN⟩, by simp [intOf]; omega⟩
      · have hi1 : ¬ (o : Int) ≤ 5 := by omega
        have hNone : M = none := by
          cases hM : M with
          | none => rfl
          | some e =>
            obtain ⟨op, f, d⟩ := e
            have h3 := hH.out op f d hM
            have := (evB_range (HS.out op f d hM).1 r3 r2).1
            omega
        subst hNone
        have FIN := below_on bV Bw
        obtain ⟨y0, y1, y2⟩ := hb.cells
        have z0 := Blk.frozen hb 0
        have z1 := Blk.frozen hb 1
        have z2 := Blk.frozen hb 2
        have hx2 := Box3.putv hb (.int .i64 0) (.int .i64 0) (.int .i64 0)
        obtain ⟨m0, m1, m2⟩ := hx2.cells
        have F2 : Hid (Below w.heap.size w (((wr.setCell ⟨r, 0, none⟩ (.int .i64 0)).setCell ⟨r, 1, none⟩ (.int .i64 0)).setCell ⟨r, 2, none⟩ (.int .i64 0))) := ((FIN.setCell (Nat.le_of_lt hwr.out.1) _).setCell (Nat.le_of_lt hwr.out.1) _).setCell (Nat.le_of_lt hwr.out.1) _
        clear hx2 hb Bw hH FIN
        go_wp2
        exact bodyPost_ret (v := .tuple #[.agg #[.int .i64 0, .int .i64 0, .int .i64 0], .bool false]) (by simp [results, Tryz.results44, go_sem, m0, m1, m2]) rfl ⟨rfl, F2.out⟩

end Go.Proofs.YtlpopfhaephfaaaGreatDoor

namespace Go.Proofs.YtlpopfhaephfaaaGreatDoor
open Go.RowKit

theorem drop_line {t : List UInt8} {a i : Nat} {c : UInt8} (h : a ≤ i) (hc : t[i]? = some c) : t.drop a = (t.drop a).take (i - a) ++ c :: t.drop (i + 1) := by
  have hi : i < t.length := (List.getElem?_eq_some_iff.1 hc).1
  have e1 : (t.drop a).drop (i - a) = c :: t.drop (i + 1) := by
    rw [List.drop_drop, show a + (i - a) = i by omega, List.drop_eq_getElem_cons hi]
    congr 1
    rw [List.getElem?_eq_getElem hi] at hc
    exact Option.some.inj hc
  rw [← e1, List.take_append_drop]

theorem take_snoc {t : List UInt8} {a i : Nat} {c : UInt8} (h : a ≤ i) (hc : t[i]? = some c) : (t.drop a).take (i + 1 - a) = (t.drop a).take (i - a) ++ [c] := by
  rw [show i + 1 - a = (i - a) + 1 by omega, List.take_add_one]
  congr 1
  rw [List.getElem?_drop, show a + (i - a) = i by omega, hc]
  rfl

set_option maxRecDepth 100000 in
set_option maxHeartbeats 4000000 in
theorem specRead_any (S : Int) (g n : Nat) (F T : Nat → Int) (t : List UInt8) (w : World) (hrow : CRow w g n F T) (hlen : t.length ≤ 1048576) :
    Calls Tryz.prog 26 #[.agg #[.int .i64 S, .slice (gA g) n (gC g)], .string ⟨t.toArray⟩] w fun e w' => ScP w w' (rdZ S n F T t) e := by
  obtain ⟨R, hR⟩ : ∃ R, rdZ S n F T t = R := ⟨_, rfl⟩
  rw [hR]
  have HR : Hid _ := hR
  clear hR
  obtain ⟨W0, eW⟩ : ∃ W0, (w.alloc (.cells #[.int .i64 S, .slice (gA g) n (gC g)] 25)).alloc (.cells #[.int .i64 0, .int .i64 0, .slice none 0 0] 31) = W0 := ⟨_, rfl⟩
  have bW : Below w.heap.size w W0 := by rw [← eW]; exact (by repeat (first | exact Below.refl _ _ | assumption | refine below_alloc ?_ _ | refine Below.setCell ?_ (by first | omega | (simp; done) | (simp; omega)) _ | refine Below.alloc ?_ (by first | omega | (simp; done) | (simp; omega)) _ | refine Below.drew ?_))
  have hP : ∀ W, Below W0.heap.size W0 W → (W.cell? ⟨w.heap.size, 0, none⟩ = some (.int .i64 S) ∧ W.cell? ⟨w.heap.size, 1, none⟩ = some (.slice (gA g) n (gC g))) ∧ CRow W g n F T := by
    have c0 : W0.cell? ⟨w.heap.size, 0, none⟩ = some (.int .i64 S) := by rw [← eW]; simp
    have c1 : W0.cell? ⟨w.heap.size, 1, none⟩ = some (.slice (gA g) n (gC g)) := by rw [← eW]; simp
    exact fun W hb => ⟨⟨by rw [hb.cell (block_lt_of_cell c0)]; exact c0, by rw [hb.cell (block_lt_of_cell c1)]; exact c1⟩, hrow.on (below_on bW hb)⟩
  obtain ⟨r, er⟩ : ∃ r, w.heap.size + 1 = r := ⟨_, rfl⟩
  have hW : Box3 W0 r 31 (.int .i64 0) (.int .i64 0) (.slice none 0 0) := by
    rw [← eW, ← er]
    have := Box3.lay (w.alloc (.cells #[.int .i64 S, .slice (gA g) n (gC g)] 25)) (.int .i64 0) (.int .i64 0) (.slice none 0 0) 31
    rwa [World.size_alloc] at this
  have hwr : Hid (w.heap.size ≤ r ∧ r < W0.heap.size) := ⟨by rw [← er]; exact Nat.le_succ _, Blk.lt hW⟩
  have kl := specLayoutOk_any S g n F T W0 (hrow.on bW)
  have EW : Hid _ := eW
  have ER : Hid _ := er
  have HP : Hid _ := hP
  clear eW er hP hrow
  by_cases hl : lokZ S n F T = 0
  · obtain ⟨r1, r2, r3⟩ := lok_range hl
    rw [hl] at kl
    go_enter Tryz.func26, Tryz.ntmps26
    go_upto_region 1 with fail
    rw [EW.out, ER.out]
    obtain ⟨⟨x0, x1⟩, _⟩ := HP.out W0 (Below.refl _ _)
    go_wp2_with fail
    refine kl.mono ?_
    clear kl
    rintro e w1 ⟨rfl, b1⟩
    have hx := hW.on b1
    have bw := below_on bW b1
    by_cases hlong : 20000 < t.length
    · have hi : (20000 : Int) < (t.length : Int) := by omega
      obtain rfl := (rdZ_long hl hlong).symm.trans HR.out
      obtain ⟨y0, y1, y2⟩ := hx.cells
      have z0 := Blk.frozen hx 0
      have z1 := Blk.frozen hx 1
      have z2 := Blk.frozen hx 2
      have FIN : Hid _ := read_end (V := w1) (a := 2) (b := 0) (sl := .slice none 0 0) (l := []) hx bw hwr.out.1 ⟨none, 0, rfl, .inl rfl⟩ rfl
      have hx2 := hx.put (.int .i64 2) (.int .i64 0) (.slice none 0 0)
      obtain ⟨m0, m1, m2⟩ := hx2.cells
      clear hW b1 bW bw hx hx2
      go_wp2
      exact bodyPost_ret (v := .agg #[.int .i64 2, .int .i64 0, .slice none 0 0]) (by simp [results, Tryz.results26, go_sem, m0, m1, m2]) rfl FIN.out
    · have hi : ¬ (20000 : Int) < (t.length : Int) := by omega
      obtain ⟨Z, eZ⟩ : ∃ Z, rdL S n (t.length + 1) t [] = Z := ⟨_, rfl⟩
      have hR3 := (rdZ_scan (t := t) hl (by omega)).symm.trans HR.out
      rw [eZ] at hR3
      have rd0 : Hid (RdTo S n t [] Z) := ⟨t.length + 1, Nat.lt_succ_self _, eZ⟩
      subst hR3
      obtain ⟨i0, hi0, hz0, hz1, hz2⟩ := info_parts Tryz.infoEv
      have HX : Hid (Below W0.heap.size W0 w1) := b1
      clear HR eZ hW bW b1 x0 x1
      go_wp2
      go_loopw [5, 6, 7, 8] (fun q5 q6 q7 q8 wr => ∃ (a i : Nat) (acc : List (Int × Int × Int)), q6 = .int .i64 (a : Int) ∧ q7 = .int .i64 (acc.length : Int) ∧ q8 = .int .i64 (i : Int) ∧ a ≤ i ∧ i ≤ t.length ∧ wr.ownsRow w1.heap.size 47 3 q5 acc.length (evC acc) ∧ Box3 wr r 31 (.int .i64 0) (.int .i64 0) (.slice none 0 0) ∧ Below w1.heap.size w1 wr ∧ Hid (RdTo S n (t.drop a) acc Z ∧ 10 ∉ (t.drop a).take (i - a) ∧ acc.length ≤ 2000)) (fun _ _ _ q8 _ => t.length - (intOf q8).toNat)
      case atStart => exact ⟨0, 0, [], rfl, rfl, rfl, Nat.le_refl _, Nat.zero_le _, World.ownsRow_nil _ _ _ _, hx, Below.refl _ _, ⟨by simpa using rd0.out, by simp, by simp⟩⟩
      case round =>
        clear hx rd0
        obtain ⟨a, i, acc, rfl, rfl, rfl, hai, hil, ow, hx, Bw, hH⟩ := hrel
        have hac : acc.length ≤ 2000 := hH.out.2.2
        by_cases hlt : i < t.length
        · have hi1 : (i : Int) < (t.length : Int) := by omega
          obtain ⟨c, hc⟩ : ∃ c, t[i]? = some c := ⟨t[i], List.getElem?_eq_getElem hlt⟩
          have hsz : i < (⟨t.toArray⟩ : ByteArray).size := by rw [str_size]; exact hlt
          have hg : (⟨t.toArray⟩ : ByteArray)[i]'hsz = c := by
            have h2 : t[i] = c := by rw [List.getElem?_eq_getElem hlt] at hc; exact Option.some.inj hc
            exact h2
          obtain ⟨y0, y1, y2⟩ := hx.cells
          by_cases hc10 : c = 10
          · subst hc10
            obtain ⟨hRd, hno, _⟩ := hH.out
            obtain ⟨p, hp⟩ : ∃ p, (t.drop a).take (i - a) = p := ⟨_, rfl⟩
            have hdl := drop_line hai hc
            rw [hp] at hno hdl
            rw [hdl] at hRd
            have hsl : (⟨t.toArray⟩ : ByteArray).extract a i = ⟨p.toArray⟩ := by
              rw [← hp]
              refine WideShapes.bytes_inj ?_
              rw [Lib.extract_data]
            have hq : (((10 : UInt8).toNat : Int) != 10) = false := by decide
            have hai1 : (a : Int) ≤ (i : Int) := by omega
            have hQ : ∀ W, Below wr.heap.size wr W → W.cell? ⟨w.heap.size, 0, none⟩ = some (.int .i64 S) ∧ W.cell? ⟨w.heap.size, 1, none⟩ = some (.slice (gA g) n (gC g)) := fun W hb => (HP.out W (below_on HX.out (below_on Bw hb))).1
            have HQ : Hid _ := hQ
            have ke := fun W (hb : Below wr.heap.size wr W) => l4event_any S g n F T p W (HP.out W (below_on HX.out (below_on Bw hb))).2 hl
            obtain ⟨M, hM⟩ : ∃ M, parB S n p = M := ⟨_, rfl⟩
            rw [hM] at ke
            obtain ⟨E0, E1, E2, ok, hlv, hME⟩ : ∃ (E0 E1 E2 : Int) (ok : Bool), leV M = .tuple #[.agg #[.int .i64 E0, .int .i64 E1, .int .i64 E2], .bool ok] ∧ ((ok = true ∧ M = some (E0, E1, E2)) ∨ (ok = false ∧ M = none)) := by
              cases M with
              | none => exact ⟨0, 0, 0, false, rfl, .inr ⟨rfl, rfl⟩⟩
              | some e => obtain ⟨x, y, z⟩ := e; exact ⟨x, y, z, true, rfl, .inl ⟨rfl, rfl⟩⟩
            rw [hlv] at ke
            have KE : Hid _ := ke
            clear hQ hp hc
            go_upto_region 13 with fail
            go_cut [9, 10] from 31 to 54 (fun v9 v10 wc => ∃ qe, v9 = .pointer (some ⟨qe, 0, none⟩) ∧ v10 = .bool ok ∧ wr.heap.size ≤ qe ∧ Box3 wc qe 47 (.int .i64 E0) (.int .i64 E1) (.int .i64 E2) ∧ Below wr.heap.size wr wc)
            case first =>
              have ke := KE.out
              refine wp_region_any (by kernel_rfl) ?_
              refine InC.any (C := fun W => Below wr.heap.size wr W) _ _ _ _ ?_
              have C0 : Below wr.heap.size wr wr.drew := (Below.refl _ _).drew
              refine InC.take (i := 0) (v := .agg #[.int .i64 S, .slice (gA g) n (gC g)]) rfl (by kernel_rfl) (by kernel_rfl) (by kernel_rfl) (fun _ _ _ h => h) C0 (Or.inl ⟨by rfl, ?_⟩) ?_
              · intro W hW
                obtain ⟨x0, x1⟩ := HQ.out W hW
                go_simp
              refine InC.take (i := 1) (v := .string ⟨t.toArray⟩) rfl (by kernel_rfl) (by kernel_rfl) (by kernel_rfl) (fun _ _ _ h => h) C0 (Or.inl ⟨by rfl, ?_⟩) ?_
              · intro W hW
                go_simp
              refine InC.take (i := 2) (v := .int .i64 (a : Int)) rfl (by kernel_rfl) (by kernel_rfl) (by kernel_rfl) (fun _ _ _ h => h) C0 (Or.inl ⟨by rfl, ?_⟩) ?_
              · intro W hW
                go_simp
              refine InC.take (i := 3) (v := .int .i64 (i : Int)) rfl (by kernel_rfl) (by kernel_rfl) (by kernel_rfl) (fun _ _ _ h => h) C0 (Or.inl ⟨by rfl, ?_⟩) ?_
              · intro W hW
                go_simp
              refine InC.take (i := 4) (v := .string ⟨p.toArray⟩) rfl (by kernel_rfl) (by kernel_rfl) (by kernel_rfl) (fun _ _ _ h => h) C0 (Or.inl ⟨by rfl, ?_⟩) ?_
              · intro W hW
                go_simp
              have CA : Below wr.heap.size wr (wr.alloc (.cells #[.int .i64 0, .int .i64 0, .int .i64 0] 47)).drew := (below_alloc (Below.refl _ _) _).drew
              have qA : Box3 (wr.alloc (.cells #[.int .i64 0, .int .i64 0, .int .i64 0] 47)).drew wr.heap.size 47 (.int .i64 0) (.int .i64 0) (.int .i64 0) := Box3.lay _ _ _ _ _
              refine InC.next2 (i := 5) (j := 9) (by kernel_rfl) (InC.one rfl fun K hK => ?_) (InC.one rfl fun K hK => ?_)
              · go_simp
                refine (ke _ C0).mono ?_
                rintro e w6 ⟨rfl, b6⟩
                have CB := below_on C0 b6
                refine hK _ _ CB ?_
                clear hK K
                refine InC.take (i := 6) (v := .tuple #[.agg #[.int .i64 E0, .int .i64 E1, .int .i64 E2], .bool ok]) rfl (by kernel_rfl) (by kernel_rfl) (by kernel_rfl) (fun _ _ _ h => h) CB (Or.inl ⟨by rfl, ?_⟩) ?_
                · intro W hW
                  go_simp
                refine InC.take (i := 7) (v := .agg #[.int .i64 E0, .int .i64 E1, .int .i64 E2]) rfl (by kernel_rfl) (by kernel_rfl) (by kernel_rfl) (fun _ _ _ h => h) CB (Or.inl ⟨by rfl, ?_⟩) ?_
                · intro W hW
                  go_simp
                refine InC.take (i := 8) (v := .bool ok) rfl (by kernel_rfl) (by kernel_rfl) (by kernel_rfl) (fun _ _ _ h => h) CB (Or.inl ⟨by rfl, ?_⟩) ?_
                · intro W hW
                  go_simp
                refine InC.next1 (i := 9) (by kernel_rfl) (InC.one rfl fun K hK => ?_)
                go_simp
                refine hK _ _ (below_alloc CB _) ?_
                clear hK K
                refine InC.next1 (i := 10) (by kernel_rfl) (InC.one rfl fun K hK => ?_)
                go_simp
                refine hK _ _ (below_alloc CB _) ?_
                clear hK K
                refine InC.next1 (i := 11) (by kernel_rfl) (InC.one rfl fun K hK => ?_)
                go_simp
                refine hK _ _ (below_alloc CB _) ?_
                clear hK K
                refine InC.done (by kernel_rfl) ?_
                go_wp2_with fail
                go_meet
                case rel => exact ⟨_, rfl, rfl, CB.size, Box3.lay _ _ _ _ _, below_alloc CB _⟩
              · skip
                go_simp
                refine hK _ _ CA ?_
                clear hK K
                refine InC.next1 (i := 5) (by kernel_rfl) (InC.one rfl fun K hK => ?_)
                go_simp
                refine (ke _ CA).mono ?_
                rintro e w6 ⟨rfl, b6⟩
                have CB := below_on CA b6
                have q6 := qA.on b6
                obtain ⟨e0, e1, e2⟩ := q6.cells
                have f0 := Blk.frozen q6 0
                have f1 := Blk.frozen q6 1
                have f2 := Blk.frozen q6 2
                refine hK _ _ CB ?_
                clear hK K
                refine InC.take (i := 6) (v := .tuple #[.agg #[.int .i64 E0, .int .i64 E1, .int .i64 E2], .bool ok]) rfl (by kernel_rfl) (by kernel_rfl) (by kernel_rfl) (fun _ _ _ h => h) CB (Or.inl ⟨by rfl, ?_⟩) ?_
                · intro W hW
                  go_simp
                refine InC.take (i := 7) (v := .agg #[.int .i64 E0, .int .i64 E1, .int .i64 E2]) rfl (by kernel_rfl) (by kernel_rfl) (by kernel_rfl) (fun _ _ _ h => h) CB (Or.inl ⟨by rfl, ?_⟩) ?_
                · intro W hW
                  go_simp
                refine InC.take (i := 8) (v := .bool ok) rfl (by kernel_rfl) (by kernel_rfl) (by kernel_rfl) (fun _ _ _ h => h) CB (Or.inl ⟨by rfl, ?_⟩) ?_
                · intro W hW
                  go_simp
                refine InC.next1 (i := 10) (by kernel_rfl) (InC.one rfl fun K hK => ?_)
                go_simp
                have CE : Below wr.heap.size wr (((w6.setCell ⟨wr.heap.size, 0, none⟩ (.int .i64 E0)).setCell ⟨wr.heap.size, 1, none⟩ (.int .i64 E1)).setCell ⟨wr.heap.size, 2, none⟩ (.int .i64 E2)) := ((CB.setCell (Nat.le_refl _) _).setCell (Nat.le_refl _) _).setCell (Nat.le_refl _) _
                refine hK _ _ CE ?_
                clear hK K
                refine InC.next1 (i := 11) (by kernel_rfl) (InC.one rfl fun K hK => ?_)
                go_simp
                refine hK _ _ CE ?_
                clear hK K
                refine InC.done (by kernel_rfl) ?_
                go_wp2_with fail
                go_meet
                case rel => exact ⟨_, rfl, rfl, Nat.le_refl _, q6.put _ _ _, CE⟩
            case rest =>
              obtain ⟨qe, rfl, rfl, hqe, bq, bwc⟩ := hcut
              rename World => wc
              have hx2 := hx.on bwc
              have ow2 := own_on ow bwc
              have B2 := below_on Bw bwc
              have bF := below_on bw B2
              obtain ⟨y0, y1, y2⟩ := hx2.cells
              have z0 := Blk.frozen hx2 0
              have z1 := Blk.frozen hx2 1
              have z2 := Blk.frozen hx2 2
              obtain ⟨e0, e1, e2⟩ := bq.cells
              obtain ⟨ao, cap, esl⟩ : ∃ ao cap, u5 = .slice ao acc.length cap := by
                rcases ow.2 with ⟨hv, h0⟩ | ⟨g, cap, cur, hv, _⟩
                · exact ⟨_, _, by rw [h0]; exact hv⟩
                · exact ⟨_, _, hv⟩
              subst esl
              by_cases hbad : ok = false ∨ acc.length = 2000
              · have hZ : Z = .inl (acc.length + 1) := by
                  rcases hME with ⟨h1, h2⟩ | ⟨h1, h2⟩
                  · rcases hbad with h3 | h3
                    · rw [h1] at h3; cases h3
                    · exact hRd.many (by simp) (by omega)
                  · exact hRd.bad hno (hM.trans h2)
                subst hZ
                have FIN : Hid (ScP _ _ _ _) := read_end (V := wc) (a := 3) (b := acc.length + 1) (sl := .slice none 0 0) (l := []) hx2 bF hwr.out.1 ⟨none, 0, rfl, .inl rfl⟩ rfl
                have hx3 := hx2.put (.int .i64 3) (.int .i64 ((acc.length + 1 : Nat) : Int)) (.slice none 0 0)
                obtain ⟨m0, m1, m2⟩ := hx3.cells
                have ec : ((acc.length + 1 : Nat) : Int) = (acc.length : Int) + 1 := by simp
                rw [ec] at m0 m1 m2
                have F2 := FIN.out
                rw [ec] at F2
                have F3 : Hid (ScP _ _ _ _) := F2
                rcases (show ok = false ∨ (ok = true ∧ (acc.length : Int) = 2000) by cases ok <;> simp at hbad ⊢ <;> omega) with rfl | ⟨rfl, h2000⟩
                · clear FIN F2 hx hx2 hx3 ow ow2 Bw B2 bF bwc bq hRd hME KE HQ hbad
                  go_wp2
                  exact bodyPost_ret (v := .agg #[.int .i64 3, .int .i64 ((acc.length : Int) + 1), .slice none 0 0]) (by simp [results, Tryz.results26, go_sem, m0, m1, m2]) rfl F3.out
                · have hq2 : ((acc.length : Int) == 2000) = true := by simpa using h2000
                  clear FIN F2 hx hx2 hx3 ow ow2 Bw B2 bF bwc bq hRd hME KE HQ hbad h2000
                  go_wp2
                  exact bodyPost_ret (v := .agg #[.int .i64 3, .int .i64 ((acc.length : Int) + 1), .slice none 0 0]) (by simp [results, Tryz.results26, go_sem, m0, m1, m2]) rfl F3.out
              · obtain ⟨rfl, hMs⟩ : ok = true ∧ M = some (E0, E1, E2) := by
                  rcases hME with h | ⟨h1, _⟩
                  · exact h
                  · exact absurd (.inl h1) hbad
                have hne : ¬ (acc.length : Int) = 2000 := by
                  intro h
                  exact hbad (.inr (by omega))
                have hq2 : ((acc.length : Int) == 2000) = false := by simpa using hne
                have hR2 := hRd.step hno (hM.trans hMs) (by omega)
                have HN : Hid (RdTo S n (t.drop (i + 1)) (acc ++ [(E0, E1, E2)]) Z ∧ 10 ∉ (t.drop (i + 1)).take (i + 1 - (i + 1)) ∧ (acc ++ [(E0, E1, E2)]).length ≤ 2000) := ⟨hR2, by simp, by simp; omega⟩
                have EL : Hid (((acc ++ [(E0, E1, E2)]).length : Int) = (acc.length : Int) + 1 ∧ (acc ++ [(E0, E1, E2)]).length = acc.length + 1) := ⟨by simp, by simp⟩
                have hbA := below_alloc (Below.refl wc.heap.size wc) (.cells #[.int .i64 E0, .int .i64 E1, .int .i64 E2] 47)
                have nb := Box3.lay wc (.int .i64 E0) (.int .i64 E1) (.int .i64 E2) 47
                obtain ⟨n0, n1, n2⟩ := nb.cells
                have z5 : w1.heap.size ≤ wc.heap.size := B2.size
                clear hRd hR2 hME hbad hne KE HQ hx ow Bw bF bwc bq
                go_wp2_with (at_builtin; refine wpList_append_own _ rfl _ _ 26 rfl w1.heap.size 47 i0 (.agg #[.int .i64 0, .int .i64 0, .int .i64 0]) 3 24 Tryz.underlying26 hi0 hz0 hz1 hz2 rfl (by decide) _ _ _ rfl (own_on ow2 hbA) ⟨wc.heap.size, 0, none⟩ 1 1 [.int .i64 E0, .int .i64 E1, .int .i64 E2] rfl rfl ?c1 ?c2 ?c3 ?c4 ?c5 ?_)
                case c1 =>
                  intro j u hj
                  match j, hj with
                  | 0, hj => simp at hj; subst hj; exact n0
                  | 1, hj => simp at hj; subst hj; exact n1
                  | 2, hj => simp at hj; subst hj; exact n2
                case c2 =>
                  intro u hu
                  simp at hu
                  rcases hu with rfl | rfl | rfl <;> rfl
                case c3 => unfold maxLen; omega
                case c4 => omega
                case c5 => exact Nat.le_trans z5 hbA.size
                intro v' w7 hown' hgrow _
                have bb7 : Below w1.heap.size (wc.alloc (.cells #[.int .i64 E0, .int .i64 E1, .int .i64 E2] 47)) w7 := (Below.refl _ _).grown hgrow (Nat.le_trans z5 hbA.size) (fun x hx => (ow2.lt x hx).1)
                have hx7 : Box3 w7 r 31 (.int .i64 0) (.int .i64 0) (.slice none 0 0) := Blk.below (hx2.on hbA) bb7 (by have := hwr.out.2; have := HX.out.size; omega)
                have B7 : Below w1.heap.size w1 w7 := (below_on B2 hbA).trans bb7
                rw [← evC_snoc] at hown'
                clear hgrow bb7 hbA nb n0 n1 n2 hx2 ow2 B2 y0 y1 y2 z0 z1 z2 e0 e1 e2
                go_wp2
                exact ⟨⟨i + 1, i + 1, acc ++ [(E0, E1, E2)], by simp, by rw [EL.out.1], by simp, Nat.le_refl _, hlt, by rw [EL.out.2]; exact hown', hx7, B7, HN⟩, by simp [intOf]; omega⟩
          · have hq : ((c.toNat : Int) != 10) = true := by
              have : c.toNat ≠ 10 := fun h => hc10 (UInt8.toNat_inj.1 (by rw [h]; rfl))
              simp; omega
            have hN : Hid (RdTo S n (t.drop a) acc Z ∧ 10 ∉ (t.drop a).take (i + 1 - a) ∧ acc.length ≤ 2000) := ⟨hH.out.1, by rw [take_snoc hai hc]; simp only [List.mem_append, List.mem_singleton, not_or]; exact ⟨hH.out.2.1, fun h => hc10 h.symm⟩, hac⟩
            go_wp2
            exact ⟨⟨a, i + 1, acc, rfl, rfl, by simp, by omega, hlt, ow, hx, Bw, hN⟩, by simp [intOf]; omega⟩
        · have hi1 : ¬ (i : Int) < (t.length : Int) := by omega
          obtain rfl : i = t.length := by omega
          obtain ⟨hRd, hno, _⟩ := hH.out
          have bF := below_on bw Bw
          obtain ⟨y0, y1, y2⟩ := hx.cells
          have z0 := Blk.frozen hx 0
          have z1 := Blk.frozen hx 1
          have z2 := Blk.frozen hx 2
          by_cases hat : a < t.length
          · have hi2 : (a : Int) < (t.length : Int) := by omega
            have hno2 : 10 ∉ t.drop a := by rwa [List.take_of_length_le (by simp)] at hno
            have hZ := hRd.open (by intro h; have := congrArg List.length h; simp at this; omega) hno2
            subst hZ
            have FIN : Hid (ScP _ _ _ _) := read_end (V := wr) (a := 3) (b := acc.length + 1) (sl := .slice none 0 0) (l := []) hx bF hwr.out.1 ⟨none, 0, rfl, .inl rfl⟩ rfl
            have hx3 := hx.put (.int .i64 3) (.int .i64 ((acc.length + 1 : Nat) : Int)) (.slice none 0 0)
            obtain ⟨m0, m1, m2⟩ := hx3.cells
            have ec : ((acc.length + 1 : Nat) : Int) = (acc.length : Int) + 1 := by simp
            rw [ec] at m0 m1 m2
            have F2 := FIN.out
            rw [ec] at F2
            have F3 : Hid (ScP _ _ _ _) := F2
            clear FIN F2 hx hx3 ow Bw bF hRd hno hno2 hH
            go_wp2
            exact bodyPost_ret (v := .agg #[.int .i64 3, .int .i64 ((acc.length : Int) + 1), .slice none 0 0]) (by simp [results, Tryz.results26, go_sem, m0, m1, m2]) rfl F3.out
          · have hi2 : ¬ (a : Int) < (t.length : Int) := by omega
            have hdr : t.drop a = [] := by rw [List.drop_eq_nil_iff]; omega
            rw [hdr] at hRd
            have hZ := hRd.nil
            subst hZ
            obtain ⟨ao, cap, esl⟩ : ∃ ao cap, u5 = .slice ao acc.length cap := by
              rcases ow.2 with ⟨hv, h0⟩ | ⟨g, cap, cur, hv, _⟩
              · exact ⟨_, _, by rw [h0]; exact hv⟩
              · exact ⟨_, _, hv⟩
            subst esl
            have FIN : Hid (ScP _ _ _ _) := read_end (V := wr) (a := 0) (b := 0) (l := acc) hx bF hwr.out.1 ((SlF.of_ownsRow ow (fun i hi j hj => evC_at acc i hi j hj)).wide bw.size (Nat.le_refl _)) rfl
            have hx3 := hx.put (.int .i64 0) (.int .i64 0) (.slice ao acc.length cap)
            obtain ⟨m0, m1, m2⟩ := hx3.cells
            clear hx hx3 ow Bw bF hRd hno hH
            go_wp2
            exact bodyPost_ret (v := .agg #[.int .i64 0, .int .i64 0, .slice ao acc.length cap]) (by simp [results, Tryz.results26, go_sem, m0, m1, m2]) rfl FIN.out
  · obtain rfl := (rdZ_lay hl).symm.trans HR.out
    clear HR
    obtain ⟨c, hc⟩ : ∃ c, lokZ S n F T = c := ⟨_, rfl⟩
    rw [hc] at kl hl
    clear hc
    go_enter Tryz.func26, Tryz.ntmps26
    go_upto_region 1 with fail
    rw [EW.out, ER.out]
    obtain ⟨⟨x0, x1⟩, _⟩ := HP.out W0 (Below.refl _ _)
    go_wp2_with fail
    refine kl.mono ?_
    clear kl
    rintro e w1 ⟨rfl, b1⟩
    have hx := hW.on b1
    have bw := below_on bW b1
    obtain ⟨y0, y1, y2⟩ := hx.cells
    have z0 := Blk.frozen hx 0
    have z1 := Blk.frozen hx 1
    have z2 := Blk.frozen hx 2
    have FIN : Hid _ := read_end (V := w1) (a := 1) (b := 0) (sl := .slice none 0 0) (l := []) hx bw hwr.out.1 ⟨none, 0, rfl, .inl rfl⟩ rfl
    have hx2 := hx.put (.int .i64 1) (.int .i64 0) (.slice none 0 0)
    obtain ⟨m0, m1, m2⟩ := hx2.cells
    clear hW b1 bW bw hx hx2
    go_wp2
    exact bodyPost_ret (v := .agg #[.int .i64 1, .int .i64 0, .slice none 0 0]) (by simp [results, Tryz.results26, go_sem, m0, m1, m2]) rfl FIN.out

end Go.Proofs.YtlpopfhaephfaaaGreatDoor
