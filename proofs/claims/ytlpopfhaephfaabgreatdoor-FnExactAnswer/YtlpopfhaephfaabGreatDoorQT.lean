import Derived.Defers
import Derived.Recover
import Derived.Test.YtlpopfhaephfaabGreatDoorQS
import Derived.Maps.AppendAt
import Derived.Test.YtlpopfhaephfaabGreatDoorTS4
import Derived.Test.YtlpopfhaephfaabGreatDoorRN4
import Derived.Test.YtlpopfhaephfaabGreatDoorRE1
namespace Go.Proofs.YtlpopfhaephfaabGreatDoor
open Go.RowKit Go.Maps

theorem Box3.but {w w' : World} {b c : Nat} {e : TypeId} {x y z : Value} (h : Box3 w c e x y z) (hb : w.grownBy w' (some b)) (hc : c ≠ b) : Box3 w' c e x y z :=
  Blk.of_block h (hb.block c (Blk.lt h) (fun e => hc (by injection e)))

theorem Box3.put {w : World} {b : Nat} {e : TypeId} {x y z : Value} (h : Box3 w b e x y z) (x' y' z' : Value) : Box3 (((w.setCell ⟨b, 0, none⟩ x').setCell ⟨b, 1, none⟩ y').setCell ⟨b, 2, none⟩ z') b e x' y' z' :=
  (((Blk.set h 0 x').set 1 y').set 2 z').congr fun i hi => by
    match i, hi with
    | 0, _ => rfl
    | 1, _ => rfl
    | 2, _ => rfl

set_option maxRecDepth 100000 in
/-- The deferred function behind a line that is none. -/
theorem catch_bad (h : Nat) (k : Int) (x y z : Value) (older : List PanicEntry) (w : World) (hb : Box3 w h 36 x y z) :
    CallsD Tryz.prog 45 #[.pointer (some ⟨h, 0, none⟩)] (.panicking ({ v := badV k, recovered := false } :: older)) w fun e u' w' =>
      e = .returned (.tuple #[]) ∧ u' = .panicking ({ v := badV k, recovered := true } :: older) ∧ Box3 w' h 36 (.int .i64 3) (.int .i64 k) (.slice none 0 0) ∧ w.grownBy w' (some h) := by
  unfold badV
  have hta : ∀ W : World, (Instr.typeAssert (.iface 94 (.agg #[.int .i64 k])) 20 94 true).run Tryz.prog W = .ok (.tuple #[.agg #[.int .i64 k], .bool true]) W := fun _ => by kernel_rfl
  have hlt : h < w.heap.size := Blk.lt hb
  have hne : ¬ h = w.heap.size := by omega
  obtain ⟨c0, c1, c2⟩ := hb.cells
  have z0 := Blk.frozen hb 0
  have z1 := Blk.frozen hb 1
  have z2 := Blk.frozen hb 2
  have b1 : Box3 ((((w.setCell ⟨h, 0, none⟩ (.int .i64 3)).setCell ⟨h, 1, none⟩ (.int .i64 k)).setCell ⟨h, 2, none⟩ (.slice none 0 0)).alloc (.cells #[.int .i64 k] 94)) h 36 (.int .i64 3) (.int .i64 k) (.slice none 0 0) := (hb.put _ _ _).alloc _
  have g1 : w.grownBy ((((w.setCell ⟨h, 0, none⟩ (.int .i64 3)).setCell ⟨h, 1, none⟩ (.int .i64 k)).setCell ⟨h, 2, none⟩ (.slice none 0 0)).alloc (.cells #[.int .i64 k] 94)) (some h) :=
    but_on (but_trans (but_trans (but_set w h 0 _) (but_set _ h 1 _)) (but_set _ h 2 _)) (below_alloc (Below.refl _ _) _)
  refine callsD_of_wpS Tryz.func45 rfl fun c₀ cs hu => ?_
  apply wpS_seq
  apply wpS_region
  simp [wpOpsS, go_sem, recoverD, hu, Tryz.ntmps45, Exit.thenS, Array.replicate, List.replicate]
  refine wpS_of_wp ?_
  generalize hQ : (fun (e : Exit) (a' : Act) (w' : World) => bodyPostS Tryz.prog Tryz.f45 c₀ cs _ e a' _ w') = Q'
  go_wp2
  subst hQ
  exact ⟨rfl, _, rfl, .tuple #[], by simp [results, Tryz.results45], rfl, rfl, b1, g1⟩

set_option maxRecDepth 100000 in
/-- The deferred function behind a text that was gone through. -/
theorem catch_idle (h : Nat) (w : World) :
    CallsD Tryz.prog 45 #[.pointer (some ⟨h, 0, none⟩)] .returning w fun e u' w' => e = .returned (.tuple #[]) ∧ u' = .returning ∧ Below w.heap.size w w' := by
  have hta : ∀ W : World, (Instr.typeAssert .nilIface 20 94 true).run Tryz.prog W = .ok (.tuple #[.agg #[.int .i64 0], .bool false]) W := fun _ => by kernel_rfl
  have b1 : Below w.heap.size w (w.alloc (.cells #[.int .i64 0] 94)) := below_alloc (Below.refl _ _) _
  refine callsD_of_wpS Tryz.func45 rfl fun c₀ cs hu => ?_
  apply wpS_seq
  apply wpS_region
  simp [wpOpsS, go_sem, recoverD, hu, Tryz.ntmps45, Exit.thenS, Array.replicate, List.replicate]
  refine wpS_of_wp ?_
  generalize hQ : (fun (e : Exit) (a' : Act) (w' : World) => bodyPostS Tryz.prog Tryz.f45 c₀ cs _ e a' _ w') = Q'
  go_wp2
  subst hQ
  exact ⟨rfl, .returning, by cases c₀; simp at hu; subst hu; rfl, .tuple #[], by simp [results, Tryz.results45], rfl, rfl, b1⟩

end Go.Proofs.YtlpopfhaephfaabGreatDoor

namespace Go.Proofs.YtlpopfhaephfaabGreatDoor
open Go.RowKit Go.Maps

section
variable {P : Program}
/-- A frame that is left looks at its results alone. -/
theorem leaves_same {fn : Func} {tmps tmps' : Array Value} {R : Ending → World → Prop} (h : ∀ w, (results fn tmps').run P w = (results fn tmps).run P w) :
    ∀ (ds : List Deferred) (u : FrameMode) (w : World), Leaves P fn tmps R ds u w → Leaves P fn tmps' R ds u w
  | [], .returning, w, k => by
    obtain ⟨v, h1, h2⟩ := k
    exact ⟨v, (h w).trans h1, h2⟩
  | [], .panicking _, _, k => k
  | [], .run, _, k => k
  | d :: ds, u, w, k => by
    obtain ⟨hu, fv, cap, f, args, h1, h2, h3⟩ := k
    refine ⟨hu, fv, cap, f, args, h1, h2, h3.mono fun e u' w' k => ?_⟩
    match e, k with
    | .returned _, k => exact leaves_same h ds _ _ k
    | .panicked _, k => exact leaves_same h ds _ _ k
    | .outgrown, k => exact k
end

/-- The events' cells. -/
def evC (l : List (Int × Int × Int)) : List Value := l.flatMap fun e => [.int .i64 e.1, .int .i64 e.2.1, .int .i64 e.2.2]

theorem evC_at : ∀ (l : List (Int × Int × Int)) (i : Nat), i < l.length → ∀ j, j < 3 → (evC l)[i * 3 + j]? = some (evs (evL l) i j)
  | [], i, hi, _, _ => by simp at hi
  | (a, b, c) :: r, 0, _, j, hj => by
    match j, hj with
    | 0, _ => rfl
    | 1, _ => rfl
    | 2, _ => rfl
  | (a, b, c) :: r, i + 1, hi, j, hj => by
    have := evC_at r i (by simpa using hi) j hj
    have e1 : evC ((a, b, c) :: r) = [.int .i64 a, .int .i64 b, .int .i64 c] ++ evC r := rfl
    rw [e1, List.getElem?_append_right (by simp; omega)]
    rw [show (i + 1) * 3 + j - [Value.int .i64 a, .int .i64 b, .int .i64 c].length = i * 3 + j by simp; omega, this]
    rfl

theorem evC_snoc (l : List (Int × Int × Int)) (a b c : Int) : evC (l ++ [(a, b, c)]) = evC l ++ [.int .i64 a, .int .i64 b, .int .i64 c] := by
  simp [evC]

theorem res41 (a : Act) (i : Nat) (hi : i ≠ 4) (v : Value) (w : World) : (results Tryz.f28 a.tmps).run Tryz.prog w = (results Tryz.f28 (a.put (some i) v).tmps).run Tryz.prog w := by
  simp [results, Tryz.results28, Act.put, hi]

theorem Sc.new (w : World) (S : Int) (g n mo md : Nat) (t : List UInt8) (k : Int) : Sc (w.alloc (.cells #[.int .i64 S, .slice (some ⟨g, 0, none⟩) n n, .map (some mo), .map (some md), .string ⟨t.toArray⟩, .int .i64 k] 99)) w.heap.size S g n mo md t k :=
  Blk.new w #[.int .i64 S, .slice (some ⟨g, 0, none⟩) n n, .map (some mo), .map (some md), .string ⟨t.toArray⟩, .int .i64 k] _ _ (fun i hi => by simp at hi; match i, hi with | 0, _ => rfl | 1, _ => rfl | 2, _ => rfl | 3, _ => rfl | 4, _ => rfl | 5, _ => rfl)

/-- A scanner's cells before they are laid. -/
def zer6 : Nat → Value
  | 0 => .int .i64 0
  | 1 => .slice none 0 0
  | 2 => .map none
  | 3 => .map none
  | 4 => .string ⟨#[]⟩
  | _ => .int .i64 0

theorem zero6 (w : World) : Blk (w.alloc (.cells #[.int .i64 0, .slice none 0 0, .map none, .map none, .string ⟨#[]⟩, .int .i64 0] 99)) w.heap.size 99 6 zer6 :=
  Blk.new w #[.int .i64 0, .slice none 0 0, .map none, .map none, .string ⟨#[]⟩, .int .i64 0] _ _ (fun i hi => by simp at hi; match i, hi with | 0, _ => rfl | 1, _ => rfl | 2, _ => rfl | 3, _ => rfl | 4, _ => rfl | 5, _ => rfl)

def set6 (w : World) (b : Nat) (v0 v1 v2 v3 v4 v5 : Value) : World := (((((w.setCell ⟨b, 0, none⟩ v0).setCell ⟨b, 1, none⟩ v1).setCell ⟨b, 2, none⟩ v2).setCell ⟨b, 3, none⟩ v3).setCell ⟨b, 4, none⟩ v4).setCell ⟨b, 5, none⟩ v5

theorem below_set6 {B b : Nat} {a w : World} (h : Below B a w) (hb : B ≤ b) (v0 v1 v2 v3 v4 v5 : Value) : Below B a (set6 w b v0 v1 v2 v3 v4 v5) :=
  (((((h.setCell hb v0).setCell hb v1).setCell hb v2).setCell hb v3).setCell hb v4).setCell hb v5

theorem sc_set6 {w : World} {b : Nat} {f : Nat → Value} (h : Blk w b 99 6 f) (S : Int) (g n mo md : Nat) (t : List UInt8) (k : Int) : Sc (set6 w b (.int .i64 S) (.slice (some ⟨g, 0, none⟩) n n) (.map (some mo)) (.map (some md)) (.string ⟨t.toArray⟩) (.int .i64 k)) b S g n mo md t k :=
  ((((((Blk.set h 0 _).set 1 _).set 2 _).set 3 _).set 4 _).set 5 _).congr fun i hi => by
    match i, hi with
    | 0, _ => rfl
    | 1, _ => rfl
    | 2, _ => rfl
    | 3, _ => rfl
    | 4, _ => rfl
    | 5, _ => rfl

theorem knows_set {w : World} {b c i : Nat} {f : List UInt8 → Option Int} {v : Value} (h : Knows w c f) (hc : c ≠ b) : Knows (w.setCell ⟨b, i, none⟩ v) c f := by
  obtain ⟨n, D, hn, ho, h2⟩ := h
  exact ⟨n, D, hn, ho.setCell (a := ⟨b, i, none⟩) hc v, h2⟩

theorem knows_set6 {w : World} {b c : Nat} {f : List UInt8 → Option Int} (h : Knows w c f) (hc : c ≠ b) (v0 v1 v2 v3 v4 v5 : Value) : Knows (set6 w b v0 v1 v2 v3 v4 v5) c f :=
  knows_set (knows_set (knows_set (knows_set (knows_set (knows_set h hc) hc) hc) hc) hc) hc

/-- What was heard, as a value: its events lie between lo and hi. -/
def HdF (w' : World) (lo hi : Nat) (v : Value) (r : Int × Nat × List (Int × Int × Int)) : Prop :=
  ∃ sl, v = .agg #[.int .i64 r.1, .int .i64 (r.2.1 : Int), sl] ∧ SlF w' 64 3 lo hi sl r.2.2.length (evs (evL r.2.2))

def rdO (Z : Nat ⊕ List (Int × Int × Int)) : Int × Nat × List (Int × Int × Int) :=
  match Z with
  | .inl k => (3, k, [])
  | .inr l => (0, 0, l)

def ScP (w w' : World) (r : Int × Nat × List (Int × Int × Int)) (e : Ending) : Prop := ∃ v, e = .returned v ∧ HdF w' w.heap.size w'.heap.size v r ∧ Below w.heap.size w w'

/-- How much of the text is left, as the heap has it. -/
def restN (w : World) (b : Nat) : Nat :=
  match w.cell? ⟨b, 4, none⟩ with
  | some (.string s) => s.size
  | _ => 0

theorem restN_of {w : World} {b : Nat} {S : Int} {g n mo md : Nat} {rest : List UInt8} {k : Int} (h : Sc w b S g n mo md rest k) : restN w b = rest.length := by
  unfold restN
  rw [h.cells.2.2.1]
  exact str_size rest

theorem own_but {w w' : World} {B e sz k b : Nat} {v : Value} {xs : List Value} (h : w.ownsRow B e sz v k xs) (hb : w.grownBy w' (some b)) (hlt : b < B) : w'.ownsRow B e sz v k xs := by
  refine ⟨h.1, ?_⟩
  rcases h.2 with hn | ⟨g, cap, cur, hv, hbg, hg, r⟩
  · exact .inl hn
  · exact .inr ⟨g, cap, cur, hv, hbg, (hb.block g (Array.getElem?_eq_some_iff.1 hg).1 (fun e => by injection e with e; omega)).trans hg, r⟩

theorem Knows.ne {w : World} {b c : Nat} {e : TypeId} {m : Nat} {f : List UInt8 → Option Int} {k : Nat → Value} (h : Knows w c f) (hb : Blk w b e m k) : c ≠ b := by
  rintro rfl
  obtain ⟨_, _, _, ⟨es, clock, h1, _⟩, _⟩ := h
  obtain ⟨_, h2, _⟩ := hb
  rw [h1] at h2
  cases h2

theorem Knows.below {w w' : World} {b B : Nat} {f : List UInt8 → Option Int} (h : Knows w b f) (hb : Below B w w') (hl : b < B) : Knows w' b f := by
  obtain ⟨n, D, hn, ho, h2⟩ := h
  obtain ⟨es, clock, h3, h4⟩ := ho
  exact ⟨n, D, hn, ⟨es, clock, (hb.block b hl).trans h3, h4⟩, h2⟩

theorem below_but {w w1 w2 : World} {b : Nat} (h : Below w.heap.size w w1) (k : w1.grownBy w2 (some b)) (hb : w.heap.size ≤ b) : Below w.heap.size w w2 :=
  ⟨k.os.trans h.os, k.tape.trans h.tape, k.output.trans h.output, Nat.le_trans h.size k.size, fun i hi => (k.block i (Nat.lt_of_lt_of_le hi h.size) (fun e => by injection e with e; omega)).trans (h.block i hi)⟩

set_option maxRecDepth 100000 in
set_option maxHeartbeats 4000000 in
theorem scan_any (S : Int) (g n : Nat) (t : List UInt8) (w : World) (hn : n ≤ 120) (hL : LayR w) (hlen : t.length ≤ 20000) :
    Calls Tryz.prog 28 #[.agg #[.int .i64 S, .slice (some ⟨g, 0, none⟩) n n], .string ⟨t.toArray⟩] w fun e w' => ScP w w' (rdO (rdL S n (t.length + 1) t [])) e := by
  obtain ⟨Z, eZ⟩ : ∃ Z, rdL S n (t.length + 1) t [] = Z := ⟨_, rfl⟩
  have rd0 : Hid (RdTo S n t [] Z) := ⟨t.length + 1, Nat.lt_succ_self _, eZ⟩
  rw [eZ]
  clear eZ
  have hmf : ∀ (fn : Fn) (first cap : Array Value) (w : World), (Instr.makeFunc fn first cap).run Tryz.prog w = .ok (.func fn first cap) w := fun _ _ _ _ => rfl
  obtain ⟨W0, eW⟩ : ∃ W0, (w.alloc (.cells #[.int .i64 S, .slice (some ⟨g, 0, none⟩) n n] 29)).alloc (.cells #[.int .i64 0, .int .i64 0, .slice none 0 0] 36) = W0 := ⟨_, rfl⟩
  have bW : Below w.heap.size w W0 := by rw [← eW]; exact (by repeat (first | exact Below.refl _ _ | assumption | refine below_alloc ?_ _ | refine Below.setCell ?_ (by first | omega | (simp; done) | (simp; omega)) _ | refine Below.alloc ?_ (by first | omega | (simp; done) | (simp; omega)) _ | refine Below.drew ?_))
  have hP : ∀ W, Below W0.heap.size W0 W → W.cell? ⟨w.heap.size, 0, none⟩ = some (.int .i64 S) ∧ W.cell? ⟨w.heap.size, 1, none⟩ = some (.slice (some ⟨g, 0, none⟩) n n) := by
    have c0 : W0.cell? ⟨w.heap.size, 0, none⟩ = some (.int .i64 S) := by rw [← eW]; simp
    have c1 : W0.cell? ⟨w.heap.size, 1, none⟩ = some (.slice (some ⟨g, 0, none⟩) n n) := by rw [← eW]; simp
    exact fun W hb => ⟨by rw [hb.cell (block_lt_of_cell c0)]; exact c0, by rw [hb.cell (block_lt_of_cell c1)]; exact c1⟩
  obtain ⟨h, eh⟩ : ∃ h, w.heap.size + 1 = h := ⟨_, rfl⟩
  have hW : Box3 W0 h 36 (.int .i64 0) (.int .i64 0) (.slice none 0 0) := by
    rw [← eW, ← eh]
    have := Box3.lay (w.alloc (.cells #[.int .i64 S, .slice (some ⟨g, 0, none⟩) n n] 29)) (.int .i64 0) (.int .i64 0) (.slice none 0 0) 36
    rwa [World.size_alloc] at this
  have lW := hL.on bW
  have EW : Hid _ := eW
  have EH : Hid _ := eh
  have HP : Hid _ := hP
  clear eW eh hP
  go_enter_defers Tryz.func28, Tryz.ntmps28
  go_upto_region 2 with fail
  rw [EW.out, EH.out]
  go_cut [5] from 7 (fun v wc => ∃ sb mo md, v = .pointer (some ⟨sb, 0, none⟩) ∧ Sc wc sb S g n mo md t 0 ∧ Knows wc mo opB ∧ Knows wc md dirB ∧ mo ≠ sb ∧ md ≠ sb ∧ W0.heap.size ≤ sb ∧ Below W0.heap.size W0 wc)
  case first =>
    refine wp_region_any (by kernel_rfl) ?_
    refine InC.any (C := fun W => Below W0.heap.size W0 W) _ _ _ _ ?_
    have C0 : Below W0.heap.size W0 W0.drew := (Below.refl _ _).drew
    refine InC.take (i := 0) (v := .agg #[.int .i64 S, .slice (some ⟨g, 0, none⟩) n n]) rfl (by kernel_rfl) (by kernel_rfl) (by kernel_rfl) (fun _ a _ h => leaves_same (res41 a 7 (by decide) _) _ _ _ h) C0 (Or.inl ⟨by rfl, ?_⟩) ?_
    · intro W hW
      obtain ⟨x0, x1⟩ := HP.out W hW
      go_simp
    refine InC.take (i := 3) (v := .string ⟨t.toArray⟩) rfl (by kernel_rfl) (by kernel_rfl) (by kernel_rfl) (fun _ a _ h => leaves_same (res41 a 10 (by decide) _) _ _ _ h) C0 (Or.inl ⟨by rfl, ?_⟩) ?_
    · intro W hW
      go_simp
    have CA : Below W0.heap.size W0 (W0.alloc (.cells #[.int .i64 0, .slice none 0 0, .map none, .map none, .string ⟨#[]⟩, .int .i64 0] 99)).drew := (below_alloc (Below.refl _ _) _).drew
    refine InC.next2 (i := 1) (j := 5) (by kernel_rfl) (InC.one rfl fun K hK => ?_) (InC.one rfl fun K hK => ?_)
    · go_simp
      refine (opsByWord_any _ (lW.on C0).toLay).mono ?_
      rintro e wo ⟨rfl, ko, bo⟩
      obtain ⟨mo, emo⟩ : ∃ mo, W0.drew.heap.size = mo := ⟨_, rfl⟩
      rw [emo] at ko ⊢
      have Co := below_on C0 bo
      refine hK _ _ Co ?_
      clear hK K
      refine InC.next2 (i := 2) (j := 5) (by kernel_rfl) (InC.one rfl fun K hK => ?_) (InC.one rfl fun K hK => ?_)
      · go_simp
        refine (dirsBySign_any _).mono ?_
        rintro e wd ⟨rfl, kmd, bd⟩
        obtain ⟨md, emd⟩ : ∃ md, wo.heap.size = md := ⟨_, rfl⟩
        rw [emd] at kmd ⊢
        have kmo := ko.on bd
        have CB := below_on Co bd
        refine hK _ _ CB ?_
        clear hK K
        refine InC.take (i := 4) (v := .agg #[.int .i64 S, .slice (some ⟨g, 0, none⟩) n n, .map (some mo), .map (some md), .string ⟨t.toArray⟩, .int .i64 0]) rfl (by kernel_rfl) (by kernel_rfl) (by kernel_rfl) (fun _ a _ h => leaves_same (res41 a 11 (by decide) _) _ _ _ h) CB (Or.inl ⟨by rfl, ?_⟩) ?_
        · intro W hW
          go_simp
        refine InC.next1 (i := 5) (by kernel_rfl) (InC.one rfl fun K hK => ?_)
        go_simp
        refine hK _ _ (below_alloc CB _) ?_
        clear hK K
        refine InC.next1 (i := 6) (by kernel_rfl) (InC.one rfl fun K hK => ?_)
        go_simp
        refine hK _ _ (below_alloc CB _) ?_
        clear hK K
        refine InC.done (by kernel_rfl) ?_
        go_wp2_with fail
        go_meet
        case rel =>
          have hbn := below_alloc (Below.refl wd.heap.size wd) (.cells #[.int .i64 S, .slice (some ⟨g, 0, none⟩) n n, .map (some mo), .map (some md), .string ⟨t.toArray⟩, .int .i64 0] 99)
          exact ⟨_, mo, md, rfl, Sc.new _ _ _ _ _ _ _ _, kmo.on hbn, kmd.on hbn, Nat.ne_of_lt kmo.lt, Nat.ne_of_lt kmd.lt, CB.size, below_alloc CB _⟩
      · go_simp
        have zA := zero6 wo
        have hsb : W0.heap.size ≤ wo.heap.size := Co.size
        have Ca := below_alloc Co (.cells #[.int .i64 0, .slice none 0 0, .map none, .map none, .string ⟨#[]⟩, .int .i64 0] 99)
        have ka := ko.on (below_alloc (Below.refl wo.heap.size wo) (.cells #[.int .i64 0, .slice none 0 0, .map none, .map none, .string ⟨#[]⟩, .int .i64 0] 99))
        refine hK _ _ Ca ?_
        clear hK K
        refine InC.next1 (i := 2) (by kernel_rfl) (InC.one rfl fun K hK => ?_)
        go_simp
        refine (dirsBySign_any _).mono ?_
        rintro e wd ⟨rfl, kmd, bd⟩
        obtain ⟨md, emd⟩ : ∃ md, (wo.alloc (.cells #[.int .i64 0, .slice none 0 0, .map none, .map none, .string ⟨#[]⟩, .int .i64 0] 99)).heap.size = md := ⟨_, rfl⟩
        have hmd : md ≠ wo.heap.size := by rw [← emd]; simp
        have hmo : mo ≠ wo.heap.size := Nat.ne_of_lt ko.lt
        rw [emd] at kmd ⊢
        have kmo := ka.on bd
        have CB := below_on Ca bd
        have zB := zA.on bd
        refine hK _ _ CB ?_
        clear hK K emd
        refine InC.next1 (i := 4) (by kernel_rfl) (InC.one rfl fun K hK => ?_)
        go_simp
        refine hK _ _ CB ?_
        clear hK K
        refine InC.next1 (i := 6) (by kernel_rfl) (InC.one rfl fun K hK => ?_)
        have f0 := Blk.frozen zB 0
        have f1 := Blk.frozen zB 1
        have f2 := Blk.frozen zB 2
        have f3 := Blk.frozen zB 3
        have f4 := Blk.frozen zB 4
        have f5 := Blk.frozen zB 5
        have y0 := zB.cell (i := 0) (by omega)
        have y1 := zB.cell (i := 1) (by omega)
        have y2 := zB.cell (i := 2) (by omega)
        have y3 := zB.cell (i := 3) (by omega)
        have y4 := zB.cell (i := 4) (by omega)
        have y5 := zB.cell (i := 5) (by omega)
        have CE := below_set6 CB hsb (.int .i64 S) (.slice (some ⟨g, 0, none⟩) n n) (.map (some mo)) (.map (some md)) (.string ⟨t.toArray⟩) (.int .i64 0)
        have SE := sc_set6 zB S g n mo md t 0
        have KO := knows_set6 kmo hmo (.int .i64 S) (.slice (some ⟨g, 0, none⟩) n n) (.map (some mo)) (.map (some md)) (.string ⟨t.toArray⟩) (.int .i64 0)
        have KD := knows_set6 kmd hmd (.int .i64 S) (.slice (some ⟨g, 0, none⟩) n n) (.map (some mo)) (.map (some md)) (.string ⟨t.toArray⟩) (.int .i64 0)
        unfold set6 at CE SE KO KD
        go_simp
        refine hK _ _ CE ?_
        clear hK K
        refine InC.done (by kernel_rfl) ?_
        go_wp2_with fail
        go_meet
        case rel => exact ⟨_, mo, md, rfl, SE, KO, KD, hmo, hmd, hsb, CE⟩
    · go_simp
      have zA := zero6 W0
      have hsb : W0.heap.size ≤ W0.heap.size := Nat.le_refl _
      refine hK _ _ CA ?_
      clear hK K
      refine InC.next1 (i := 1) (by kernel_rfl) (InC.one rfl fun K hK => ?_)
      go_simp
      refine (opsByWord_any _ (lW.on CA).toLay).mono ?_
      rintro e wo ⟨rfl, ko, bo⟩
      obtain ⟨mo, emo⟩ : ∃ mo, (W0.alloc (.cells #[.int .i64 0, .slice none 0 0, .map none, .map none, .string ⟨#[]⟩, .int .i64 0] 99)).drew.heap.size = mo := ⟨_, rfl⟩
      have hmo : mo ≠ W0.heap.size := by rw [← emo]; exact Nat.ne_of_gt (by simp)
      rw [emo] at ko ⊢
      have Co := below_on CA bo
      refine hK _ _ Co ?_
      clear hK K emo
      refine InC.next1 (i := 2) (by kernel_rfl) (InC.one rfl fun K hK => ?_)
      go_simp
      refine (dirsBySign_any _).mono ?_
      rintro e wd ⟨rfl, kmd, bd⟩
      obtain ⟨md, emd⟩ : ∃ md, wo.heap.size = md := ⟨_, rfl⟩
      rw [emd] at kmd ⊢
      have hmd : md ≠ W0.heap.size := by
        have := bo.size
        rw [← emd]
        have h1 : (W0.alloc (.cells #[.int .i64 0, .slice none 0 0, .map none, .map none, .string ⟨#[]⟩, .int .i64 0] 99)).drew.heap.size = W0.heap.size + 1 := by simp
        omega
      have kmo := ko.on bd
      have CB := below_on Co bd
      have zB := (Blk.drew zA).on (below_on (w := (W0.alloc (.cells #[.int .i64 0, .slice none 0 0, .map none, .map none, .string ⟨#[]⟩, .int .i64 0] 99)).drew) bo bd)
      refine hK _ _ CB ?_
      clear hK K emd
      refine InC.next1 (i := 4) (by kernel_rfl) (InC.one rfl fun K hK => ?_)
      go_simp
      refine hK _ _ CB ?_
      clear hK K
      refine InC.next1 (i := 6) (by kernel_rfl) (InC.one rfl fun K hK => ?_)
      have f0 := Blk.frozen zB 0
      have f1 := Blk.frozen zB 1
      have f2 := Blk.frozen zB 2
      have f3 := Blk.frozen zB 3
      have f4 := Blk.frozen zB 4
      have f5 := Blk.frozen zB 5
      have y0 := zB.cell (i := 0) (by omega)
      have y1 := zB.cell (i := 1) (by omega)
      have y2 := zB.cell (i := 2) (by omega)
      have y3 := zB.cell (i := 3) (by omega)
      have y4 := zB.cell (i := 4) (by omega)
      have y5 := zB.cell (i := 5) (by omega)
      have CE := below_set6 CB hsb (.int .i64 S) (.slice (some ⟨g, 0, none⟩) n n) (.map (some mo)) (.map (some md)) (.string ⟨t.toArray⟩) (.int .i64 0)
      have SE := sc_set6 zB S g n mo md t 0
      have KO := knows_set6 kmo hmo (.int .i64 S) (.slice (some ⟨g, 0, none⟩) n n) (.map (some mo)) (.map (some md)) (.string ⟨t.toArray⟩) (.int .i64 0)
      have KD := knows_set6 kmd hmd (.int .i64 S) (.slice (some ⟨g, 0, none⟩) n n) (.map (some mo)) (.map (some md)) (.string ⟨t.toArray⟩) (.int .i64 0)
      unfold set6 at CE SE KO KD
      go_simp
      refine hK _ _ CE ?_
      clear hK K
      refine InC.done (by kernel_rfl) ?_
      go_wp2_with fail
      go_meet
      case rel => exact ⟨_, mo, md, rfl, SE, KO, KD, hmo, hmd, hsb, CE⟩
  case rest =>
    obtain ⟨sb, mo, md, rfl, sc, ko, kd, nmo, nmd, hsb, bwc⟩ := hcut
    rename World => wc
    have h0 := hW.on bwc
    have lsb : sb < wc.heap.size := Blk.lt sc
    have hh1 : Hid (w.heap.size < h ∧ h < W0.heap.size) := ⟨by rw [← EH.out]; omega, Blk.lt hW⟩
    have nhs : h ≠ sb := by have := hh1.out.2; omega
    have bw1 := below_on bW bwc
    have zc : Hid (w.heap.size ≤ wc.heap.size) := bw1.size
    have lh : h < wc.heap.size := by have := hh1.out; omega
    have lmo := ko.lt
    have lmd := kd.lt
    have nmoh := ko.ne h0
    have nmdh := kd.ne h0
    clear bwc hW bW lW HP EW EH
    go_wp2
    go_loopw [12] (fun _ wr => ∃ (rest : List UInt8) (acc : List (Int × Int × Int)) (sl : Value), Sc wr sb S g n mo md rest (acc.length : Int) ∧ Hid (RdTo S n rest acc Z ∧ acc.length ≤ 2000 ∧ rest.length ≤ 20000) ∧ Box3 wr h 36 (.int .i64 0) (.int .i64 0) sl ∧ wr.ownsRow wc.heap.size 64 3 sl acc.length (evC acc) ∧ Knows wr mo opB ∧ Knows wr md dirB ∧ Below w.heap.size w wr ∧ wc.heap.size ≤ wr.heap.size) (fun _ wr => restN wr sb)
    case atStart => exact ⟨t, [], .slice none 0 0, sc, ⟨rd0.out, by simp, hlen⟩, h0, World.ownsRow_nil _ _ _ _, ko, kd, bw1, Nat.le_refl _⟩
    case round =>
      clear sc ko kd bw1 h0 rd0
      obtain ⟨rest, acc, sl, sc, hH, hx, ow, ko, kd, bw, zw⟩ := hrel
      obtain ⟨ao, cap, esl⟩ : ∃ ao cap, sl = .slice ao acc.length cap := by
        rcases ow.2 with ⟨hv, h0⟩ | ⟨g, cap, cur, hv, _⟩
        · exact ⟨_, _, by rw [h0]; exact hv⟩
        · exact ⟨_, _, hv⟩
      subst esl
      obtain ⟨_, _, s4, s5⟩ := sc.cells
      obtain ⟨x0, x1, x2⟩ := hx.cells
      by_cases hr : rest = []
      · subst hr
        obtain ⟨hR, _, _⟩ := hH.out
        have hZ := hR.nil
        subst hZ
        have z0 := Blk.frozen hx 0
        have z1 := Blk.frozen hx 1
        have z2 := Blk.frozen hx 2
        have g3 : wr.grownBy (((wr.setCell ⟨h, 0, none⟩ (.int .i64 0)).setCell ⟨h, 1, none⟩ (.int .i64 0)).setCell ⟨h, 2, none⟩ (.slice ao acc.length cap)) (some h) := but_trans (but_trans (but_set wr h 0 _) (but_set _ h 1 _)) (but_set _ h 2 _)
        have hx3 := hx.put (.int .i64 0) (.int .i64 0) (.slice ao acc.length cap)
        have sl3 : SlF (((wr.setCell ⟨h, 0, none⟩ (.int .i64 0)).setCell ⟨h, 1, none⟩ (.int .i64 0)).setCell ⟨h, 2, none⟩ (.slice ao acc.length cap)) 64 3 wc.heap.size _ (.slice ao acc.length cap) acc.length (evs (evL acc)) := SlF.of_ownsRow (own_but ow g3 lh) (fun i hi j hj => evC_at acc i hi j hj)
        have b3 : Below w.heap.size w (((wr.setCell ⟨h, 0, none⟩ (.int .i64 0)).setCell ⟨h, 1, none⟩ (.int .i64 0)).setCell ⟨h, 2, none⟩ (.slice ao acc.length cap)) := below_but bw g3 (by have := hh1.out; omega)
        clear hR ow g3
        go_wp2
        refine leaves_cons (f := 45) (args := #[.pointer (some ⟨h, 0, none⟩)]) (by simp) (by simp [go_sem]) ?_
        refine (catch_idle h _).mono ?_
        rintro e u' w'' ⟨rfl, rfl, hbi⟩
        obtain ⟨m0, m1, m2⟩ := (hx3.on hbi).cells
        have F1 : ScP w w'' (rdO (.inr acc)) (.returned (.agg #[.int .i64 0, .int .i64 0, .slice ao acc.length cap])) := ⟨_, rfl, ⟨_, rfl, (sl3.on hbi).wide zc.out hbi.size⟩, below_on b3 hbi⟩
        refine ⟨_, ?_, F1⟩
        simp [results, Tryz.results28, go_sem, m0, m1, m2]
      · have hne : (rest == []) = false := by simpa using hr
        have hme : restN wr sb = rest.length := restN_of sc
        obtain ⟨i0, hi, hz0, hz1, hz2⟩ := info_parts Tryz.infoEv
        have ke := event_any sb S g n mo md rest acc.length wr.drew hn (Blk.drew sc) (ko.on (Below.refl wr.heap.size wr).drew) (kd.on (Below.refl wr.heap.size wr).drew) nmo nmd (hL.on (bw.trans ((Below.refl w.heap.size wr).drew))) (hL.noG (by have := hh1.out; omega)) hH.out.2.2 hH.out.2.1
        go_upto_region 4 with fail
        refine wp_region_any (by kernel_rfl) ?_
        refine InC.any (C := fun _ => True) _ _ _ _ ?_
        refine InC.take (i := 0) (v := .pointer (some ⟨h, 2, none⟩)) rfl (by kernel_rfl) (by kernel_rfl) (by kernel_rfl) (fun _ a _ h => leaves_same (res41 a 15 (by decide) _) _ _ _ h) trivial (Or.inl ⟨by rfl, ?_⟩) ?_
        · intro W hW
          go_simp
        refine InC.next2 (i := 1) (j := 2) (by kernel_rfl) (InC.one rfl fun K hK => ?_) (InC.one rfl fun K hK => ?_)
        · go_simp
          refine hK _ _ trivial ?_
          clear hK K
          refine InC.next1 (i := 2) (by kernel_rfl) (InC.one rfl fun K hK => ?_)
          go_simp
          refine ke.mono ?_
          clear ke
          rintro e w5 ⟨⟨p, q, op, f, d, rfl, hp, hk2, hpar, rfl, sc5⟩ | ⟨rfl, hbad⟩, g5⟩
          · obtain ⟨hR, hac, hrl⟩ := hH.out
            have hR2 := hR.step hp hpar hk2
            have hlq : q.length ≤ 20000 ∧ q.length < (p ++ 10 :: q).length := by simp at hrl ⊢; omega
            have HH2 : Hid (RdTo S n q (acc ++ [(op, f, d)]) Z ∧ (acc ++ [(op, f, d)]).length ≤ 2000 ∧ q.length ≤ 20000) := ⟨hR2, by simp; omega, hlq.1⟩
            have HM : Hid (q.length < (p ++ 10 :: q).length) := hlq.2
            have EL : Hid (((acc ++ [(op, f, d)]).length : Int) = (acc.length : Int) + 1 ∧ (acc ++ [(op, f, d)]).length = acc.length + 1) := ⟨by simp, by simp⟩
            have hx5 := Box3.but (Box3.drew hx) g5 nhs
            have ow5 := own_but (show wr.drew.ownsRow wc.heap.size 64 3 _ acc.length (evC acc) from ow) g5 lsb
            have ko5 := (ko.on (Below.refl wr.heap.size wr).drew).but g5 nmo
            have kd5 := (kd.on (Below.refl wr.heap.size wr).drew).but g5 nmd
            have b5 : Below w.heap.size w w5 := below_but (w1 := wr.drew) bw.drew g5 (by have := hh1.out; omega)
            have z5 : wc.heap.size ≤ w5.heap.size := Nat.le_trans zw g5.size
            refine hK _ _ trivial ?_
            clear hK K hR hR2 hlq hrl hpar hp sc hx ow ko kd bw g5 x0 x1 x2 s4 s5 hne hr
            refine InC.next1 (i := 3) (by kernel_rfl) (InC.one rfl fun K hK => ?_)
            go_simp
            have hbA := below_alloc (Below.refl w5.heap.size w5) (.cells #[.int .i64 op, .int .i64 f, .int .i64 d] 64)
            have nb := Box3.lay w5 (.int .i64 op) (.int .i64 f) (.int .i64 d) 64
            obtain ⟨n0, n1, n2⟩ := nb.cells
            refine hK _ _ trivial ?_
            clear hK K
            refine InC.next1 (i := 4) (by kernel_rfl) (InC.one rfl fun K hK => ?_)
            refine step_append_own rfl _ _ 34 rfl wc.heap.size 64 i0 (.agg #[.int .i64 0, .int .i64 0, .int .i64 0]) 3 24 Tryz.underlying34 hi hz0 hz1 hz2 rfl (by decide) _ _ _ rfl (own_on ow5 hbA) ⟨w5.heap.size, 0, none⟩ 1 1 [.int .i64 op, .int .i64 f, .int .i64 d] rfl rfl ?_ ?_ ?_ ?_ ?_ ?_
            · intro j u hj
              match j, hj with
              | 0, hj => simp at hj; subst hj; exact n0
              | 1, hj => simp at hj; subst hj; exact n1
              | 2, hj => simp at hj; subst hj; exact n2
            · intro u hu
              simp at hu
              rcases hu with rfl | rfl | rfl <;> rfl
            · unfold maxLen; omega
            · omega
            · exact Nat.le_trans z5 hbA.size
            intro v' w7 hown' hgrow _
            have ownb : ∀ x, (Value.slice ao acc.length cap).ownBlock = some x → wc.heap.size ≤ x := fun x hx => (ow5.lt x hx).1
            have bb7 : Below wc.heap.size (w5.alloc (.cells #[.int .i64 op, .int .i64 f, .int .i64 d] 64)) w7 := (Below.refl _ _).grown hgrow (Nat.le_trans z5 hbA.size) (fun x hx => ownb x hx)
            have sc7 := Blk.below (sc5.on hbA) bb7 lsb
            have hx7 : Box3 w7 h 36 (.int .i64 0) (.int .i64 0) (.slice ao acc.length cap) := Blk.below (hx5.on hbA) bb7 lh
            have ko7 := (ko5.on hbA).below bb7 lmo
            have kd7 := (kd5.on hbA).below bb7 lmd
            have b7 : Below w.heap.size w w7 := (below_on b5 hbA).trans (bb7.mono zc.out)
            have z7 : wc.heap.size ≤ w7.heap.size := Nat.le_trans (Nat.le_trans z5 hbA.size) bb7.size
            obtain ⟨ao', cap', ev'⟩ : ∃ ao' cap', v' = .slice ao' (acc.length + 1) cap' := by
              rcases hown'.2 with ⟨_, h0⟩ | ⟨g, cap, cur, hv, _⟩
              · omega
              · exact ⟨_, _, hv⟩
            subst ev'
            have g8 := but_set w7 h 2 (.slice ao' (acc.length + 1) cap')
            have sc8 : Sc (w7.setCell ⟨h, 2, none⟩ (.slice ao' (acc.length + 1) cap')) sb S g n mo md q ((acc.length : Int) + 1) := Blk.set_other sc7 nhs _
            have hx8 : Box3 (w7.setCell ⟨h, 2, none⟩ (.slice ao' (acc.length + 1) cap')) h 36 (.int .i64 0) (.int .i64 0) (.slice ao' (acc.length + 1) cap') := (Blk.set hx7 2 _).congr (fun i hi => by match i, hi with | 0, _ => rfl | 1, _ => rfl | 2, _ => rfl)
            have ow8 := own_but hown' g8 lh
            rw [← evC_snoc] at ow8
            have ko8 := knows_set (i := 2) (v := .slice ao' (acc.length + 1) cap') ko7 nmoh
            have kd8 := knows_set (i := 2) (v := .slice ao' (acc.length + 1) cap') kd7 nmdh
            have b8 := below_but b7 g8 (by have := hh1.out; omega)
            have z8 : wc.heap.size ≤ (w7.setCell ⟨h, 2, none⟩ (.slice ao' (acc.length + 1) cap')).heap.size := Nat.le_trans z7 g8.size
            obtain ⟨y0, y1, y2⟩ := hx7.cells
            have f2 := Blk.frozen hx7 2
            refine hK _ _ trivial ?_
            clear hK K bb7 hgrow hown' ow5 hx5 sc5 ko5 kd5 b5 ownb nb n0 n1 n2 hbA z5 z7
            refine InC.next1 (i := 5) (by kernel_rfl) (InC.one rfl fun K hK => ?_)
            go_simp
            refine hK _ _ trivial ?_
            clear hK K
            refine InC.next1 (i := 6) (by kernel_rfl) (InC.one rfl fun K hK => ?_)
            go_simp
            refine hK _ _ trivial ?_
            clear hK K
            refine InC.done (by kernel_rfl) ?_
            go_wp2
            exact ⟨⟨q, acc ++ [(op, f, d)], _, by rw [EL.out.1]; exact sc8, HH2, hx8, by rw [EL.out.2]; exact ow8, ko8, kd8, b8, z8⟩, by rw [hme, restN_of sc8]; exact HM.out⟩
          · have hZ : Z = .inl (acc.length + 1) := by
              obtain ⟨hR, _, _⟩ := hH.out
              rcases hbad with h | ⟨p, q, rfl, hp, h | h⟩
              · exact hR.open hr h
              · exact hR.many hr h
              · exact hR.bad hp h
            subst hZ
            have hx5 := Box3.but (Box3.drew hx) g5 nhs
            have b5 : Below w.heap.size w w5 := below_but (w1 := wr.drew) bw.drew g5 (by have := hh1.out; omega)
            refine leaves_cons (f := 45) (args := #[.pointer (some ⟨h, 0, none⟩)]) (by simp) (by simp [go_sem]) ?_
            refine (catch_bad h _ _ _ _ [] _ hx5).mono ?_
            rintro e u' w'' ⟨rfl, rfl, hx6, g6⟩
            obtain ⟨m0, m1, m2⟩ := hx6.cells
            have b6 := below_but b5 g6 (by have := hh1.out; omega)
            have F1 : ScP w w'' (rdO (.inl (acc.length + 1))) (.returned (.agg #[.int .i64 3, .int .i64 ((acc.length : Int) + 1), .slice none 0 0])) := ⟨_, rfl, ⟨_, by simp [rdO], ⟨none, 0, rfl, .inl rfl⟩⟩, b6⟩
            refine ⟨_, ?_, F1⟩
            simp [results, Tryz.results28, go_sem, m0, m1, m2]
        · go_simp
          refine ke.mono ?_
          clear ke
          rintro e w5 ⟨⟨p, q, op, f, d, rfl, hp, hk2, hpar, rfl, sc5⟩ | ⟨rfl, hbad⟩, g5⟩
          · obtain ⟨hR, hac, hrl⟩ := hH.out
            have hR2 := hR.step hp hpar hk2
            have hlq : q.length ≤ 20000 ∧ q.length < (p ++ 10 :: q).length := by simp at hrl ⊢; omega
            have HH2 : Hid (RdTo S n q (acc ++ [(op, f, d)]) Z ∧ (acc ++ [(op, f, d)]).length ≤ 2000 ∧ q.length ≤ 20000) := ⟨hR2, by simp; omega, hlq.1⟩
            have HM : Hid (q.length < (p ++ 10 :: q).length) := hlq.2
            have EL : Hid (((acc ++ [(op, f, d)]).length : Int) = (acc.length : Int) + 1 ∧ (acc ++ [(op, f, d)]).length = acc.length + 1) := ⟨by simp, by simp⟩
            have hx5 := Box3.but (Box3.drew hx) g5 nhs
            have ow5 := own_but (show wr.drew.ownsRow wc.heap.size 64 3 _ acc.length (evC acc) from ow) g5 lsb
            have ko5 := (ko.on (Below.refl wr.heap.size wr).drew).but g5 nmo
            have kd5 := (kd.on (Below.refl wr.heap.size wr).drew).but g5 nmd
            have b5 : Below w.heap.size w w5 := below_but (w1 := wr.drew) bw.drew g5 (by have := hh1.out; omega)
            have z5 : wc.heap.size ≤ w5.heap.size := Nat.le_trans zw g5.size
            refine hK _ _ trivial ?_
            clear hK K hR hR2 hlq hrl hpar hp sc hx ow ko kd bw g5 x0 x1 x2 s4 s5 hne hr
            refine InC.next2 (i := 1) (j := 3) (by kernel_rfl) (InC.one rfl fun K hK => ?_) (InC.one rfl fun K hK => ?_)
            · skip
              obtain ⟨k0, k1, k2⟩ := hx5.cells
              go_simp
              refine hK _ _ trivial ?_
              clear hK K k0 k1 k2
              refine InC.next1 (i := 3) (by kernel_rfl) (InC.one rfl fun K hK => ?_)
              go_simp
              have hbA := below_alloc (Below.refl w5.heap.size w5) (.cells #[.int .i64 op, .int .i64 f, .int .i64 d] 64)
              have nb := Box3.lay w5 (.int .i64 op) (.int .i64 f) (.int .i64 d) 64
              obtain ⟨n0, n1, n2⟩ := nb.cells
              refine hK _ _ trivial ?_
              clear hK K
              refine InC.next1 (i := 4) (by kernel_rfl) (InC.one rfl fun K hK => ?_)
              refine step_append_own rfl _ _ 34 rfl wc.heap.size 64 i0 (.agg #[.int .i64 0, .int .i64 0, .int .i64 0]) 3 24 Tryz.underlying34 hi hz0 hz1 hz2 rfl (by decide) _ _ _ rfl (own_on ow5 hbA) ⟨w5.heap.size, 0, none⟩ 1 1 [.int .i64 op, .int .i64 f, .int .i64 d] rfl rfl ?_ ?_ ?_ ?_ ?_ ?_
              · intro j u hj
                match j, hj with
                | 0, hj => simp at hj; subst hj; exact n0
                | 1, hj => simp at hj; subst hj; exact n1
                | 2, hj => simp at hj; subst hj; exact n2
              · intro u hu
                simp at hu
                rcases hu with rfl | rfl | rfl <;> rfl
              · unfold maxLen; omega
              · omega
              · exact Nat.le_trans z5 hbA.size
              intro v' w7 hown' hgrow _
              have ownb : ∀ x, (Value.slice ao acc.length cap).ownBlock = some x → wc.heap.size ≤ x := fun x hx => (ow5.lt x hx).1
              have bb7 : Below wc.heap.size (w5.alloc (.cells #[.int .i64 op, .int .i64 f, .int .i64 d] 64)) w7 := (Below.refl _ _).grown hgrow (Nat.le_trans z5 hbA.size) (fun x hx => ownb x hx)
              have sc7 := Blk.below (sc5.on hbA) bb7 lsb
              have hx7 : Box3 w7 h 36 (.int .i64 0) (.int .i64 0) (.slice ao acc.length cap) := Blk.below (hx5.on hbA) bb7 lh
              have ko7 := (ko5.on hbA).below bb7 lmo
              have kd7 := (kd5.on hbA).below bb7 lmd
              have b7 : Below w.heap.size w w7 := (below_on b5 hbA).trans (bb7.mono zc.out)
              have z7 : wc.heap.size ≤ w7.heap.size := Nat.le_trans (Nat.le_trans z5 hbA.size) bb7.size
              obtain ⟨ao', cap', ev'⟩ : ∃ ao' cap', v' = .slice ao' (acc.length + 1) cap' := by
                rcases hown'.2 with ⟨_, h0⟩ | ⟨g, cap, cur, hv, _⟩
                · omega
                · exact ⟨_, _, hv⟩
              subst ev'
              have g8 := but_set w7 h 2 (.slice ao' (acc.length + 1) cap')
              have sc8 : Sc (w7.setCell ⟨h, 2, none⟩ (.slice ao' (acc.length + 1) cap')) sb S g n mo md q ((acc.length : Int) + 1) := Blk.set_other sc7 nhs _
              have hx8 : Box3 (w7.setCell ⟨h, 2, none⟩ (.slice ao' (acc.length + 1) cap')) h 36 (.int .i64 0) (.int .i64 0) (.slice ao' (acc.length + 1) cap') := (Blk.set hx7 2 _).congr (fun i hi => by match i, hi with | 0, _ => rfl | 1, _ => rfl | 2, _ => rfl)
              have ow8 := own_but hown' g8 lh
              rw [← evC_snoc] at ow8
              have ko8 := knows_set (i := 2) (v := .slice ao' (acc.length + 1) cap') ko7 nmoh
              have kd8 := knows_set (i := 2) (v := .slice ao' (acc.length + 1) cap') kd7 nmdh
              have b8 := below_but b7 g8 (by have := hh1.out; omega)
              have z8 : wc.heap.size ≤ (w7.setCell ⟨h, 2, none⟩ (.slice ao' (acc.length + 1) cap')).heap.size := Nat.le_trans z7 g8.size
              obtain ⟨y0, y1, y2⟩ := hx7.cells
              have f2 := Blk.frozen hx7 2
              refine hK _ _ trivial ?_
              clear hK K bb7 hgrow hown' ow5 hx5 sc5 ko5 kd5 b5 ownb nb n0 n1 n2 hbA z5 z7
              refine InC.next1 (i := 5) (by kernel_rfl) (InC.one rfl fun K hK => ?_)
              go_simp
              refine hK _ _ trivial ?_
              clear hK K
              refine InC.next1 (i := 6) (by kernel_rfl) (InC.one rfl fun K hK => ?_)
              go_simp
              refine hK _ _ trivial ?_
              clear hK K
              refine InC.done (by kernel_rfl) ?_
              go_wp2
              exact ⟨⟨q, acc ++ [(op, f, d)], _, by rw [EL.out.1]; exact sc8, HH2, hx8, by rw [EL.out.2]; exact ow8, ko8, kd8, b8, z8⟩, by rw [hme, restN_of sc8]; exact HM.out⟩
            · skip
              go_simp
              have hbA := below_alloc (Below.refl w5.heap.size w5) (.cells #[.int .i64 op, .int .i64 f, .int .i64 d] 64)
              have nb := Box3.lay w5 (.int .i64 op) (.int .i64 f) (.int .i64 d) 64
              obtain ⟨n0, n1, n2⟩ := nb.cells
              refine hK _ _ trivial ?_
              clear hK K
              refine InC.next1 (i := 1) (by kernel_rfl) (InC.one rfl fun K hK => ?_)
              obtain ⟨k0, k1, k2⟩ := (hx5.on hbA).cells
              go_simp
              refine hK _ _ trivial ?_
              clear hK K k0 k1 k2
              refine InC.next1 (i := 4) (by kernel_rfl) (InC.one rfl fun K hK => ?_)
              refine step_append_own rfl _ _ 34 rfl wc.heap.size 64 i0 (.agg #[.int .i64 0, .int .i64 0, .int .i64 0]) 3 24 Tryz.underlying34 hi hz0 hz1 hz2 rfl (by decide) _ _ _ rfl (own_on ow5 hbA) ⟨w5.heap.size, 0, none⟩ 1 1 [.int .i64 op, .int .i64 f, .int .i64 d] rfl rfl ?_ ?_ ?_ ?_ ?_ ?_
              · intro j u hj
                match j, hj with
                | 0, hj => simp at hj; subst hj; exact n0
                | 1, hj => simp at hj; subst hj; exact n1
                | 2, hj => simp at hj; subst hj; exact n2
              · intro u hu
                simp at hu
                rcases hu with rfl | rfl | rfl <;> rfl
              · unfold maxLen; omega
              · omega
              · exact Nat.le_trans z5 hbA.size
              intro v' w7 hown' hgrow _
              have ownb : ∀ x, (Value.slice ao acc.length cap).ownBlock = some x → wc.heap.size ≤ x := fun x hx => (ow5.lt x hx).1
              have bb7 : Below wc.heap.size (w5.alloc (.cells #[.int .i64 op, .int .i64 f, .int .i64 d] 64)) w7 := (Below.refl _ _).grown hgrow (Nat.le_trans z5 hbA.size) (fun x hx => ownb x hx)
              have sc7 := Blk.below (sc5.on hbA) bb7 lsb
              have hx7 : Box3 w7 h 36 (.int .i64 0) (.int .i64 0) (.slice ao acc.length cap) := Blk.below (hx5.on hbA) bb7 lh
              have ko7 := (ko5.on hbA).below bb7 lmo
              have kd7 := (kd5.on hbA).below bb7 lmd
              have b7 : Below w.heap.size w w7 := (below_on b5 hbA).trans (bb7.mono zc.out)
              have z7 : wc.heap.size ≤ w7.heap.size := Nat.le_trans (Nat.le_trans z5 hbA.size) bb7.size
              obtain ⟨ao', cap', ev'⟩ : ∃ ao' cap', v' = .slice ao' (acc.length + 1) cap' := by
                rcases hown'.2 with ⟨_, h0⟩ | ⟨g, cap, cur, hv, _⟩
                · omega
                · exact ⟨_, _, hv⟩
              subst ev'
              have g8 := but_set w7 h 2 (.slice ao' (acc.length + 1) cap')
              have sc8 : Sc (w7.setCell ⟨h, 2, none⟩ (.slice ao' (acc.length + 1) cap')) sb S g n mo md q ((acc.length : Int) + 1) := Blk.set_other sc7 nhs _
              have hx8 : Box3 (w7.setCell ⟨h, 2, none⟩ (.slice ao' (acc.length + 1) cap')) h 36 (.int .i64 0) (.int .i64 0) (.slice ao' (acc.length + 1) cap') := (Blk.set hx7 2 _).congr (fun i hi => by match i, hi with | 0, _ => rfl | 1, _ => rfl | 2, _ => rfl)
              have ow8 := own_but hown' g8 lh
              rw [← evC_snoc] at ow8
              have ko8 := knows_set (i := 2) (v := .slice ao' (acc.length + 1) cap') ko7 nmoh
              have kd8 := knows_set (i := 2) (v := .slice ao' (acc.length + 1) cap') kd7 nmdh
              have b8 := below_but b7 g8 (by have := hh1.out; omega)
              have z8 : wc.heap.size ≤ (w7.setCell ⟨h, 2, none⟩ (.slice ao' (acc.length + 1) cap')).heap.size := Nat.le_trans z7 g8.size
              obtain ⟨y0, y1, y2⟩ := hx7.cells
              have f2 := Blk.frozen hx7 2
              refine hK _ _ trivial ?_
              clear hK K bb7 hgrow hown' ow5 hx5 sc5 ko5 kd5 b5 ownb nb n0 n1 n2 hbA z5 z7
              refine InC.next1 (i := 5) (by kernel_rfl) (InC.one rfl fun K hK => ?_)
              go_simp
              refine hK _ _ trivial ?_
              clear hK K
              refine InC.next1 (i := 6) (by kernel_rfl) (InC.one rfl fun K hK => ?_)
              go_simp
              refine hK _ _ trivial ?_
              clear hK K
              refine InC.done (by kernel_rfl) ?_
              go_wp2
              exact ⟨⟨q, acc ++ [(op, f, d)], _, by rw [EL.out.1]; exact sc8, HH2, hx8, by rw [EL.out.2]; exact ow8, ko8, kd8, b8, z8⟩, by rw [hme, restN_of sc8]; exact HM.out⟩
          · have hZ : Z = .inl (acc.length + 1) := by
              obtain ⟨hR, _, _⟩ := hH.out
              rcases hbad with h | ⟨p, q, rfl, hp, h | h⟩
              · exact hR.open hr h
              · exact hR.many hr h
              · exact hR.bad hp h
            subst hZ
            have hx5 := Box3.but (Box3.drew hx) g5 nhs
            have b5 : Below w.heap.size w w5 := below_but (w1 := wr.drew) bw.drew g5 (by have := hh1.out; omega)
            refine leaves_cons (f := 45) (args := #[.pointer (some ⟨h, 0, none⟩)]) (by simp) (by simp [go_sem]) ?_
            refine (catch_bad h _ _ _ _ [] _ hx5).mono ?_
            rintro e u' w'' ⟨rfl, rfl, hx6, g6⟩
            obtain ⟨m0, m1, m2⟩ := hx6.cells
            have b6 := below_but b5 g6 (by have := hh1.out; omega)
            have F1 : ScP w w'' (rdO (.inl (acc.length + 1))) (.returned (.agg #[.int .i64 3, .int .i64 ((acc.length : Int) + 1), .slice none 0 0])) := ⟨_, rfl, ⟨_, by simp [rdO], ⟨none, 0, rfl, .inl rfl⟩⟩, b6⟩
            refine ⟨_, ?_, F1⟩
            simp [results, Tryz.results28, go_sem, m0, m1, m2]

end Go.Proofs.YtlpopfhaephfaabGreatDoor
