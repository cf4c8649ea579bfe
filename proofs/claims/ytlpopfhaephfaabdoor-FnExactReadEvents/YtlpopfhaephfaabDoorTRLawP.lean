import Derived.Test.YtlpopfhaephfaabDoorTRLaw
import Derived.Test.YtlpopfhaephfaabDoorTV2
import Derived.Test.YtlpopfhaephfaabDoorTLV
import Derived.Test.YtlpopfhaephfaabDoorOpen1
import Derived.Test.YtlpopfhaephfaabDoorCards
import Derived.Test.YtlpopfhaephfaabDoorTie
import Derived.ChangeSame
import Derived.ChangeVars
import Derived.OpenVars
import Derived.ChangeMaps5
import Derived.JoinedOf
import Derived.RowKitTokens
import Derived.LaidLaws
import Derived.LaidHandle
import Derived.Stop.LaidErr
import Derived.Stop.Joined
import Derived.SevenTiedAt
import Derived.WalkSmall
import Derived.HandedShaped
import Derived.Shelf.Vars
import Derived.Deep.DeepLaidRun
namespace Go.Proofs.YtlpopfhaephfaabDoor
open Go.ChangeShapes Go.WideShapes Go.ChangeAt Go.RowKit Go.Joins

section
variable {H : Type} {enc : TypeId × Value → H}
/-- A listed row whose contract is handed the world's shape besides. -/
theorem handed_and_shaped {a : Assume} {C : Checked} {os : Os} {f : FuncId} {fn : Func} {s : ChangeSpec} {conds : List PathCond} {apart fresh handsOn again : Bool} {X : World → Array Value → Prop}
    (hX : ∀ (w w' : World) (args : Array Value), w.heap = w'.heap → X w args → X w' args)
    (own : ownKnob C.prog.godebug = none) (started : os.Started) (noInit : C.prog.inits.idxOf? f = none) (hfn : C.prog.funcs[f]? = some fn)
    (witness : ∃ (w : World) (tape : Tape) (i : Input), w.os = os ∧ (w.forCall tape i).Shaped C.prog ∧ i.vars = [] ∧ Input.okWide C.prog (w.forCall tape i) .any w.heap.size f i ∧
      ((s.pre enc C.prog fn conds apart (w.forCall tape i).memory i.args ∧ X (w.forCall tape i).memory i.args) ∧ sizedMet enc C.prog fn (OpenSpec.ofChange s) apart (w.forCall tape i).memory i.args) ∧ a.holds C.prog (lone (Frame.enter C.prog f i.args .normal) [] (w.forCall tape i)))
    (contract : ∀ (W : World) (base : Nat) (args : Array Value) (ds gs : List (DataW H)) (before : List MemPlace),
      (∀ (j : Nat) t v, fn.params[j]? = some t → args[j]? = some v → Value.okWide C.prog W .any base t v) →
      DataW.Whole enc C.prog fn.params.toList s.vars apart W args.toList ds gs before → X W args → W.ShapedOpen C.prog →
      Calls C.prog f args W fun e W' => ∃ v, e = .returned v ∧ s.post enc C.prog fn apart fresh handsOn again W args v W') :
    ReturnsInHanded a C os f .any (fun w args => (s.pre enc C.prog fn conds apart w args ∧ X w args) ∧ sizedMet enc C.prog fn (OpenSpec.ofChange s) apart w args) (s.post enc C.prog fn apart fresh handsOn again) := by
  refine returnsInHanded_of_calls own started noInit witness ?_
  intro w tape i _ hsh _ hok hpre hholds
  obtain ⟨_, _, _, fn', hfn', _, _, _, _, hval⟩ := hok
  have e : fn' = fn := Option.some.inj (hfn'.symm.trans hfn)
  subst e
  obtain ⟨⟨⟨ds, gs, before, hw, hc⟩, hx⟩, hz⟩ := hpre
  have hw' := DataW.Whole.of_heap (w' := w.forCall tape i) (by rfl) hw
  refine (contract (w.forCall tape i) w.heap.size i.args ds gs before hval hw' (hX _ _ _ (by rfl) hx) hsh).mono fun e W' ⟨v, he, hp⟩ => ?_
  subst he
  exact ChangeSpec.post_blind hp
end

theorem Tryd.tSyn : (Tryd.prog.globals[7]?).map (·.type) = some 58 := by kernel_rfl
theorem Tryd.tRng : (Tryd.prog.globals[8]?).map (·.type) = some 58 := by kernel_rfl
theorem Tryd.esCells : Tryd.prog.cellsOf 195 = 1 := by kernel_rfl
theorem Tryd.stCells : Tryd.prog.cellsOf 9 = 1 := by kernel_rfl
theorem esStar : "*" ++ "errors.errorString" = "*errors.errorString" := by decide
theorem Tryd.esRow (u : TypeId) (h : Tryd.prog.typeName? 3 u = some "*errors.errorString") : u = 193 :=
  typeName_ptr_named (nm := "errors.errorString") (by rw [esStar]; kernel_rfl) (by kernel_rfl) (by decide) u (by rw [esStar]; exact h)

set_option maxRecDepth 100000 in
theorem layR_of_laid {W : World} (h : laidMet Tryd.prog Rows.fnExactReadEventsRow.laid W) (hsh : W.ShapedOpen Tryd.prog) : LayR W := by
  have h2 := laidMet.tail (laidMet.tail h)
  have h4 := laidMet.tail (laidMet.tail h2)
  have h5 := laidMet.tail h4
  have h6 := laidMet.tail h5
  obtain ⟨a1, s1, v1, _⟩ := laid_sentinel h4 Tryd.gRng Tryd.tRng Tryd.underlying58 Tryd.esRow Tryd.underlying193 Tryd.underlying195 rfl rfl Tryd.underlying9 Tryd.esCells Tryd.stCells
  obtain ⟨a2, s2, v2, _⟩ := laid_sentinel h5 Tryd.gSyn Tryd.tSyn Tryd.underlying58 Tryd.esRow Tryd.underlying193 Tryd.underlying195 rfl rfl Tryd.underlying9 Tryd.esCells Tryd.stCells
  exact ⟨lay_of_laid h2 h6, ⟨_, _, v2⟩, ⟨_, _, v1⟩, cell_of_shapedOpen_int (t := 3) (zero := #[.int .i64 0]) hsh (of_decide_eq_true (by kernel_rfl)) (by kernel_rfl) rfl (by kernel_rfl) (by kernel_rfl) Tryd.underlying3⟩

/-- The cells of a datum of numbers or strings. -/
def litC (d : DataW Unit) : List Value :=
  match d with
  | .lit (.int k z) => [.int k z]
  | .lit (.string s) => [.string ⟨s.toArray⟩]
  | _ => []
def aggC (d : DataW Unit) : List Value :=
  match d with
  | .agg ds => ds.flatMap litC
  | _ => []
def agg2C (d : DataW Unit) : List Value :=
  match d with
  | .agg ds => ds.flatMap aggC
  | _ => []

/-- a world in which the listed variables lie as they are laid -/
def laidW (P : Program) (os : Os) : World :=
  let k := (World.holding P default ⟨#[], #[], []⟩).heap.size
  let w0 := World.holding P os ⟨#[.cells #[.string { data := #[118, 97, 108, 117, 101, 32, 111, 117, 116, 32, 111, 102, 32, 114, 97, 110, 103, 101] }] 195, .cells #[.string { data := #[105, 110, 118, 97, 108, 105, 100, 32, 115, 121, 110, 116, 97, 120] }] 195], #[], []⟩
  let put := fun (h : Array Obj) (g : Nat) (cs : Array Value) => h.modify g fun
      | .cells _ t frozen => .cells cs t frozen
      | o => o
  { w0 with heap := put (put (put (put (put (put (put (put w0.heap 9 (aggC Rows.laid_math_bits_deBruijn32tab).toArray) 10 (aggC Rows.laid_math_bits_deBruijn64tab).toArray) 5 (aggC Rows.laid_internal_strconv_uint64pow10).toArray) 12 (agg2C Rows.laid_unicode_utf8_acceptRanges).toArray) 8 #[.iface 193 (.pointer (some ⟨k, 0, none⟩))]) 7 #[.iface 193 (.pointer (some ⟨k + 1, 0, none⟩))]) 4 (aggC Rows.laid_loop_example_treadle_impl_words).toArray) 11 (aggC Rows.laid_unicode_utf8_first).toArray }
theorem laidW_met (os : Os) (args : Array Value) : laidMet Tryd.prog Rows.fnExactReadEventsRow.laid ((laidW Tryd.prog os).forCall (fun _ _ => 0) ⟨#[], args, []⟩).memory :=
  laidMet_of_run3 8 (by kernel_rfl) (by kernel_rfl) (by kernel_rfl)

set_option maxRecDepth 100000 in
theorem fnExactReadEvents_lifted (os : Os) (started : os.Started) (H : Type) (enc : TypeId × Value → H) :
    ReturnsInHanded {} Tryd.checked os 5 .any (fun w args => (Rows.fnExactReadEventsSpec.pre enc Tryd.prog Tryd.f5 [] false w args ∧ laidMet Tryd.prog Rows.fnExactReadEventsRow.laid w) ∧ sizedMet enc Tryd.prog Tryd.f5 (OpenSpec.ofChange Rows.fnExactReadEventsSpec) false w args)
      (Rows.fnExactReadEventsSpec.post enc Tryd.prog Tryd.f5 false true false false) := by
  refine handed_and_shaped (C := Tryd.checked) (X := fun w _ => laidMet Tryd.prog Rows.fnExactReadEventsRow.laid w) (fun _ _ _ hh h => h.of_heap hh) Tryd.own started (by kernel_rfl) Tryd.func5
    (ChangeSpec.witness_at (enc := enc) (C := Tryd.checked) (os := os) (X := fun w _ => laidMet Tryd.prog Rows.fnExactReadEventsRow.laid w) false (laidW Tryd.prog os) #[.agg #[.int .i64 0, .slice none 0 0], .string ⟨#[]⟩] 8 rfl (by kernel_rfl) (by kernel_rfl) (by kernel_rfl) (by kernel_rfl) (by kernel_rfl) (laidW_met os _)) ?_
  intro W base args ds gs before hval0 hW hL hsh
  have hval : ∀ (j : Nat) t v, Tryd.f5.params[j]? = some t → args[j]? = some v → Value.okWide Tryd.prog W .any base t v := hval0
  have hW' := hW
  obtain ⟨p, q, hA0, hV0, rfl, hfz, hnd⟩ := hW
  have hA : DataW.TrodAll enc Tryd.prog W 0 (fun _ => true) true Tryd.f5.params.toList args.toList ds p := hA0
  have hV : DataW.TrodVars enc Tryd.prog W (fun _ => true) ["loop.example/treadle/impl.words"] gs q := hV0
  rw [Tryd.params5] at hA hval
  obtain ⟨v0, vs0, d0, ds0, p0, q0, hargs, rfl, rfl, h0, r0⟩ := trodAll_cons hA
  obtain ⟨v1, vs1, d1, ds1, p1, q1, rfl, rfl, rfl, h1, r1⟩ := trodAll_cons r0
  obtain ⟨rfl, rfl, rfl⟩ := trodAll_nil r1
  obtain rfl : args = #[v0, v1] := by rw [← Array.toList_inj]; exact hargs
  obtain ⟨gd, rfl⟩ : ∃ d, gs = [d] := by
    obtain ⟨g, t, cs, fuel, d, p, h, _⟩ := trodVars_one hV
    exact ⟨d, h⟩
  have hS : LayR W := layR_of_laid hL hsh
  have hl0 : ∀ x ∈ p0, x.block < W.heap.size := fun x hx => by simpa using hW'.lt x (by simp [hx])
  have hl1 : ∀ x ∈ p1, x.block < W.heap.size := fun x hx => by simpa using hW'.lt x (by simp [hx])
  obtain ⟨S, ao, n, cap, F, T, rfl, hn, hc, _⟩ := open_layout (hval 0 24 v0 rfl rfl) h0
  obtain ⟨t, rfl⟩ : ∃ t : List UInt8, v1 = .string ⟨t.toArray⟩ := by
    obtain ⟨s, h2, _⟩ := ChangeMaps.open_string Tryd.underlying9 (hval 1 9 v1 rfl rfl) h1
    exact ⟨s.data.toList, by rw [h2, mk_data]⟩
  clear hA0 hval0 hV0
  have key : Calls Tryd.prog 5 #[.agg #[.int .i64 S, .slice ao n cap], .string ⟨t.toArray⟩] W fun e w' => e = .returned (.bool true) ∧ Below W.heap.size W w' := by
    by_cases ht : (1048576 : Int) < (t.length : Int)
    · exact read_long S ao n cap t W ht
    · by_cases h : (n : Int) ≤ 1048576
      · have hlen := rdZ_len S n F T t
        obtain ⟨R, hR⟩ : ∃ R, rdZ S n F T t = R := ⟨_, rfl⟩
        rw [hR] at hlen
        obtain ⟨A, B, l⟩ := R
        exact read_small S ao n cap F T t W ht h hc hS A (B : Int) l hlen
          (fun g V hr => (specRead_any S g n F T t V hr (by omega)).mono fun e w' hh => by rw [hR] at hh; exact scp_open hh)
          (fun g V hr hla => (implRead_any S g n F T t V hr hla (by omega)).mono fun e w' hh => by rw [hR] at hh; exact scp_open hh)
      · exact read_great S ao n cap t W hn ht h
  refine key.mono fun e W' ⟨he, hb⟩ => ?_
  subst he
  refine ⟨_, rfl, _, _, _, [], p0 ++ (p1 ++ []), q, hW', ?_, ?_, ?_, hb.frame _, fun h => by cases h⟩
  · exact trodAll_mk1 (shut_bool Tryd.underlying4 true)
  · exact trodAll_cons_mk (Below.trod Tryd.laidOut (by kernel_rfl) (of_decide_eq_true (by kernel_rfl)) h0 hb hl0) (trodAll_cons_mk (Below.trod Tryd.laidOut (by kernel_rfl) (of_decide_eq_true (by kernel_rfl)) h1 hb hl1) trodAll_mk0)
  · exact Below.trodVars Tryd.laidOut hb (by kernel_rfl) hV

theorem fnExactReadEvents_row : Rows.FnExactReadEventsSaid :=
  OpenClaim.holds_of_wide 5 Tryd.f5 rfl rfl rfl rfl rfl rfl rfl ⟨rfl, rfl, rfl, rfl, rfl⟩ rfl rfl rfl rfl rfl (by kernel_rfl) Tryd.func5 (by kernel_rfl)
    (of_decide_eq_true (by kernel_rfl)) (by unfold Func.isWrapper; first | (rw [if_pos (by decide +kernel)]; kernel_rfl) | (rw [if_neg (by decide +kernel)]; exact ⟨rfl, rfl⟩))
    (fun os started H enc _ => fnExactReadEvents_lifted os started H enc)

theorem fnExactReadEvents_holds : Rows.FnExactReadEventsCardSaid :=
  Claim7.holds_tied_plain_at .later [] [.data, .data, .data, .data, .sentinel, .sentinel, .data, .pinned] true (true, "63445a523dcad1b86ad655c32deafe18bd45c1614bc0c2229d9e27a68d4877f7") true
    fnExactReadEvents_row (fun _ h => by cases h) (by kernel_rfl) (fun _ h => by cases h) fnExactReadEvents_row_tie rfl ⟨rfl, rfl⟩ (by kernel_rfl) rfl
    (fun f fn hf hfn => by
      obtain rfl : f = 5 := Option.some.inj ((show Tryd.prog.funcNamed "loop.example/treadle/laws.FnExactReadEvents" = some 5 by kernel_rfl).symm.trans hf) |>.symm
      obtain rfl : fn = Tryd.f5 := (Option.some.inj (Tryd.func5.symm.trans hfn)).symm
      exact ⟨by kernel_rfl, fun j t ht => by
        rw [Tryd.params5] at ht
        match j with
        | 0 =>
          have h3 : t = 24 := by simpa using ht.symm
          subst h3
          exact (show Tryd.prog.wantsStandIn 24 = false by kernel_rfl)
        | 1 =>
          have h3 : t = 9 := by simpa using ht.symm
          subst h3
          exact (show Tryd.prog.wantsStandIn 9 = false by kernel_rfl)
        | j + 2 => simp at ht⟩)
    (by kernel_rfl)

#print axioms fnExactReadEvents_holds

end Go.Proofs.YtlpopfhaephfaabDoor
