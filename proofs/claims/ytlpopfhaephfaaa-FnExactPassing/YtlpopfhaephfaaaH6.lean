import Derived.Test.YtlpopfhaephfaaaH5
import Derived.Test.YtlpopfhaephfaaaP4
import Derived.Test.YtlpopfhaephfaaaMrg
namespace Go.Proofs.Ytlpopfhaephfaaa
open Go.RowKit Go.Sort

theorem Fr.below {w W W' : World} {B hb : Nat} {r : Option Nat} (h : Below B w W) (hF : Fr W W' hb r) (hBW : B ≤ W.heap.size) (h1 : B ≤ hb) (h2 : ∀ g, r = some g → B ≤ g) : Below B w W' :=
  h.trans ⟨hF.os, hF.tape, hF.output, hF.size, fun k hk => hF.block k (by omega) (by omega) (fun e => by have := h2 k e.symm; omega)⟩

/-- the heap holds the first meetings of the first k axles -/
structure FM (w : World) (hb lo : Nat) (v : Value) (L : List M3) (k nP : Nat) (P : Nat → Nat → Int) (Z : Nat → Int) (fr : Int) : Prop where
  at_ : HeapAt w hb lo v L
  hp : HeapL L
  nd : L.Nodup
  len : L.length ≤ k
  lm : ∀ z, z ∈ L ↔ ∃ j, j < k ∧ fst P nP fr (Z j) < nP ∧ z = item P Z j (fst P nP fr (Z j))

theorem FM.skip {w : World} {hb lo k nP : Nat} {v : Value} {L : List M3} {P : Nat → Nat → Int} {Z : Nat → Int} {fr : Int} (h : FM w hb lo v L k nP P Z fr) (hs : fst P nP fr (Z k) = nP) : FM w hb lo v L (k + 1) nP P Z fr :=
  ⟨h.at_, h.hp, h.nd, by have := h.len; omega, fun z => by
    rw [h.lm]
    constructor
    · rintro ⟨j, a, b, e⟩; exact ⟨j, by omega, b, e⟩
    · rintro ⟨j, a, b, e⟩
      rcases (show j < k ∨ j = k by omega) with h' | rfl
      · exact ⟨j, h', b, e⟩
      · omega⟩

theorem FM.push {w w' : World} {hb lo k nP i : Nat} {v v' : Value} {L L' : List M3} {P : Nat → Nat → Int} {Z : Nat → Int} {fr : Int} (h : FM w hb lo v L k nP P Z fr) (hs : fst P nP fr (Z k) = i) (hi : i < nP) (hA : HeapAt w' hb lo v' L') (hH : HeapL L') (hP : L'.Perm (L ++ [item P Z k i])) : FM w' hb lo v' L' (k + 1) nP P Z fr := by
  refine ⟨hA, hH, ?_, ?_, fun z => ?_⟩
  · rw [hP.nodup_iff, List.nodup_append]
    refine ⟨h.nd, by simp, fun x hx y hy e => ?_⟩
    rw [List.mem_singleton] at hy
    subst hy; subst e
    obtain ⟨j, a, _, e⟩ := (h.lm _).1 hx
    have := (item_inj e).1
    omega
  · have := hP.length_eq; have := h.len; simp at *; omega
  · rw [hP.mem_iff, List.mem_append, List.mem_singleton, h.lm]
    constructor
    · rintro (⟨j, a, b, e⟩ | e)
      · exact ⟨j, by omega, b, e⟩
      · exact ⟨k, by omega, by omega, by rw [hs]; exact e⟩
    · rintro ⟨j, a, b, e⟩
      rcases (show j < k ∨ j = k by omega) with h' | rfl
      · exact .inl ⟨j, h', b, e⟩
      · rw [hs] at e; exact .inr e

set_option maxRecDepth 100000 in
set_option maxHeartbeats 2000000 in
theorem firstMeetings_any (gp ga nP nA : Nat) (P : Nat → Nat → Int) (Z : Nat → Int) (fr : Int) (w : World) (hP : Row w gp 103 3 nP (ints P)) (hA : Blk w ga 3 nA (fun i => .int .i64 (Z i))) (h1 : nP ≤ 120) (h2 : nA ≤ 200)
    (bP : ∀ i, i < nP → 0 ≤ P i 0 ∧ P i 0 ≤ 1000000) (bZ : ∀ i, i < nA → 0 ≤ Z i ∧ Z i ≤ 1000000) :
    Calls Try.prog 66 #[.slice (some ⟨gp, 0, none⟩) nP nP, .slice (some ⟨ga, 0, none⟩) nA nA, .int .i64 fr] w fun e w' => ∃ v L, e = .returned (.pointer (some ⟨w.heap.size, 0, none⟩)) ∧ FM w' w.heap.size w.heap.size v L nA nP P Z fr ∧ Below w.heap.size w w' := by
  have hgp := hP.lt
  have hga := hA.lt
  go_enter Try.func66, Try.ntmps66
  go_wp2
  have F0 : FM (w.alloc (.cells #[.slice none 0 0, .func (.func 107) #[] #[]] 148)) w.heap.size w.heap.size (.slice none 0 0) [] 0 nP P Z fr :=
    ⟨⟨Blk.new w #[.slice none 0 0, .func (.func 107) #[] #[]] _ _ (fun i hi => by match i, hi with | 0, _ => rfl | 1, _ => rfl), World.ownsRow_nil _ _ _ _⟩, fun i _ hi => by simp at hi, by simp, by simp, fun z => ⟨fun h => by simp at h, fun ⟨j, hj, _⟩ => by omega⟩⟩
  go_loopw [15] (fun i wr => ∃ (k : Nat) (v : Value) (L : List M3), k ≤ nA ∧ i = .int .i64 k ∧ FM wr w.heap.size w.heap.size v L k nP P Z fr ∧ Below w.heap.size w wr) (fun i _ => nA - (intOf i).toNat)
  case atStart => exact ⟨0, _, [], Nat.zero_le _, rfl, F0, (by repeat (first | exact Below.refl _ _ | assumption | refine below_alloc ?_ _ | refine Below.setCell ?_ (by first | omega | (simp; done) | (simp; omega)) _ | refine Below.alloc ?_ (by first | omega | (simp; done) | (simp; omega)) _ | refine Below.drew ?_))⟩
  case round =>
    obtain ⟨k, v, L, hk, rfl, hF, hbel⟩ := hrel
    clear F0
    by_cases hlt : k < nA
    · rename World => wo
      have HF : Hid (FM wo w.heap.size w.heap.size v L k nP P Z fr) := hF
      have HB : Hid (RowKit.Below w.heap.size w wo) := hbel
      have z1 := bZ k hlt
      go_wp2
      go_loopw [20] (fun i ws => ∃ j : Nat, j ≤ nP ∧ i = .int .i64 j ∧ RowKit.Below wo.heap.size wo ws ∧ ∀ i, i < j → P i 0 + Z k ≤ fr) (fun i _ => nP - (intOf i).toNat)
      case atStart => exact ⟨0, Nat.zero_le _, rfl, RowKit.Below.refl _ _, fun i hi => by omega⟩
      case round =>
        obtain ⟨j, hj, rfl, hbs, hno⟩ := hrel
        have HNo : Hid (∀ i, i < j → P i 0 + Z k ≤ fr) := hno
        have HBs : Hid (RowKit.Below wo.heap.size wo wr) := hbs
        clear hno
        by_cases hlj : j < nP
        · have BB := below_on hbel hbs
          have p1 := bP j hlj
          have hm := meet_any gp ga nP nA k j P Z wr (hP.below BB hgp) (hA.below BB hga) hlt hlj p1.1 p1.2 z1.1 z1.2
          obtain ⟨x, hx⟩ : ∃ x, P j 0 + Z k = x := ⟨_, rfl⟩
          have HX : Hid (P j 0 + Z k = x) := hx
          rw [hx] at hm
          have hpu := fun W (hW : HeapAt W w.heap.size w.heap.size v L) hlo => push_any w.heap.size w.heap.size v L ⟨x, k, j⟩ W hW hlo (by have := hF.len; omega) hF.hp
          clear hx BB hF hbel hbs
          go_wp2_with fail
          refine hm.mono ?_
          rintro e w2 ⟨rfl, hb2⟩
          have B2 := below_on HBs.out hb2
          clear hm hb2
          by_cases hit : fr < x
          · have hA2 := (HF.out.at_.on B2).on (below_alloc (RowKit.Below.refl _ _) (.cells #[.int .i64 x, .int .i64 k, .int .i64 j] 111))
            have hs2 : w.heap.size ≤ w2.heap.size := Nat.le_trans HB.out.size B2.size
            have hpp := hpu _ hA2 (by simp; omega)
            clear hpu
            go_wp2_with fail
            refine hpp.mono ?_
            rintro e w3 ⟨rfl, v', L', hA3, hH3, hP3, hloc3, hF3⟩
            have FF := FM.push HF.out (fst_hit hlj (fun i hi => Int.not_lt.2 (HNo.out i hi)) (by rw [HX.out]; exact hit)) hlj hA3 hH3 (by unfold item; rw [HX.out]; exact hP3)
            have B3 := Fr.below (below_alloc (below_on HB.out B2) _) hF3 (by simp; omega) (Nat.le_refl _) (fun g hg => (hA2.2.lt g hg).1)
            clear hpp hA2 hA3 hH3 hP3 hF3
            go_wp2_with fail
            go_roundw
            case rel => exact ⟨k + 1, v', L', by omega, by go_num, FF, B3⟩
            case measure => simp [intOf]; omega
          · clear hpu
            go_wp2_with fail
            go_roundw
            case rel =>
              refine ⟨j + 1, by omega, by go_num, below_alloc B2 _, fun i hi => ?_⟩
              rcases (show i < j ∨ i = j by omega) with h' | rfl
              · exact HNo.out i h'
              · rw [HX.out]; omega
            case measure => simp [intOf]; omega
        · have hjn : j = nP := by omega
          subst hjn
          have FF := FM.skip HF.out (fst_none (fun i hi => Int.not_lt.2 (HNo.out i hi)))
          have FF2 : FM wr w.heap.size w.heap.size v L (k + 1) j P Z fr := ⟨FF.at_.on hbs, FF.hp, FF.nd, FF.len, FF.lm⟩
          have B3 := below_on hbel hbs
          clear FF
          go_wp2_with fail
          go_roundw
          case rel => exact ⟨k + 1, v, L, by omega, by go_num, FF2, B3⟩
          case measure => simp [intOf]; omega
    · go_wp2
      go_ret
      have : k = nA := by omega
      subst this
      exact ⟨v, L, rfl, hF, hbel⟩

end Go.Proofs.Ytlpopfhaephfaaa
