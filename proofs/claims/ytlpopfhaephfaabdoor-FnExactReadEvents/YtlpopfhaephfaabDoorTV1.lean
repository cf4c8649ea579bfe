import Derived.Test.YtlpopfhaephfaabDoorTX2
import Derived.Test.YtlpopfhaephfaabDoorTW1
import Derived.Test.YtlpopfhaephfaabDoorTX5
namespace Go.Proofs.YtlpopfhaephfaabDoor
open Go.RowKit

theorem evB_of {S : Int} {n : Nat} {op f d : Int} (h : evB S n op f d = true) : f < (n : Int) ∨ f < S := by
  unfold evB at h
  repeat' split at h
  all_goals simp at h
  all_goals omega

theorem Box3.putv {w : World} {b : Nat} {e : TypeId} {x y z : Value} (h : Box3 w b e x y z) (x' y' z' : Value) : Box3 (((w.setCell ⟨b, 0, none⟩ x').setCell ⟨b, 1, none⟩ y').setCell ⟨b, 2, none⟩ z') b e x' y' z' :=
  (((Blk.set h 0 x').set 1 y').set 2 z').congr fun i hi => by
    match i, hi with
    | 0, _ => rfl
    | 1, _ => rfl
    | 2, _ => rfl

/-- What the model finds of a line. -/
def leV (M : Option (Int × Int × Int)) : Value :=
  match M with
  | some (op, f, d) => .tuple #[.agg #[.int .i64 op, .int .i64 f, .int .i64 d], .bool true]
  | none => .tuple #[.agg #[.int .i64 0, .int .i64 0, .int .i64 0], .bool false]

set_option maxRecDepth 100000 in
set_option maxHeartbeats 4000000 in
theorem l4event_any (S : Int) (g n : Nat) (F T : Nat → Int) (line : List UInt8) (w : World) (hrow : Row w g 81 2 n (two F T)) (hl : lokZ S n F T = 0) :
    Calls Tryd.prog 39 #[.agg #[.int .i64 S, .slice (some ⟨g, 0, none⟩) n n], .string ⟨line.toArray⟩] w fun e w' => e = .returned (leV (parB S n line)) ∧ Below w.heap.size w w' := by
  obtain ⟨r1, r2, r3⟩ := lok_range hl
  obtain ⟨M, hM⟩ : ∃ M, parB S n line = M := ⟨_, rfl⟩
  have hsome : ∀ op f d, M = some (op, f, d) → evB S n op f d = true ∧ lineB op f d = line := fun op f d h => parB_some (hM.trans h)
  have hback : ∀ op f d, evB S n op f d = true → lineB op f d = line → M = some (op, f, d) := fun op f d h1 h2 => by
    rw [← hM, ← h2]; exact parB_line h1 r3 r2
  rw [hM]
  obtain ⟨V, eV⟩ : ∃ V, (w.alloc (.cells #[.int .i64 S, .slice (some ⟨g, 0, none⟩) n n] 31)).alloc (.cells #[.int .i64 0, .int .i64 0, .int .i64 0] 51) = V := ⟨_, rfl⟩
  have bV : Below w.heap.size w V := by rw [← eV]; exact (by repeat (first | exact Below.refl _ _ | assumption | refine below_alloc ?_ _ | refine Below.setCell ?_ (by first | omega | (simp; done) | (simp; omega)) _ | refine Below.alloc ?_ (by first | omega | (simp; done) | (simp; omega)) _ | refine Below.drew ?_))
  have hP : ∀ W, Below V.heap.size V W → (W.cell? ⟨w.heap.size, 0, none⟩ = some (.int .i64 S) ∧ W.cell? ⟨w.heap.size, 1, none⟩ = some (.slice (some ⟨g, 0, none⟩) n n)) ∧ Row W g 81 2 n (two F T) := by
    have c0 : V.cell? ⟨w.heap.size, 0, none⟩ = some (.int .i64 S) := by rw [← eV]; simp
    have c1 : V.cell? ⟨w.heap.size, 1, none⟩ = some (.slice (some ⟨g, 0, none⟩) n n) := by rw [← eV]; simp
    exact fun W hb => ⟨⟨by rw [hb.cell (block_lt_of_cell c0)]; exact c0, by rw [hb.cell (block_lt_of_cell c1)]; exact c1⟩, hrow.on (below_on bV hb)⟩
  obtain ⟨r, er⟩ : ∃ r, w.heap.size + 1 = r := ⟨_, rfl⟩
  have hR : Box3 V r 51 (.int .i64 0) (.int .i64 0) (.int .i64 0) := by
    rw [← eV, ← er]
    have := Box3.lay (w.alloc (.cells #[.int .i64 S, .slice (some ⟨g, 0, none⟩) n n] 31)) (.int .i64 0) (.int .i64 0) (.int .i64 0) 51
    rwa [World.size_alloc] at this
  obtain ⟨most, em⟩ : ∃ most : Int, most = if (n : Int) < S then S else (n : Int) := ⟨_, rfl⟩
  have hmost : most ≤ 120 ∧ (n : Int) ≤ most ∧ S ≤ most := by rw [em]; split <;> omega
  have hwr : Hid (w.heap.size < r ∧ r < V.heap.size) := ⟨by rw [← er]; omega, Blk.lt hR⟩
  have EV : Hid _ := eV
  have ER : Hid _ := er
  have HP : Hid _ := hP
  have HS : Hid _ := hsome
  have HB : Hid _ := hback
  clear eV er hP hsome hback hM hrow
  go_enter Tryd.func39, Tryd.ntmps39
  go_upto_region 1 with fail
  rw [EV.out, ER.out]
  obtain ⟨⟨x0, x1⟩, _⟩ := HP.out V (Below.refl _ _)
  rcases (show (most = S ∧ (n : Int) < S) ∨ (most = (n : Int) ∧ ¬ (n : Int) < S) by rw [em]; split <;> omega) with ⟨em', hc⟩ | ⟨em', hc⟩
  all_goals
    have EM : Hid _ := em'
    clear em em'
    go_wp2
    clear x0 x1
    go_loopw [7] (fun i wr => ∃ o : Nat, 1 ≤ o ∧ o ≤ 6 ∧ i = .int .i64 (o : Int) ∧ Box3 wr r 51 (.int .i64 0) (.int .i64 0) (.int .i64 0) ∧ Below V.heap.size V wr ∧ Hid (∀ op f d, M = some (op, f, d) → (o : Int) ≤ op)) (fun i _ => 6 - (intOf i).toNat)
    case atStart => exact ⟨1, by omega, by omega, rfl, hR, Below.refl _ _, fun op f d h => (evB_range (HS.out op f d h).1 r3 r2).1.1⟩
    case round =>
      obtain ⟨o, h1, h6, rfl, hb, Bw, hH⟩ := hrel
      by_cases ho : o ≤ 5
      · have hi1 : (o : Int) ≤ 5 := by omega
        obtain ⟨wb, hwb⟩ : ∃ wb, wordB (o : Int) = wb := ⟨_, rfl⟩
        have lw : wb.length ≤ 5 := by rw [← hwb]; exact wordB_length _
        obtain ⟨s1, hs1⟩ : ∃ s1, wb ++ [32] = s1 := ⟨_, rfl⟩
        have l1 : s1.length ≤ 6 := by rw [← hs1]; simp; omega
        have hadd1 : ∀ X : World, (Op.stringOp .add ⟨wb.toArray⟩ ⟨#[32]⟩).run Tryd.prog X = .ok (.string ⟨s1.toArray⟩) X := fun X => by rw [← hs1]; exact run_string_add_lists X wb [32] (by omega) (by simp)
        have cw : (wr.alloc (.cells wordsA 9)).cell? ⟨wr.heap.size, o, none⟩ = some (.string ⟨wb.toArray⟩) := by
          rw [← hwb]
          have := wordsA_at (o := o) (by omega)
          simp [this]
        have hw6 : (o : Int) < 6 := by omega
        have hpre : Hid (∀ f d, M = some ((o : Int), f, d) → s1.length ≤ line.length ∧ line.take s1.length = s1) := fun f d h => by
          have := (HS.out _ f d h).2
          have e : line = s1 ++ (Lib.itoa f ++ signB d) := by rw [← this, ← hs1, ← hwb]; simp [lineB]
          rw [e]
          simp
        have bW := below_alloc Bw (.cells wordsA 9)
        have hbW := hb.alloc (.cells wordsA 9)
        clear hs1 hwb hb Bw
        go_wp2_with fail
        refine (l4words_any _).mono ?_
        rintro e w1 ⟨rfl, rfl⟩
        by_cases hlt : line.length < s1.length
        · have hi2 : (line.length : Int) < (s1.length : Int) := by omega
          have hN : Hid (∀ op f d, M = some (op, f, d) → ((o + 1 : Nat) : Int) ≤ op) := fun op f d h => by
            have h3 := hH.out op f d h
            by_cases h4 : op = (o : Int)
            · subst h4
              have := (hpre.out f d h).1
              omega
            · omega
          go_wp2
          exact ⟨⟨o + 1, by omega, by omega, by simp, hbW, bW, hN⟩, by simp [intOf]; omega⟩
        · have hi2 : ¬ (line.length : Int) < (s1.length : Int) := by omega
          have hex : ((⟨line.toArray⟩ : ByteArray).extract 0 s1.length).toList = line.take s1.length := by rw [ByteArray.toList_eq, Lib.extract_from_zero]
          by_cases htk : line.take s1.length = s1
          · have hq : (line.take s1.length == s1) = true := by simpa using htk
            clear hpre htk
            go_wp2
            clear hex hq cw hadd1
            go_loopw [10] (fun i wr => ∃ fv : Nat, i = .int .i64 (fv : Int) ∧ Box3 wr r 51 (.int .i64 0) (.int .i64 0) (.int .i64 0) ∧ Below V.heap.size V wr ∧ Hid (∀ op f d, M = some (op, f, d) → (o : Int) ≤ op ∧ (op = (o : Int) → (fv : Int) ≤ f))) (fun i _ => most.toNat - (intOf i).toNat)
            case atStart => exact ⟨0, rfl, hbW, bW, fun op f d h => ⟨hH.out op f d h, fun _ => (evB_range (HS.out op f d h).1 r3 r2).2.1.1⟩⟩
            case round =>
              clear hbW bW hH
              obtain ⟨fv, rfl, hb, Bw, hH⟩ := hrel
              by_cases hf : (fv : Int) < most
              · have hf2 := hf
                rw [EM.out] at hf2
                have hfm : fv < 120 := by omega
                go_wp2
                go_loopw [11] (fun i wr => ∃ dv : Int, -1 ≤ dv ∧ dv ≤ 2 ∧ i = .int .i64 dv ∧ Box3 wr r 51 (.int .i64 0) (.int .i64 0) (.int .i64 0) ∧ Below V.heap.size V wr ∧ Hid (∀ op f d, M = some (op, f, d) → (o : Int) ≤ op ∧ (op = (o : Int) → (fv : Int) ≤ f ∧ (f = (fv : Int) → dv ≤ d)))) (fun i _ => (2 - intOf i).toNat)
                case atStart => exact ⟨-1, by omega, by omega, rfl, hb, Bw, fun op f d h => ⟨(hH.out op f d h).1, fun h2 => ⟨(hH.out op f d h).2 h2, fun _ => by have := (evB_range (HS.out op f d h).1 r3 r2).2.2; omega⟩⟩⟩
                case round =>
                  clear hb Bw hH
                  obtain ⟨dv, d1, d2, rfl, hb, Bw, hH⟩ := hrel
                  by_cases hd : dv ≤ 1
                  · obtain ⟨⟨x0, x1⟩, ro⟩ := HP.out wr Bw
                    have ke := specEventOk_any S (o : Int) (fv : Int) dv g n F T _ (ro.alloc (.cells #[.int .i64 (o : Int), .int .i64 (fv : Int), .int .i64 dv] 51))
                    have eE : evOk S n F T (o : Int) (fv : Int) dv = evB S n (o : Int) (fv : Int) dv := by unfold evOk; rw [hl]; simp
                    rw [eE] at ke
                    have bA := below_alloc (Below.refl wr.heap.size wr) (.cells #[.int .i64 (o : Int), .int .i64 (fv : Int), .int .i64 dv] 51)
                    have eA := Box3.lay wr (.int .i64 (o : Int)) (.int .i64 (fv : Int)) (.int .i64 dv) 51
                    have lw0 : w.heap.size < wr.heap.size := by have := Bw.size; have := hwr.out; omega
                    clear eE ro
                    cases hv : evB S n (o : Int) (fv : Int) dv with
                    | false =>
                      rw [hv] at ke
                      have hN : Hid (∀ op f d, M = some (op, f, d) → (o : Int) ≤ op ∧ (op = (o : Int) → (fv : Int) ≤ f ∧ (f = (fv : Int) → dv + 1 ≤ d))) := fun op f d h => by
                        have h3 := hH.out op f d h
                        refine ⟨h3.1, fun h4 => ⟨(h3.2 h4).1, fun h5 => ?_⟩⟩
                        have h6 := (h3.2 h4).2 h5
                        by_cases h7 : d = dv
                        · subst h7; subst h5; subst h4
                          have := (HS.out _ _ _ h).1
                          rw [hv] at this
                          cases this
                        · omega
                      clear hv hH
                      go_wp2_with fail
                      refine ke.mono ?_
                      clear ke
                      rintro e w4 ⟨rfl, b4⟩
                      have hb4 := hb.on (below_on bA b4)
                      have B4 := below_on Bw (below_on bA b4)
                      clear hb Bw bA b4 eA
                      go_wp2
                      exact ⟨⟨dv + 1, by omega, by omega, rfl, hb4, B4, hN⟩, by simp [intOf]; omega⟩
                    | true =>
                      rw [hv] at ke
                      have kl := fun W => l4line_any (o : Int) (fv : Int) dv (by omega) (by omega) (by omega) (by omega) (by omega) W
                      by_cases heq : lineB (o : Int) (fv : Int) dv = line
                      · have hMs := HB.out _ _ _ hv heq
                        subst hMs
                        rw [heq] at kl
                        clear hv hH heq HS HB
                        go_wp2_with fail
                        refine ke.mono ?_
                        clear ke
                        rintro e w4 ⟨rfl, b4⟩
                        obtain ⟨a0, a1, a2⟩ := (eA.on b4).cells
                        go_wp2_with fail
                        refine (kl _).mono ?_
                        clear kl
                        rintro e w5 ⟨rfl, b5⟩
                        have B5 := below_on bA (below_on b4 b5)
                        have hb5 := hb.on B5
                        obtain ⟨a0, a1, a2⟩ := ((eA.on b4).on b5).cells
                        obtain ⟨y0, y1, y2⟩ := hb5.cells
                        have z0 := Blk.frozen hb5 0
                        have z1 := Blk.frozen hb5 1
                        have z2 := Blk.frozen hb5 2
                        have hx2 := Box3.putv hb5 (.int .i64 (o : Int)) (.int .i64 (fv : Int)) (.int .i64 dv)
                        obtain ⟨m0, m1, m2⟩ := hx2.cells
                        have FIN := below_on bV (below_on Bw B5)
                        have F2 : Hid (Below w.heap.size w (((w5.setCell ⟨r, 0, none⟩ (.int .i64 (o : Int))).setCell ⟨r, 1, none⟩ (.int .i64 (fv : Int))).setCell ⟨r, 2, none⟩ (.int .i64 dv))) := ((FIN.setCell (Nat.le_of_lt hwr.out.1) _).setCell (Nat.le_of_lt hwr.out.1) _).setCell (Nat.le_of_lt hwr.out.1) _
                        have hne : ¬ wr.heap.size = r := by have := hwr.out; have := Bw.size; omega
                        clear hx2 hb5 hb Bw FIN bA b4 b5 B5 eA
                        go_wp2
                        exact bodyPost_ret (v := .tuple #[.agg #[.int .i64 (o : Int), .int .i64 (fv : Int), .int .i64 dv], .bool true]) (by simp [results, Tryd.results39, go_sem, m0, m1, m2]) rfl ⟨rfl, F2.out⟩
                      · have hN : Hid (∀ op f d, M = some (op, f, d) → (o : Int) ≤ op ∧ (op = (o : Int) → (fv : Int) ≤ f ∧ (f = (fv : Int) → dv + 1 ≤ d))) := fun op f d h => by
                          have h3 := hH.out op f d h
                          refine ⟨h3.1, fun h4 => ⟨(h3.2 h4).1, fun h5 => ?_⟩⟩
                          have h6 := (h3.2 h4).2 h5
                          by_cases h7 : d = dv
                          · subst h7; subst h5; subst h4
                            exact absurd (HS.out _ _ _ h).2 heq
                          · omega
                        obtain ⟨L, eL⟩ : ∃ L, lineB (o : Int) (fv : Int) dv = L := ⟨_, rfl⟩
                        rw [eL] at kl heq
                        have hq2 : (L == line) = false := by simpa using heq
                        clear hv hH heq eL
                        go_wp2_with fail
                        refine ke.mono ?_
                        clear ke
                        rintro e w4 ⟨rfl, b4⟩
                        obtain ⟨a0, a1, a2⟩ := (eA.on b4).cells
                        go_wp2_with fail
                        refine (kl _).mono ?_
                        clear kl
                        rintro e w5 ⟨rfl, b5⟩
                        have B5 := below_on bA (below_on b4 b5)
                        have hb5 := hb.on B5
                        have BB := below_on Bw B5
                        clear hb Bw bA b4 b5 B5 eA a0 a1 a2
                        go_wp2
                        exact ⟨⟨dv + 1, by omega, by omega, rfl, hb5, BB, hN⟩, by simp [intOf]; omega⟩
                  · have hN : Hid (∀ op f d, M = some (op, f, d) → (o : Int) ≤ op ∧ (op = (o : Int) → ((fv + 1 : Nat) : Int) ≤ f)) := fun op f d h => by
                      have h3 := hH.out op f d h
                      refine ⟨h3.1, fun h4 => ?_⟩
                      have h5 := h3.2 h4
                      by_cases h6 : f = (fv : Int)
                      · have := h5.2 h6
                        have := (evB_range (HS.out op f d h).1 r3 r2).2.2
                        omega
                      · omega
                    go_wp2
                    exact ⟨⟨fv + 1, by simp, hb, Bw, hN⟩, by simp [intOf]; omega⟩
              · have hf2 := hf
                rw [EM.out] at hf2
                have hN : Hid (∀ op f d, M = some (op, f, d) → ((o + 1 : Nat) : Int) ≤ op) := fun op f d h => by
                  have h3 := hH.out op f d h
                  by_cases h4 : op = (o : Int)
                  · have h5 := h3.2 h4
                    have h6 := evB_of (HS.out op f d h).1
                    omega
                  · omega
                go_wp2
                exact ⟨⟨o + 1, by omega, by omega, by simp, hb, Bw, hN⟩, by simp [intOf]; omega⟩
          · have hq : (line.take s1.length == s1) = false := by simpa using htk
            have hN : Hid (∀ op f d, M = some (op, f, d) → ((o + 1 : Nat) : Int) ≤ op) := fun op f d h => by
              have h3 := hH.out op f d h
              by_cases h4 : op = (o : Int)
              · subst h4
                exact absurd (hpre.out f d h).2 htk
              · omega
            clear hpre htk hH
            go_wp2
            exact ⟨⟨o + 1, by omega, by omega, by simp, hbW, bW, hN⟩, by simp [intOf]; omega⟩
      · have hi1 : ¬ (o : Int) ≤ 5 := by omega
        have hNone : M = none := by
          cases hM : M with
          | none => rfl
          | some e =>
            obtain ⟨op, f, d⟩ := e
            have h3 := hH.out op f d hM
            have := (evB_range (HS.out op f d hM).1 r3 r2).1
            omega
        subst hNone
        have FIN := below_on bV Bw
        obtain ⟨y0, y1, y2⟩ := hb.cells
        have z0 := Blk.frozen hb 0
        have z1 := Blk.frozen hb 1
        have z2 := Blk.frozen hb 2
        have hx2 := Box3.putv hb (.int .i64 0) (.int .i64 0) (.int .i64 0)
        obtain ⟨m0, m1, m2⟩ := hx2.cells
        have F2 : Hid (Below w.heap.size w (((wr.setCell ⟨r, 0, none⟩ (.int .i64 0)).setCell ⟨r, 1, none⟩ (.int .i64 0)).setCell ⟨r, 2, none⟩ (.int .i64 0))) := ((FIN.setCell (Nat.le_of_lt hwr.out.1) _).setCell (Nat.le_of_lt hwr.out.1) _).setCell (Nat.le_of_lt hwr.out.1) _
        clear hx2 hb Bw hH FIN
        go_wp2
        exact bodyPost_ret (v := .tuple #[.agg #[.int .i64 0, .int .i64 0, .int .i64 0], .bool false]) (by simp [results, Tryd.results39, go_sem, m0, m1, m2]) rfl ⟨rfl, F2.out⟩

end Go.Proofs.YtlpopfhaephfaabDoor
