import Derived.Test.YtlpopfhaephfaabDM5
namespace Go.Proofs.Ytlpopfhaephfaab
open Go.RowKit Go.Maps Go.Sort

def scells (x : Sec) : List Value := [.int .i64 x.told, .int .i64 x.count, .bool x.lost, .bool x.sweep, .int .i64 x.last]
def secL (X : Nat → Sec) : Nat → List Value
  | 0 => []
  | k + 1 => secL X k ++ scells (X k)
def boolL (D : Nat → Bool) : Nat → List Value
  | 0 => []
  | k + 1 => boolL D k ++ [.bool (D k)]

theorem secL_len (X : Nat → Sec) (k : Nat) : (secL X k).length = k * 5 := by
  induction k with
  | zero => rfl
  | succ k ih => simp only [secL, List.length_append, ih, scells, List.length_cons, List.length_nil]; omega
theorem boolL_len (D : Nat → Bool) (k : Nat) : (boolL D k).length = k := by
  induction k with
  | zero => rfl
  | succ k ih => simp only [boolL, List.length_append, ih, List.length_cons, List.length_nil]
theorem secL_get (X : Nat → Sec) (k i j : Nat) (hi : i < k) (hj : j < 5) : (secL X k)[i * 5 + j]? = some (scell (X i) j) := by
  induction k with
  | zero => omega
  | succ k ih =>
    unfold secL
    by_cases e : i < k
    · rw [List.getElem?_append_left (by rw [secL_len]; omega)]; exact ih e
    · have e' : i = k := by omega
      subst e'
      rw [List.getElem?_append_right (by rw [secL_len]; omega), secL_len]
      have : i * 5 + j - i * 5 = j := by omega
      rw [this]
      match j, hj with | 0, _ => rfl | 1, _ => rfl | 2, _ => rfl | 3, _ => rfl | 4, _ => rfl
theorem boolL_get (D : Nat → Bool) (k i : Nat) (hi : i < k) : (boolL D k)[i]? = some (.bool (D i)) := by
  induction k with
  | zero => omega
  | succ k ih =>
    unfold boolL
    by_cases e : i < k
    · rw [List.getElem?_append_left (by rw [boolL_len]; omega)]; exact ih e
    · have e' : i = k := by omega
      subst e'
      rw [List.getElem?_append_right (by rw [boolL_len]; omega), boolL_len]
      simp
theorem secL_one (X : Nat → Sec) (k : Nat) : ∀ u ∈ secL X k, u.oneCell' = true := by
  induction k with
  | zero => simp [secL]
  | succ k ih =>
    intro u hu
    unfold secL at hu
    rcases List.mem_append.1 hu with h | h
    · exact ih u h
    · simp only [scells, List.mem_cons, List.not_mem_nil, or_false] at h
      rcases h with rfl | rfl | rfl | rfl | rfl <;> rfl
theorem boolL_one (D : Nat → Bool) (k : Nat) : ∀ u ∈ boolL D k, u.oneCell' = true := by
  induction k with
  | zero => simp [boolL]
  | succ k ih =>
    intro u hu
    unfold boolL at hu
    rcases List.mem_append.1 hu with h | h
    · exact ih u h
    · simp only [List.mem_cons, List.not_mem_nil, or_false] at h
      subst h; rfl

theorem SlF.of_ownsRow {w : World} {base e sz n : Nat} {v : Value} {xs : List Value} {G : Nat → Nat → Value} (h : w.ownsRow base e sz v n xs) (hG : ∀ i, i < n → ∀ j, j < sz → xs[i * sz + j]? = some (G i j)) : SlF w e sz base w.heap.size v n G := by
  rcases h.2 with ⟨rfl, h0⟩ | ⟨g, cap, cur, rfl, hb, hh, hn, hm, hs, ht⟩
  · exact ⟨none, 0, by rw [h0], .inl h0⟩
  · have hlt : g < w.heap.size := (Array.getElem?_eq_some_iff.1 hh).1
    have hle : n * sz ≤ cap * sz := Nat.mul_le_mul_right sz hn
    refine ⟨_, cap, rfl, .inr ⟨g, cap * sz, fun i => cur.toList.getD i (.int .i64 0), rfl, hb, hlt, hle, ⟨cur, hh, by simpa using hs, fun i hi => ?_⟩, fun i hi j hj => ?_⟩⟩
    · have : i < cur.size := by rw [hs]; exact hi
      simp [this]
    · have hlt2 := idx_lt hi hj
      have e1 := hG i hi j hj
      rw [← ht, List.getElem?_take_of_lt hlt2] at e1
      simp [List.getD, e1]

def told1 (n : Nat) (F T : Nat → Int) (D : Nat → Bool) (X : Nat → Sec) (i : Nat) : Sec := ⟨toldZ (deadB n F T D (i : Int)) (X i), (X i).count, (X i).lost, (X i).sweep, (X i).last⟩
def toldTo (n : Nat) (F T : Nat → Int) (D : Nat → Bool) (X : Nat → Sec) (k : Nat) : Nat → Sec := fun i => if i < k then told1 n F T D X i else X i

theorem told_step {w : World} {lo hi gs ns c1 n k : Nat} {F T : Nat → Int} {X : Nat → Sec} {D : Nat → Bool} (h : SlF w 93 5 lo hi (.slice (some ⟨gs, 0, none⟩) ns c1) ns (secs (toldTo n F T D X k))) (hk : k < ns) :
    SlF (w.setCell ⟨gs, k * 5, none⟩ (.int .i64 (toldZ (deadB n F T D (k : Int)) (X k)))) 93 5 lo hi (.slice (some ⟨gs, 0, none⟩) ns c1) ns (secs (toldTo n F T D X (k + 1))) :=
  (h.set hk (j := 0) (by omega) _).congr fun i hi j hj => by
    by_cases e : i = k
    · subst e
      match j, hj with
      | 0, _ => simp [secs, scell, toldTo, told1]
      | 1, _ => simp [secs, scell, toldTo, told1]
      | 2, _ => simp [secs, scell, toldTo, told1]
      | 3, _ => simp [secs, scell, toldTo, told1]
      | 4, _ => simp [secs, scell, toldTo, told1]
    · have e1 : i < k + 1 ↔ i < k := by omega
      simp [secs, toldTo, e, e1]

set_option maxHeartbeats 1000000 in
theorem tell_any (S : Int) (g n B lo hi : Nat) (F T : Nat → Int) (ok : Bool) (gs : Nat) (a2 : Option Addr) (ns c1 c2 : Nat) (X : Nat → Sec) (D : Nat → Bool) (w : World) (hn : n ≤ 120) (h1 : ns ≤ 60) (hg : Grp w B (2 * n) (zsAt F T n)) (hL : Lst w lo hi (.slice (some ⟨gs, 0, none⟩) ns c1) ns X (.slice a2 n c2) n D) :
    Calls Try.prog 94 #[.slice (some ⟨gs, 0, none⟩) ns c1, .func (.func 73) #[.agg #[.int .i64 S, .slice (some ⟨g, 0, none⟩) n n, .map (some B), .bool ok, .slice (some ⟨gs, 0, none⟩) ns c1, .slice a2 n c2]] #[]] w fun e w' => e = .returned (.tuple #[]) ∧ Lst w' lo hi (.slice (some ⟨gs, 0, none⟩) ns c1) ns (told1 n F T D X) (.slice a2 n c2) n D ∧ Turned w w' (· = 93) lo hi := by
  go_enter Try.func94, Try.ntmps94
  go_wp2
  go_loopw [7] (fun i wr => ∃ k : Nat, k ≤ ns ∧ i = .int .i64 k ∧ SlF wr 93 5 lo hi (.slice (some ⟨gs, 0, none⟩) ns c1) ns (secs (toldTo n F T D X k)) ∧ Turned w wr (· = 93) lo hi) (fun i _ => ns - (intOf i).toNat)
  case atStart => exact ⟨0, Nat.zero_le _, rfl, hL.1.congr (fun i _ j _ => by simp [secs, toldTo]), Turned.refl _ _ _ _⟩
  case round =>
    obtain ⟨k, hk, rfl, hS, hT⟩ := hrel
    by_cases hlt : k < ns
    · have ct := told_any S g n B lo hi lo hi F T ok (some ⟨gs, 0, none⟩) a2 ns c1 c2 k _ D wr hn hlt h1 (hg.turned hT (by decide)) hS (hL.2.turned hT (.inl (by decide)))
      have ex : toldTo n F T D X k k = X k := by simp [toldTo]
      rw [ex] at ct
      have hk' : (k : Int) < (ns : Int) := by omega
      clear hg ex
      go_wp2_with fail
      refine ct.mono ?_
      rintro e w1 ⟨rfl, hb1⟩
      have S1 := hS.on hb1
      obtain ⟨l1, l2, m, f, b1, b2, b3⟩ := S1.blk (by omega)
      obtain ⟨e0, e1, e2, e3, e4⟩ := five b2 b1 hlt b3
      have z0 := b2.frozen (k * 5)
      have HS : Hid _ := S1
      have HT : Hid (Turned w w1 (· = 93) lo hi) := hT.trans (Turned.of_below hb1)
      have HU : Hid _ := S1.turnSet (show 0 < ns by omega) (k * 5) (.int .i64 (toldZ (deadB n F T D (k : Int)) (X k)))
      clear b2 b3 S1 hb1 hS hT
      go_wp2
      go_roundw
      case rel => exact ⟨k + 1, by omega, by go_num, told_step HS.out hlt, HT.out.trans HU.out⟩
      case measure => simp [intOf]; omega
    · go_wp2
      go_end0
      refine ⟨rfl, ⟨hS.congr fun i hi j _ => ?_, hL.2.turned hT (.inl (by decide))⟩, hT⟩
      have : i < k := by omega
      simp [secs, toldTo, this]

end Go.Proofs.Ytlpopfhaephfaab
