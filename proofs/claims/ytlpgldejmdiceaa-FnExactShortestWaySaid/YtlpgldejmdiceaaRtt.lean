/- A slice of triples that a function gives back. -/
import Derived.Test.YtlpgldejmdiceaaSys
import Derived.Test.YtlpgldejmdiceaaSyt
import Derived.Test.YtlpgldejmdiceaaQc
namespace Go.Proofs.Ytlpgldejmdiceaa.rtt
open kit bg opn strs only hb hi marks sig inn rs rt syx sya syi sys syt
open Go.RowKit
set_option linter.unusedVariables false
set_option linter.unusedSimpArgs false

/-- a slice with these triples, nil or in the blocks from lo to hi -/
def ResT (w : World) (lo hi : Nat) (v : Value) (ps : List Tri) : Prop :=
  ∃ A c, v = .slice A ps.length c ∧ ((A = none ∧ c = 0 ∧ ps = []) ∨ ∃ g f, A = some ⟨g, 0, none⟩ ∧ lo ≤ g ∧ g < hi ∧ ps.length ≤ c ∧ w.rowIs g 76 (c * 3) f ∧ ∀ (k : Nat) p, ps[k]? = some p → f (k * 3) = .int .i64 p.1 ∧ f (k * 3 + 1) = .int .i64 p.2.1 ∧ f (k * 3 + 2) = .int .i64 p.2.2)
def MkdT (w : World) (lo hi : Nat) (v : Value) (n : Nat) (M : Nat → Value) : Prop :=
  ∃ A c, v = .slice A n c ∧ ((A = none ∧ c = 0 ∧ n = 0) ∨ ∃ g f, A = some ⟨g, 0, none⟩ ∧ lo ≤ g ∧ g < hi ∧ n ≤ c ∧ w.rowIs g 76 (c * 3) f ∧ ∀ x, x < n * 3 → f x = M x)
section
variable {w w' : World} {lo hi n : Nat} {v : Value} {ps : List Tri} {M : Nat → Value}
theorem ResT.nil : ResT w lo hi (.slice none 0 0) [] := ⟨none, 0, rfl, .inl ⟨rfl, rfl, rfl⟩⟩
theorem ResT.stay (h : ResT w lo hi v ps) (hb : ∀ b f c, w.rowIs b 76 c f → lo ≤ b → b < hi → w'.heap[b]? = w.heap[b]?) : ResT w' lo hi v ps := by
  obtain ⟨A, c, rfl, hq⟩ := h
  refine ⟨A, c, rfl, hq.imp id ?_⟩
  rintro ⟨g, f, e, h1, h2, h3, h4, h5⟩
  exact ⟨g, f, e, h1, h2, h3, h4.of_block (hb g f _ h4 h1 h2), h5⟩
theorem ResT.on (h : ResT w lo hi v ps) (hb : Below w.heap.size w w') : ResT w' lo hi v ps := h.stay fun b f c hr _ _ => hb.block b hr.lt
theorem ResT.far {l r : Nat} (h : ResT w lo hi v ps) (ho : Only l r w w') (hr : r ≤ lo ∨ hi ≤ l) : ResT w' lo hi v ps := h.stay fun b f c hb h1 h2 => ho.block b hb.lt (by omega)
theorem MkdT.on (h : MkdT w lo hi v n M) (hb : Below w.heap.size w w') : MkdT w' lo hi v n M := by
  obtain ⟨A, c, rfl, hr⟩ := h
  refine ⟨A, c, rfl, hr.imp id ?_⟩
  rintro ⟨g, f, e, h1, h2, h3, h4, h5⟩
  exact ⟨g, f, e, h1, h2, h3, h4.of_block (hb.block g h4.lt), h5⟩
theorem MkdT.apart {l r : Nat} (h : MkdT w lo hi v n M) (ho : Only l r w w') (hr : r ≤ lo ∨ hi ≤ l) : MkdT w' lo hi v n M := by
  obtain ⟨A, c, rfl, hq⟩ := h
  refine ⟨A, c, rfl, hq.imp id ?_⟩
  rintro ⟨g, f, e, h1, h2, h3, h4, h5⟩
  exact ⟨g, f, e, h1, h2, h3, h4.of_block (ho.block g h4.lt (by omega)), h5⟩
theorem ResT.one (h : OwnT w lo v ps) : ∃ g, lo ≤ g ∧ v.ownBlock = some g ∧ g < w.heap.size ∧ ResT w g (g + 1) v ps := by
  obtain ⟨⟨h1, h2⟩, hn⟩ := h
  rcases h2 with ⟨e, _⟩ | ⟨g, cap, cur, rfl, hb, hh, hc, hm, hs, ht⟩
  · exact absurd e hn
  · have hrow : w.rowIs g 76 (cap * 3) (fun i => (cur[i]?).getD undef) := ⟨cur, hh, by simpa using hs, fun i hi => by
      show cur[i]? = some ((cur[i]?).getD undef)
      rw [Array.getElem?_eq_getElem (show i < cur.size by omega)]; rfl⟩
    have hat : ∀ (i : Nat) u, i < ps.length * 3 → (tcs ps)[i]? = some u → (cur[i]?).getD undef = u := fun i u hi hu => by
      rw [← ht, List.getElem?_take_of_lt hi] at hu
      have hu2 : cur[i]? = some u := by simpa using hu
      rw [hu2]; rfl
    refine ⟨g, hb, rfl, hrow.lt, _, _, rfl, .inr ⟨g, _, rfl, Nat.le_refl _, Nat.lt_succ_self _, hc, hrow, fun k p hk => ?_⟩⟩
    have hkl : k < ps.length := (List.getElem?_eq_some_iff.1 hk).1
    obtain ⟨e1, e2, e3⟩ := tcs_get hk
    exact ⟨hat _ _ (by omega) e1, hat _ _ (by omega) e2, hat _ _ (by omega) e3⟩
theorem ResT.one_empty (w : World) : ResT (w.alloc (.cells #[] 76)) w.heap.size (w.heap.size + 1) (.slice (some ⟨w.heap.size, 0, none⟩) 0 0) [] :=
  ⟨_, 0, rfl, .inr ⟨_, _, rfl, Nat.le_refl _, Nat.lt_succ_self _, Nat.le_refl _, row_new w #[] 76 0 rfl, fun k p h => by simp at h⟩⟩
theorem ResT.at (h : ResT w lo hi v ps) (hl : ps.length ≤ n) : ∃ A c, v = .slice A ps.length c ∧ TriAt w w.heap.size A ps.length ps := by
  obtain ⟨A, c, rfl, ⟨rfl, rfl, rfl⟩ | ⟨g, f, rfl, h1, h2, h3, h4, h5⟩⟩ := h
  · exact ⟨_, _, rfl, rfl, fun h => absurd h (by simp)⟩
  · refine ⟨_, _, rfl, rfl, fun _ => ⟨g, 0, rfl, h4.lt, fun k p hk => ?_⟩⟩
    have hkl : k < ps.length := (List.getElem?_eq_some_iff.1 hk).1
    obtain ⟨e1, e2, e3⟩ := h5 k p hk
    rw [Nat.zero_add]
    exact ⟨by rw [h4.cell (show k * 3 < c * 3 by omega), e1], by rw [h4.cell (show k * 3 + 1 < c * 3 by omega), e2], by rw [h4.cell (show k * 3 + 2 < c * 3 by omega), e3]⟩
end
set_option maxRecDepth 20000 in
set_option maxHeartbeats 3200000 in
theorem heldA3S_any (g n cap : Nat) (k : Int) (w : World) (f : Nat → Value) (hr : w.rowIs g 76 (cap * 3) f) (hf : ∀ x, x < n * 3 → f x = mki k x) (hc : n ≤ cap) (h0 : 0 < k) (h1 : k ≤ 8000000) (hn : n ≤ 1048576) :
    Calls Try.prog 30 #[.slice (some ⟨g, 0, none⟩) n cap, .int .i64 k] w fun e w' => e = .returned (.int .i64 (k + 3 * n)) ∧ Below w.heap.size w w' := by
  have HF := Lib.hid hf
  clear hf
  go_enter Try.func30, Try.ntmps30
  go_wp2_with fail
  go_loopw [1, 5] (fun q i wr => ∃ j : Nat, j ≤ n ∧ i = .int .i64 j ∧ q = .int .i64 (k + 3 * j) ∧ Dr w wr) (fun _ i _ => n - (intOf i).toNat)
  case atStart => exact ⟨0, Nat.zero_le _, rfl, by simp, Dr.refl _⟩
  case round =>
    obtain ⟨j, hj, rfl, rfl, hdr⟩ := hrel
    by_cases hlt : j < n
    · go_wp2_with fail
      go_loopw [1, 6] (fun q i wr => ∃ m : Nat, m ≤ 3 ∧ i = .int .i64 m ∧ q = .int .i64 (k + 3 * j + m) ∧ Dr w wr) (fun _ i _ => 3 - (intOf i).toNat)
      case atStart => exact ⟨0, Nat.zero_le _, rfl, by simp, hdr⟩
      case round =>
        obtain ⟨m, hm, rfl, rfl, hdr⟩ := hrel
        by_cases hlt2 : m < 3
        · have hcell2 : wr.cell? ⟨g, j * 3 + m, none⟩ = some (.int .i64 (k + 3 * j + m)) := (hdr.cell _).trans ((hr.cell (show j * 3 + m < cap * 3 by omega)).trans (by
            rw [HF.out (j * 3 + m) (by omega)]
            unfold mki
            congr 2
            omega))
          go_wp2_with fail
          try go_quiet (fail)
          go_wp2_with fail
          go_roundw
          case rel => exact ⟨m + 1, by omega, by go_num, by go_num, by first | exact hdr.more _ | exact hdr⟩
          case measure => simp [intOf]; omega
        · obtain rfl : m = 3 := by omega
          go_wp2_with fail
          go_roundw
          case rel => exact ⟨j + 1, by omega, by go_num, by go_num, hdr⟩
          case measure => simp [intOf]; omega
    · obtain rfl : j = n := by omega
      go_wp2_with fail
      go_ret
      exact ⟨rfl, hdr.below _⟩
theorem markT_nil (k : Int) (w : World) (h0 : 0 < k) (h1 : k ≤ 8000000) : Calls Try.prog 29 #[.slice none 0 0, .int .i64 k] w fun e w' => e = .returned (.int .i64 k) ∧ w = w' := by
  go_enter Try.func29, Try.ntmps29
  go_wp2_with fail
  go_loopw [1, 5] (fun q i wr => i = .int .i64 0 ∧ q = .int .i64 k ∧ w = wr) (fun _ i _ => 0)
  case atStart => exact ⟨rfl, rfl, rfl⟩
  case round =>
    obtain ⟨rfl, rfl, rfl⟩ := hrel
    go_wp2_with fail
    go_ret
    exact ⟨rfl, rfl⟩
theorem heldT_nil (k : Int) (w : World) (h0 : 0 < k) (h1 : k ≤ 8000000) : Calls Try.prog 30 #[.slice none 0 0, .int .i64 k] w fun e w' => e = .returned (.int .i64 k) ∧ w = w' := by
  go_enter Try.func30, Try.ntmps30
  go_wp2_with fail
  go_loopw [1, 5] (fun q i wr => i = .int .i64 0 ∧ q = .int .i64 k ∧ w = wr) (fun _ i _ => 0)
  case atStart => exact ⟨rfl, rfl, rfl⟩
  case round =>
    obtain ⟨rfl, rfl, rfl⟩ := hrel
    go_wp2_with fail
    go_ret
    exact ⟨rfl, rfl⟩
theorem eqRT_any (v v' : Value) (ps : List Tri) (w : World) (lo hi lo' hi' : Nat) (h : ResT w lo hi v ps) (h' : ResT w lo' hi' v' ps) (hn : ps.length ≤ 1048576) :
    Calls Try.prog 22 #[v, v'] w fun e w' => e = .returned (.bool true) ∧ Below w.heap.size w w' := by
  obtain ⟨A, c, rfl, h1⟩ := h.at hn
  obtain ⟨A', c', rfl, h2⟩ := h'.at hn
  exact eqA3S_any A A' _ c c' ps w _ _ h1 h2 (Nat.le_refl _) (Nat.le_refl _) (by unfold maxLen; omega)
theorem markRT_any (v : Value) (ps : List Tri) (k : Int) (w : World) (lo hi : Nat) (h : ResT w lo hi v ps) (h0 : 0 < k) (h1 : k ≤ 2000000) (hn : ps.length ≤ 1048576) :
    Calls Try.prog 29 #[v, .int .i64 k] w fun e w' => e = .returned (.int .i64 (k + 3 * ps.length)) ∧ MkdT w' lo hi v ps.length (mki k) ∧ Only lo hi w w' := by
  obtain ⟨A, c, rfl, ⟨rfl, rfl, rfl⟩ | ⟨g, f, rfl, a1, a2, hc, hr, -⟩⟩ := h
  · refine (markT_nil k w h0 (by omega)).mono ?_
    rintro e w1 ⟨rfl, rfl⟩
    exact ⟨by simp, ⟨none, 0, rfl, .inl ⟨rfl, rfl, rfl⟩⟩, Only.refl _ _ _⟩
  · refine (markA3S_any g ps.length c f k w hr hc h0 (by omega) (by omega)).mono ?_
    rintro e w1 ⟨rfl, hr1, hg⟩
    exact ⟨rfl, ⟨_, c, rfl, .inr ⟨g, _, rfl, a1, a2, hc, hr1, fun x hx => if_pos hx⟩⟩, Only.of_grown hg hr hr1 a1 a2⟩
theorem heldRT_any (v : Value) (n : Nat) (k : Int) (w : World) (lo hi : Nat) (h : MkdT w lo hi v n (mki k)) (h0 : 0 < k) (h1 : k ≤ 2000000) (hn : n ≤ 1048576) :
    Calls Try.prog 30 #[v, .int .i64 k] w fun e w' => e = .returned (.int .i64 (k + 3 * n)) ∧ Below w.heap.size w w' := by
  obtain ⟨A, c, rfl, ⟨rfl, rfl, rfl⟩ | ⟨g, f, rfl, a1, a2, hc, hr, hf⟩⟩ := h
  · refine (heldT_nil k w h0 (by omega)).mono ?_
    rintro e w1 ⟨rfl, rfl⟩
    exact ⟨by simp, Below.refl _ _⟩
  · exact heldA3S_any g n c k w f hr hf hc h0 (by omega) (by omega)


def TriPost (q : Bool) (ps : List Tri) (w : World) (e : Ending) (w' : World) : Prop :=
  ∃ v, e = .returned (.tuple #[v, .bool q]) ∧ ResT w' w.heap.size w'.heap.size v ps ∧ Below w.heap.size w w'
theorem ResT.wide {w : World} {lo hi lo' hi' : Nat} {v : Value} {ps : List Tri} (h : ResT w lo hi v ps) (h1 : lo' ≤ lo) (h2 : hi ≤ hi') : ResT w lo' hi' v ps := by
  obtain ⟨A, c, rfl, hq⟩ := h
  refine ⟨A, c, rfl, hq.imp id ?_⟩
  rintro ⟨g, f, e, a1, a2, h3, h4, h5⟩
  exact ⟨g, f, e, by omega, by omega, h3, h4, h5⟩
theorem ResT.of_own {w : World} {lo : Nat} {v : Value} {ps : List Tri} (h : OwnT w lo v ps) : ResT w lo w.heap.size v ps := by
  obtain ⟨g, h1, -, h2, h3⟩ := ResT.one h
  exact h3.wide h1 h2
theorem ResT.empty {w : World} {B : Nat} (hB : B ≤ w.heap.size) : ResT (w.alloc (.cells #[] 76)) B (w.alloc (.cells #[] 76)).heap.size (.slice (some ⟨w.heap.size, 0, none⟩) 0 0) [] :=
  (ResT.one_empty w).wide hB (by simp)
end Go.Proofs.Ytlpgldejmdiceaa.rtt
