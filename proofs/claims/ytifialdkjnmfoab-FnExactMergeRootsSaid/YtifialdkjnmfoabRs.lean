/- A slice that a function gives back: it lies in memory of the call's own, or is nil; and how the laws compare, mark and look at it. -/
import Derived.Test.YtifialdkjnmfoabLawB
import Derived.Test.YtifialdkjnmfoabEs
import Derived.Test.YtifialdkjnmfoabMk
import Derived.Test.YtifialdkjnmfoabHi
import Derived.Test.YtifialdkjnmfoabInN
namespace Go.Proofs.Ytifialdkjnmfoab.rs
open kit bg strs only hb sig inn ht marks eqs hi
open Go.RowKit
set_option linter.unusedVariables false

/-- a slice with these values, nil or in the blocks from lo to hi -/
def Res (w : World) (lo hi : Nat) (t : TypeId) (v : Value) (ys : List Value) : Prop :=
  ∃ A c, v = .slice A ys.length c ∧ SR w hi A ys.length ys ∧ ((A = none ∧ c = 0 ∧ ys = []) ∨ ∃ g f, A = some ⟨g, 0, none⟩ ∧ lo ≤ g ∧ g < hi ∧ ys.length ≤ c ∧ w.rowIs g t c f)
/-- the same, all of it marked -/
def Mkd (w : World) (lo hi : Nat) (t : TypeId) (v : Value) (n : Nat) (M : Nat → Value) : Prop :=
  ∃ A c, v = .slice A n c ∧ ((A = none ∧ c = 0 ∧ n = 0) ∨ ∃ g f, A = some ⟨g, 0, none⟩ ∧ lo ≤ g ∧ g < hi ∧ n ≤ c ∧ w.rowIs g t c f ∧ ∀ x, x < n → f x = M x)
section
variable {w w' : World} {lo hi lo' hi' n : Nat} {t : TypeId} {v : Value} {ys : List Value} {M : Nat → Value}
theorem Res.of_owns (h : Owns w lo t v ys) : Res w lo w.heap.size t v ys := by
  obtain ⟨g, cap, f, rfl, hb, hc, hr, hf⟩ := h.row
  exact ⟨_, _, rfl, SR.of_row2 hr hc hr.lt (fun k u hu => ⟨(List.getElem?_eq_some_iff.1 hu).1, hf k u hu⟩) rfl, .inr ⟨g, f, rfl, hb, hr.lt, hc, hr⟩⟩
theorem Res.nil : Res w lo hi t (.slice none 0 0) [] := ⟨none, 0, rfl, SR.nil_, .inl ⟨rfl, rfl, rfl⟩⟩
theorem Res.empty {B : Nat} (hB : B ≤ w.heap.size) : Res (w.alloc (.cells #[] t)) B (w.alloc (.cells #[] t)).heap.size t (.slice (some ⟨w.heap.size, 0, none⟩) 0 0) [] :=
  ⟨_, 0, rfl, SR.nil_, .inr ⟨_, _, rfl, hB, by simp, Nat.le_refl _, row_new w #[] t 0 rfl⟩⟩
theorem Res.wide (h : Res w lo hi t v ys) (a1 : lo' ≤ lo) (a2 : hi ≤ hi') : Res w lo' hi' t v ys := by
  obtain ⟨A, c, rfl, hs, hr⟩ := h
  refine ⟨A, c, rfl, hs.wide a2, hr.imp id ?_⟩
  rintro ⟨g, f, e, h1, h2, h3, h4⟩
  exact ⟨g, f, e, by omega, by omega, h3, h4⟩
theorem Res.below {B : Nat} (h : Res w lo hi t v ys) (hb : Below B w w') (hB : hi ≤ B) : Res w' lo hi t v ys := by
  obtain ⟨A, c, rfl, hs, hr⟩ := h
  refine ⟨A, c, rfl, hs.below (hb.mono hB), hr.imp id ?_⟩
  rintro ⟨g, f, e, h1, h2, h3, h4⟩
  exact ⟨g, f, e, h1, h2, h3, h4.of_block (hb.block g (by omega))⟩
/-- a change of other blocks leaves it -/
theorem Res.apart {l r : Nat} (h : Res w lo hi t v ys) (ho : Only l r w w') (hr : r ≤ lo) : Res w' lo hi t v ys := by
  obtain ⟨A, c, rfl, hs, hq⟩ := h
  refine ⟨A, c, rfl, ⟨hs.1, fun hp => ?_⟩, hq.imp id ?_⟩
  · obtain ⟨b, off, e, hb, hc⟩ := hs.2 hp
    rcases hq with ⟨e2, -, e3⟩ | ⟨g, f, e2, h1, h2, h3, h4⟩
    · rw [e3] at hp; exact absurd hp (by simp)
    · rw [e2] at e
      injection e with e
      injection e with e5 e6 _
      subst e5
      refine ⟨g, off, by rw [e2, e6], hb, fun k u hu => ?_⟩
      exact (World.cell?_of_block (w := w) (ho.block g h4.lt (.inr (by omega)))).trans (hc k u hu)
  · rintro ⟨g, f, e, h1, h2, h3, h4⟩
    exact ⟨g, f, e, h1, h2, h3, h4.of_block (ho.block g h4.lt (.inr (by omega)))⟩
theorem Mkd.below {B : Nat} (h : Mkd w lo hi t v n M) (hb : Below B w w') (hB : hi ≤ B) : Mkd w' lo hi t v n M := by
  obtain ⟨A, c, rfl, hr⟩ := h
  refine ⟨A, c, rfl, hr.imp id ?_⟩
  rintro ⟨g, f, e, h1, h2, h3, h4, h5⟩
  exact ⟨g, f, e, h1, h2, h3, h4.of_block (hb.block g (by omega)), h5⟩
theorem Mkd.apart {l r : Nat} (h : Mkd w lo hi t v n M) (ho : Only l r w w') (hr : r ≤ lo ∨ hi ≤ l) : Mkd w' lo hi t v n M := by
  obtain ⟨A, c, rfl, hq⟩ := h
  refine ⟨A, c, rfl, hq.imp id ?_⟩
  rintro ⟨g, f, e, h1, h2, h3, h4, h5⟩
  exact ⟨g, f, e, h1, h2, h3, h4.of_block (ho.block g h4.lt (by omega)), h5⟩
end

theorem markS_nil (k : Int) (w : World) (h0 : 0 < k) (h1 : k ≤ 8000000) : Calls Try.prog 53 #[.slice none 0 0, .int .i64 k] w fun e w' => e = .returned (.int .i64 k) ∧ w = w' := by
  go_enter Try.func53, Try.ntmps53
  go_wp2_with fail
  go_loopw [1, 5] (fun q i wr => i = .int .i64 0 ∧ q = .int .i64 k ∧ w = wr) (fun _ i _ => 0)
  case atStart => exact ⟨rfl, rfl, rfl⟩
  case round =>
    obtain ⟨rfl, rfl, rfl⟩ := hrel
    go_wp2_with fail
    go_ret
    exact ⟨rfl, rfl⟩
theorem heldS_nil (k : Int) (w : World) (h0 : 0 < k) (h1 : k ≤ 8000000) : Calls Try.prog 57 #[.slice none 0 0, .int .i64 k] w fun e w' => e = .returned (.int .i64 k) ∧ w = w' := by
  go_enter Try.func57, Try.ntmps57
  go_wp2_with fail
  go_loopw [1, 5] (fun q i wr => i = .int .i64 0 ∧ q = .int .i64 k ∧ w = wr) (fun _ i _ => 0)
  case atStart => exact ⟨rfl, rfl, rfl⟩
  case round =>
    obtain ⟨rfl, rfl, rfl⟩ := hrel
    go_wp2_with fail
    go_ret
    exact ⟨rfl, rfl⟩
theorem markI_nil (k : Int) (w : World) (h0 : 0 < k) (h1 : k ≤ 8000000) : Calls Try.prog 52 #[.slice none 0 0, .int .i64 k] w fun e w' => e = .returned (.int .i64 k) ∧ w = w' := by
  go_enter Try.func52, Try.ntmps52
  go_wp2_with fail
  go_loopw [1, 5] (fun q i wr => i = .int .i64 0 ∧ q = .int .i64 k ∧ w = wr) (fun _ i _ => 0)
  case atStart => exact ⟨rfl, rfl, rfl⟩
  case round =>
    obtain ⟨rfl, rfl, rfl⟩ := hrel
    go_wp2_with fail
    go_ret
    exact ⟨rfl, rfl⟩
theorem heldI_nil (k : Int) (w : World) (h0 : 0 < k) (h1 : k ≤ 8000000) : Calls Try.prog 56 #[.slice none 0 0, .int .i64 k] w fun e w' => e = .returned (.int .i64 k) ∧ w = w' := by
  go_enter Try.func56, Try.ntmps56
  go_wp2_with fail
  go_loopw [1, 5] (fun q i wr => i = .int .i64 0 ∧ q = .int .i64 k ∧ w = wr) (fun _ i _ => 0)
  case atStart => exact ⟨rfl, rfl, rfl⟩
  case round =>
    obtain ⟨rfl, rfl, rfl⟩ := hrel
    go_wp2_with fail
    go_ret
    exact ⟨rfl, rfl⟩

theorem eqRS_any (v v' : Value) (ss : List ByteArray) (w : World) (lo hi lo' hi' : Nat) (h : Res w lo hi 9 v (ss.map Value.string)) (h' : Res w lo' hi' 9 v' (ss.map Value.string)) (hn : ss.length ≤ 1048576) :
    Calls Try.prog 47 #[v, v'] w fun e w' => e = .returned (.bool true) ∧ Below w.heap.size w w' := by
  obtain ⟨A, c, rfl, h1, -⟩ := h
  obtain ⟨A', c', rfl, h2, -⟩ := h'
  exact (eq_any A A' _ c c' ss w _ _ h1 h2 (by simpa using hn)).mono fun _ _ ⟨a, d⟩ => ⟨a, d.below _⟩
theorem eqRI_any (v v' : Value) (zs : List Int) (w : World) (lo hi lo' hi' : Nat) (h : Res w lo hi 3 v (zs.map (Value.int .i64))) (h' : Res w lo' hi' 3 v' (zs.map (Value.int .i64))) (hn : zs.length ≤ 1048576) :
    Calls Try.prog 46 #[v, v'] w fun e w' => e = .returned (.bool true) ∧ Below w.heap.size w w' := by
  obtain ⟨A, c, rfl, h1, -⟩ := h
  obtain ⟨A', c', rfl, h2, -⟩ := h'
  exact (eqIS_any A A' _ c c' zs w _ _ h1 h2 (by unfold maxLen; simp; omega)).mono fun _ _ ⟨a, d⟩ => ⟨a, d.below _⟩

theorem markRS_any (v : Value) (ys : List Value) (k : Int) (w : World) (lo hi : Nat) (h : Res w lo hi 9 v ys) (h0 : 0 < k) (h1 : k ≤ 2000000) (hn : ys.length ≤ 1048576) :
    Calls Try.prog 53 #[v, .int .i64 k] w fun e w' => e = .returned (.int .i64 (k + ys.length)) ∧ Mkd w' lo hi 9 v ys.length (mks k) ∧ Only lo hi w w' := by
  obtain ⟨A, c, rfl, -, ⟨rfl, rfl, rfl⟩ | ⟨g, f, rfl, a1, a2, hc, hr⟩⟩ := h
  · refine (markS_nil k w h0 (by omega)).mono ?_
    rintro e w1 ⟨rfl, rfl⟩
    exact ⟨by simp, ⟨none, 0, rfl, .inl ⟨rfl, rfl, rfl⟩⟩, Only.refl _ _ _⟩
  · refine (markS_any g ys.length c f k w hr hc h0 (by omega) (by omega)).mono ?_
    rintro e w1 ⟨rfl, hr1, hg⟩
    exact ⟨rfl, ⟨_, c, rfl, .inr ⟨g, _, rfl, a1, a2, hc, hr1, fun x hx => if_pos hx⟩⟩, Only.of_grown hg hr hr1 a1 a2⟩
theorem heldRS_any (v : Value) (n : Nat) (k : Int) (w : World) (lo hi : Nat) (h : Mkd w lo hi 9 v n (mks k)) (h0 : 0 < k) (h1 : k ≤ 2000000) (hn : n ≤ 1048576) :
    Calls Try.prog 57 #[v, .int .i64 k] w fun e w' => e = .returned (.int .i64 (k + n)) ∧ Below w.heap.size w w' := by
  obtain ⟨A, c, rfl, ⟨rfl, rfl, rfl⟩ | ⟨g, f, rfl, a1, a2, hc, hr, hf⟩⟩ := h
  · refine (heldS_nil k w h0 (by omega)).mono ?_
    rintro e w1 ⟨rfl, rfl⟩
    exact ⟨by simp, Below.refl _ _⟩
  · exact heldS_any g n c k w f hr hf hc h0 (by omega) (by omega)
theorem markRI_any (v : Value) (ys : List Value) (k : Int) (w : World) (lo hi : Nat) (h : Res w lo hi 3 v ys) (h0 : 0 < k) (h1 : k ≤ 2000000) (hn : ys.length ≤ 1048576) :
    Calls Try.prog 52 #[v, .int .i64 k] w fun e w' => e = .returned (.int .i64 (k + ys.length)) ∧ Mkd w' lo hi 3 v ys.length (mki k) ∧ Only lo hi w w' := by
  obtain ⟨A, c, rfl, -, ⟨rfl, rfl, rfl⟩ | ⟨g, f, rfl, a1, a2, hc, hr⟩⟩ := h
  · refine (markI_nil k w h0 (by omega)).mono ?_
    rintro e w1 ⟨rfl, rfl⟩
    exact ⟨by simp, ⟨none, 0, rfl, .inl ⟨rfl, rfl, rfl⟩⟩, Only.refl _ _ _⟩
  · refine (markI_any g ys.length c f k w hr hc h0 (by omega) (by omega)).mono ?_
    rintro e w1 ⟨rfl, hr1, hg⟩
    exact ⟨rfl, ⟨_, c, rfl, .inr ⟨g, _, rfl, a1, a2, hc, hr1, fun x hx => if_pos hx⟩⟩, Only.of_grown hg hr hr1 a1 a2⟩
theorem heldRI_any (v : Value) (n : Nat) (k : Int) (w : World) (lo hi : Nat) (h : Mkd w lo hi 3 v n (mki k)) (h0 : 0 < k) (h1 : k ≤ 2000000) (hn : n ≤ 1048576) :
    Calls Try.prog 56 #[v, .int .i64 k] w fun e w' => e = .returned (.int .i64 (k + n)) ∧ Below w.heap.size w w' := by
  obtain ⟨A, c, rfl, ⟨rfl, rfl, rfl⟩ | ⟨g, f, rfl, a1, a2, hc, hr, hf⟩⟩ := h
  · refine (heldI_nil k w h0 (by omega)).mono ?_
    rintro e w1 ⟨rfl, rfl⟩
    exact ⟨by simp, Below.refl _ _⟩
  · exact heldI_any g n c k w f hr hf hc h0 (by omega) (by omega)

/-- what a function tells that gives back a slice and whether there is an answer -/
def ResPost (t : TypeId) (q : Bool) (ys : List Value) (w : World) (e : Ending) (w' : World) : Prop :=
  ∃ v, e = .returned (.tuple #[v, .bool q]) ∧ Res w' w.heap.size w'.heap.size t v ys ∧ Below w.heap.size w w'
end Go.Proofs.Ytifialdkjnmfoab.rs
