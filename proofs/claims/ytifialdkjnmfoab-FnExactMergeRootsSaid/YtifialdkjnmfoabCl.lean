/- slices.Clone at lists of strings, of numbers and of Wires: the copy is nil or lies in memory of the call's own. -/
import Derived.Test.YtifialdkjnmfoabBw
import Derived.Laws.AppendOwnNone
import Derived.Maps.AppendAt
import Derived.Lib.SliceRun
namespace Go.Proofs.Ytifialdkjnmfoab.cl
open kit bg opn strs only hb sig inn ht marks eqs hc hi hw hn rs br bm bw
open Go.RowKit
set_option linter.unusedVariables false

theorem rowR_owns {w : World} {lo sz n : Nat} {e : TypeId} {v : Value} {xs : List Value} (h : w.ownsRow lo e sz v n xs) : ∃ A c, v = .slice A n c ∧ RowR w lo w.heap.size e sz A n c (fun x => (xs[x]?).getD undef) := by
  obtain ⟨h1, ⟨rfl, rfl⟩ | ⟨g, cap, cur, rfl, hb, hh, hc, hm, hs, ht⟩⟩ := h
  · exact ⟨_, _, rfl, RowR.nil⟩
  · have hrow : w.rowIs g e (cap * sz) (fun i => (cur[i]?).getD undef) := ⟨cur, hh, hs, fun i hi => by
      show cur[i]? = some ((cur[i]?).getD undef)
      rw [Array.getElem?_eq_getElem (show i < cur.size by omega)]; rfl⟩
    refine ⟨_, _, rfl, RowR.mk hb hrow.lt hc hrow (fun x hx => ?_)⟩
    show (cur[x]?).getD undef = (xs[x]?).getD undef
    rw [← ht, List.getElem?_take_of_lt hx]
    simp
theorem ownsRow_nil_new (w : World) (e : TypeId) (sz : Nat) (B : Nat) (hB : B ≤ w.heap.size) : (w.alloc (.cells #[] e)).ownsRow B e sz (.slice (some ⟨w.heap.size, 0, none⟩) 0 0) 0 [] :=
  World.ownsRow_made (base := B) (e := e) (size := sz) w #[] 0 hB (by unfold maxLen; omega) (by simp)
/-- the cells of Wires, in a list -/
def wcs (ws : List Wr) : List Value := ws.flatMap fun y => [.string y.name, .int .i64 y.link]
theorem wcs_len (ws : List Wr) : (wcs ws).length = ws.length * 2 := by
  induction ws with
  | nil => rfl
  | cons y ws ih =>
    have e : wcs (y :: ws) = .string y.name :: .int .i64 y.link :: wcs ws := rfl
    rw [e]; simp; omega
theorem wcs_snoc (ws : List Wr) (y : Wr) : wcs (ws ++ [y]) = wcs ws ++ [.string y.name, .int .i64 y.link] := by unfold wcs; rw [List.flatMap_append]; simp
theorem wcs_get : ∀ {ws : List Wr} {k : Nat} {y : Wr}, ws[k]? = some y → (wcs ws)[k * 2]? = some (.string y.name) ∧ (wcs ws)[k * 2 + 1]? = some (.int .i64 y.link)
  | [], k, y, h => by simp at h
  | q :: ws, 0, y, h => by
    simp at h
    subst h
    exact ⟨rfl, rfl⟩
  | q :: ws, k + 1, y, h => by
    have ih := wcs_get (ws := ws) (k := k) (y := y) (by simpa using h)
    have e : wcs (q :: ws) = .string q.name :: .int .i64 q.link :: wcs ws := rfl
    rw [e, show (k + 1) * 2 = k * 2 + 1 + 1 by omega]
    exact ⟨by simpa using ih.1, by simpa using ih.2⟩
theorem wcs_wic {ws : List Wr} {x : Nat} (h : x < ws.length * 2) : ((wcs ws)[x]?).getD undef = wic ws x := by
  have hk : ws[x / 2]? = some (ws[x / 2]'(by omega)) := List.getElem?_eq_getElem _
  obtain ⟨a, b⟩ := wcs_get hk
  obtain ⟨c, d⟩ := wic_at hk
  have hm : x % 2 = 0 ∨ x % 2 = 1 := by omega
  rcases hm with e | e
  · rw [show x / 2 * 2 = x by omega] at a c; rw [a, c]; rfl
  · rw [show x / 2 * 2 + 1 = x by omega] at b d; rw [b, d]; rfl
theorem add_none (b off j : Nat) : (⟨b, off, none⟩ : Addr).add j = ⟨b, off + j, none⟩ := by unfold Addr.add; split <;> simp_all
theorem wcs_cells {w : World} {B n : Nat} {A : Addr} {ws : List Wr} (h : WrsAt w B (some A) n ws) : ∀ (j : Nat) u, (wcs ws)[j]? = some u → w.cell? (A.add j) = some u := by
  intro j u hu
  have hj : j < ws.length * 2 := by have := (List.getElem?_eq_some_iff.1 hu).1; rw [wcs_len] at this; exact this
  obtain ⟨b, off, e, hb, hc⟩ := h.2 (by have := h.1; omega)
  injection e with e
  subst e
  have hk : ws[j / 2]? = some (ws[j / 2]'(by omega)) := List.getElem?_eq_getElem _
  obtain ⟨a1, a2⟩ := wcs_get hk
  obtain ⟨c1, c2⟩ := hc _ _ hk
  rw [add_none]
  have hm : j % 2 = 0 ∨ j % 2 = 1 := by omega
  rcases hm with e | e
  · rw [show j / 2 * 2 = j by omega] at a1 c1; rw [c1, ← hu, a1]
  · rw [show j / 2 * 2 + 1 = j by omega] at a2; rw [show off + j / 2 * 2 + 1 = off + j by omega] at c2; rw [c2, ← hu, a2]
theorem wcs_one (ws : List Wr) : ∀ u ∈ wcs ws, u.oneCell' = true := by
  intro u hu
  unfold wcs at hu
  obtain ⟨y, hy, h⟩ := List.mem_flatMap.1 hu
  simp at h
  rcases h with rfl | rfl <;> rfl
theorem sr_cells {w : World} {B n : Nat} {A : Addr} {xs : List Value} (h : SR w B (some A) n xs) : ∀ (j : Nat) u, xs[j]? = some u → w.cell? (A.add j) = some u := by
  intro j u hu
  have hj := (List.getElem?_eq_some_iff.1 hu).1
  obtain ⟨b, off, e, hb, hc⟩ := h.2 (by have := h.1; omega)
  injection e with e
  subst e
  rw [add_none]
  exact hc j u hu

set_option maxRecDepth 20000 in
set_option maxHeartbeats 800000 in
theorem cloneS_any (A : Option Addr) (n c : Nat) (xs : List ByteArray) (w : World) (h : SR w w.heap.size A n (xs.map Value.string)) (hn : n ≤ 1048576) (h0 : A = none → c = 0) :
    Calls Try.prog 41 #[.slice A n c] w fun e w' => ∃ A' c', e = .returned (.slice A' n c') ∧ RowR w' w.heap.size w'.heap.size 9 1 A' n c' (at_ xs) ∧ (A' = none → c' = 0) ∧ Below w.heap.size w w' := by
  obtain ⟨i0, hi, hz0, hz1, hz2⟩ := info_parts str_info
  have hln : xs.length = n := h.strlen
  have hq0 := fun w => Lib.run_eql_slice_nil (P := Try.prog) w 25 9 A n c 0 0 Try.underlying25
  cases A with
  | none =>
    simp only [Option.isNone_none] at hq0
    obtain rfl : c = 0 := h0 rfl
    obtain rfl : n = 0 := by
      by_cases e : n = 0
      · exact e
      · obtain ⟨b, off, e2, _⟩ := h.2 (by omega)
        cases e2
    go_enter Try.func41, Try.ntmps41
    go_wp2_with fail
    go_ret
    exact ⟨none, 0, rfl, RowR.nil, fun _ => rfl, Below.refl _ _⟩
  | some A =>
    simp only [Option.isNone_some] at hq0
    have hown := ownsRow_nil_new w 9 1 w.heap.size (Nat.le_refl _)
    have hB := (Below.refl w.heap.size w).alloc (Nat.le_refl _) (.cells #[] 9)
    have hce : ∀ (j : Nat) u, (xs.map Value.string)[j]? = some u → (w.alloc (.cells #[] 9)).cell? (A.add j) = some u := fun j u hu => (hB.cell (p := A.add j) (by
      obtain ⟨b, off, e, hb, _⟩ := h.2 (by have := (List.getElem?_eq_some_iff.1 hu).1; have := h.1; omega)
      injection e with e; subst e; rw [add_none]; exact hb)).trans (sr_cells h j u hu)
    go_enter Try.func41, Try.ntmps41
    go_wp2_with (at_builtin; refine wpList_append_own _ rfl _ _ 25 rfl w.heap.size 9 i0 (.string ⟨#[]⟩) 1 16 Try.underlying25 hi hz0 hz1 hz2 rfl (by decide) _ _ _ rfl hown A n c (xs.map Value.string) rfl (by simp [hln]) hce (fun u hu => by obtain ⟨s, _, rfl⟩ := List.mem_map.1 hu; rfl) (by unfold maxLen; omega) (by omega) (by simp) ?_; intro v1 w3 hown1 hgrow1 hnil1)
    rw [Nat.zero_add, List.nil_append] at hown1
    have hb3 : Below w.heap.size w w3 := hB.grown hgrow1 (by simp) (fun j hj => (hown.lt j hj).1)
    obtain ⟨A', c', rfl, hR⟩ := rowR_owns hown1
    have HR := Lib.hid (hR.congr (M' := at_ xs) (fun x hx => by
      have hx2 : x < xs.length := by omega
      have : xs[x]? = some xs[x] := List.getElem?_eq_getElem hx2
      rw [List.getElem?_map, this, at_of this]; rfl))
    have HN : Hid (A' = none → c' = 0) := Lib.hid (by
      rintro rfl
      rcases hown1.2 with ⟨e, _⟩ | ⟨g, cap, cur, e, _⟩
      · injection e
      · injection e with e; cases e)
    clear hown1 hgrow1 hnil1 hR hce hown
    go_wp2_with fail
    go_ret
    exact ⟨A', c', rfl, HR.out, HN.out, hb3⟩

set_option maxRecDepth 20000 in
set_option maxHeartbeats 800000 in
theorem cloneI_any (A : Option Addr) (n c : Nat) (xs : List Int) (w : World) (h : IntsAt w w.heap.size A n xs) (hn : n ≤ 1048576) (h0 : A = none → c = 0) :
    Calls Try.prog 93 #[.slice A n c] w fun e w' => ∃ A' c', e = .returned (.slice A' n c') ∧ RowR w' w.heap.size w'.heap.size 3 1 A' n c' (iat xs) ∧ (A' = none → c' = 0) ∧ Below w.heap.size w w' := by
  obtain ⟨i0, hi, hz0, hz1, hz2⟩ := info_parts int_info
  have hln : xs.length = n := h.len
  have hq0 := fun w => Lib.run_eql_slice_nil (P := Try.prog) w 24 3 A n c 0 0 Try.underlying24
  cases A with
  | none =>
    simp only [Option.isNone_none] at hq0
    obtain rfl : c = 0 := h0 rfl
    obtain rfl : n = 0 := by
      by_cases e : n = 0
      · exact e
      · obtain ⟨b, off, e2, _⟩ := h.2 (by omega)
        cases e2
    go_enter Try.func93, Try.ntmps93
    go_wp2_with fail
    go_ret
    exact ⟨none, 0, rfl, RowR.nil, fun _ => rfl, Below.refl _ _⟩
  | some A =>
    simp only [Option.isNone_some] at hq0
    have hown := ownsRow_nil_new w 3 1 w.heap.size (Nat.le_refl _)
    have hB := (Below.refl w.heap.size w).alloc (Nat.le_refl _) (.cells #[] 3)
    have hce : ∀ (j : Nat) u, (xs.map (Value.int .i64))[j]? = some u → (w.alloc (.cells #[] 3)).cell? (A.add j) = some u := fun j u hu => (hB.cell (p := A.add j) (by
      obtain ⟨b, off, e, hb, _⟩ := h.2 (by have := (List.getElem?_eq_some_iff.1 hu).1; have := h.1; omega)
      injection e with e; subst e; rw [add_none]; exact hb)).trans (sr_cells h j u hu)
    go_enter Try.func93, Try.ntmps93
    go_wp2_with (at_builtin; refine wpList_append_own _ rfl _ _ 24 rfl w.heap.size 3 i0 (.int .i64 0) 1 8 Try.underlying24 hi hz0 hz1 hz2 rfl (by decide) _ _ _ rfl hown A n c (xs.map (Value.int .i64)) rfl (by simp [hln]) hce (fun u hu => by obtain ⟨s, _, rfl⟩ := List.mem_map.1 hu; rfl) (by unfold maxLen; omega) (by omega) (by simp) ?_; intro v1 w3 hown1 hgrow1 hnil1)
    rw [Nat.zero_add, List.nil_append] at hown1
    have hb3 : Below w.heap.size w w3 := hB.grown hgrow1 (by simp) (fun j hj => (hown.lt j hj).1)
    obtain ⟨A', c', rfl, hR⟩ := rowR_owns hown1
    have HR := Lib.hid (hR.congr (M' := iat xs) (fun x hx => by
      have hx2 : x < xs.length := by omega
      have : xs[x]? = some xs[x] := List.getElem?_eq_getElem hx2
      rw [List.getElem?_map, this, iat_of this]; rfl))
    have HN : Hid (A' = none → c' = 0) := Lib.hid (by
      rintro rfl
      rcases hown1.2 with ⟨e, _⟩ | ⟨g, cap, cur, e, _⟩
      · injection e
      · injection e with e; cases e)
    clear hown1 hgrow1 hnil1 hR hce hown
    go_wp2_with fail
    go_ret
    exact ⟨A', c', rfl, HR.out, HN.out, hb3⟩

set_option maxRecDepth 20000 in
set_option maxHeartbeats 800000 in
theorem cloneW_any (A : Option Addr) (n c : Nat) (xs : List Wr) (w : World) (h : WrsAt w w.heap.size A n xs) (hn : n ≤ 1048576) (h0 : A = none → c = 0) :
    Calls Try.prog 94 #[.slice A n c] w fun e w' => ∃ A' c', e = .returned (.slice A' n c') ∧ RowR w' w.heap.size w'.heap.size 60 2 A' n c' (wic xs) ∧ (A' = none → c' = 0) ∧ Below w.heap.size w w' := by
  obtain ⟨i0, hi, hz0, hz1, hz2⟩ := info_parts wire_info
  have hln : xs.length = n := h.1
  have hq0 := fun w => Lib.run_eql_slice_nil (P := Try.prog) w 32 60 A n c 0 0 Try.underlying32
  cases A with
  | none =>
    simp only [Option.isNone_none] at hq0
    obtain rfl : c = 0 := h0 rfl
    obtain rfl : n = 0 := by
      by_cases e : n = 0
      · exact e
      · obtain ⟨b, off, e2, _⟩ := h.2 (by omega)
        cases e2
    go_enter Try.func94, Try.ntmps94
    go_wp2_with fail
    go_ret
    exact ⟨none, 0, rfl, RowR.nil, fun _ => rfl, Below.refl _ _⟩
  | some A =>
    simp only [Option.isNone_some] at hq0
    have hown := ownsRow_nil_new w 60 2 w.heap.size (Nat.le_refl _)
    have hB := (Below.refl w.heap.size w).alloc (Nat.le_refl _) (.cells #[] 60)
    have hce : ∀ (j : Nat) u, (wcs xs)[j]? = some u → (w.alloc (.cells #[] 60)).cell? (A.add j) = some u := fun j u hu => (hB.cell (p := A.add j) (by
      obtain ⟨b, off, e, hb, _⟩ := h.2 (by have := (List.getElem?_eq_some_iff.1 hu).1; rw [wcs_len] at this; omega)
      injection e with e; subst e; rw [add_none]; exact hb)).trans (wcs_cells h j u hu)
    go_enter Try.func94, Try.ntmps94
    go_wp2_with (at_builtin; refine wpList_append_own _ rfl _ _ 32 rfl w.heap.size 60 i0 (.agg #[.string ⟨#[]⟩, .int .i64 0]) 2 24 Try.underlying32 hi hz0 hz1 hz2 rfl (by decide) _ _ _ rfl hown A n c (wcs xs) rfl (by rw [wcs_len, hln]) hce (wcs_one xs) (by unfold maxLen; omega) (by omega) (by simp) ?_; intro v1 w3 hown1 hgrow1 hnil1)
    rw [Nat.zero_add, List.nil_append] at hown1
    have hb3 : Below w.heap.size w w3 := hB.grown hgrow1 (by simp) (fun j hj => (hown.lt j hj).1)
    obtain ⟨A', c', rfl, hR⟩ := rowR_owns hown1
    have HR := Lib.hid (hR.congr (M' := wic xs) (fun x hx => wcs_wic (by omega)))
    have HN : Hid (A' = none → c' = 0) := Lib.hid (by
      rintro rfl
      rcases hown1.2 with ⟨e, _⟩ | ⟨g, cap, cur, e, _⟩
      · injection e
      · injection e with e; cases e)
    clear hown1 hgrow1 hnil1 hR hce hown
    go_wp2_with fail
    go_ret
    exact ⟨A', c', rfl, HR.out, HN.out, hb3⟩

end Go.Proofs.Ytifialdkjnmfoab.cl
