/- The inner names of a Bigraph, collected: spec.l2Inner, impl.innerNames. -/
import Derived.Test.YtifialdkjnmfoabHb
import Derived.Test.YtifialdkjnmfoabSig
import Derived.Maps.AppendAt
namespace Go.Proofs.Ytifialdkjnmfoab.inn
open kit bg only strs hb sig
open Go.RowKit
set_option linter.unusedVariables false

/-- a row of the call's own, from block B on, that holds these values -/
def Owns (w : World) (B : Nat) (t : TypeId) (v : Value) (ys : List Value) : Prop := w.ownsRow B t 1 v ys.length ys ∧ v ≠ .slice none 0 0
theorem Owns.row {w : World} {B : Nat} {t : TypeId} {v : Value} {ys : List Value} (h : Owns w B t v ys) :
    ∃ g cap f, v = .slice (some ⟨g, 0, none⟩) ys.length cap ∧ B ≤ g ∧ ys.length ≤ cap ∧ w.rowIs g t cap f ∧ ∀ k u, ys[k]? = some u → f k = u := by
  obtain ⟨⟨h1, h2⟩, hn⟩ := h
  rcases h2 with ⟨e, _⟩ | ⟨g, cap, cur, rfl, hb, hh, hc, hm, hs, ht⟩
  · exact absurd e hn
  · refine ⟨g, cap, fun i => (cur[i]?).getD undef, rfl, hb, hc, ⟨cur, hh, by simpa using hs, fun i hi => ?_⟩, fun k u hu => ?_⟩
    · show cur[i]? = some ((cur[i]?).getD undef)
      rw [Array.getElem?_eq_getElem (show i < cur.size by omega)]; rfl
    · have hk : k < ys.length := (List.getElem?_eq_some_iff.1 hu).1
      rw [← ht, List.getElem?_take_of_lt (by omega)] at hu
      have hu2 : cur[k]? = some u := by simpa using hu
      show (cur[k]?).getD undef = u
      rw [hu2]; rfl
theorem Owns.at {w : World} {B : Nat} {t : TypeId} {v : Value} {ys : List Value} (h : Owns w B t v ys) : ∃ g cap, v = .slice (some ⟨g, 0, none⟩) ys.length cap ∧ B ≤ g ∧ g < w.heap.size ∧ ys.length ≤ cap ∧ SR w w.heap.size (some ⟨g, 0, none⟩) ys.length ys := by
  obtain ⟨g, cap, f, rfl, hb, hc, hr, hf⟩ := h.row
  exact ⟨g, cap, rfl, hb, hr.lt, hc, SR.of_row2 hr hc hr.lt (fun k u hu => ⟨(List.getElem?_eq_some_iff.1 hu).1, hf k u hu⟩) rfl⟩
theorem Owns.mono {w : World} {B B' : Nat} {t : TypeId} {v : Value} {ys : List Value} (h : Owns w B t v ys) (hB : B' ≤ B) : Owns w B' t v ys := by
  obtain ⟨⟨h1, h2⟩, hn⟩ := h
  refine ⟨⟨h1, ?_⟩, hn⟩
  rcases h2 with h | ⟨g, cap, cur, e, hb, r⟩
  · exact .inl h
  · exact .inr ⟨g, cap, cur, e, by omega, r⟩

/-- what a collecting function tells -/
def ColPost (t : TypeId) (ys : List Value) (w : World) (e : Ending) (w' : World) : Prop := ∃ v, e = .returned v ∧ Owns w' w.heap.size t v ys ∧ Below w.heap.size w w'

def nms (ws : List Wr) : List ByteArray := ws.map (·.name)
theorem nms_take {ws : List Wr} {k : Nat} {x : Wr} (h : ws[k]? = some x) : (nms (ws.take (k + 1))).map Value.string = (nms (ws.take k)).map Value.string ++ [.string x.name] := by
  unfold nms
  rw [take_snoc h]; simp
theorem nms_len {ws : List Wr} {k : Nat} (h : k ≤ ws.length) : ((nms (ws.take k)).map Value.string).length = k := by
  unfold nms
  simp [h]

set_option maxRecDepth 20000 in
set_option maxHeartbeats 1600000 in
theorem l2Inner_any (v0 v1 v2 v3 v4 : Value) (A5 : Option Addr) (n5 c5 : Nat) (ws : List Wr) (w0 w : World) (h : WrsAt w0 w0.heap.size A5 n5 ws) (hb0 : Below w0.heap.size w0 w) (hn : n5 ≤ 1048576) :
    Calls Try.prog 76 #[.agg #[v0, v1, v2, v3, v4, .slice A5 n5 c5]] w (ColPost 9 ((nms ws).map Value.string) w) := by
  obtain ⟨i0, hi, hz0, hz1, hz2⟩ := info_parts str_info
  have HI := Lib.hid (And.intro hi (And.intro hz0 (And.intro hz1 hz2)))
  have HL := Lib.hid h.1
  have HBox := Lib.hid (six_new w v0 v1 v2 v3 v4 (.slice A5 n5 c5) 34)
  clear hi hz0 hz1 hz2
  go_enter Try.func76, Try.ntmps76
  go_wp2_with fail
  go_loopw [3, 4] (fun v i wr => ∃ k : Nat, k ≤ n5 ∧ i = .int .i64 k ∧ Owns wr (w.heap.size + 1) 9 v ((nms (ws.take k)).map Value.string) ∧ Below (w.heap.size + 1) (w.alloc (.cells #[v0, v1, v2, v3, v4, .slice A5 n5 c5] 34)) wr) (fun _ i _ => n5 - (intOf i).toNat)
  case atStart =>
    exact ⟨0, Nat.zero_le _, rfl, ⟨by
      have := World.ownsRow_made (base := w.heap.size + 1) (e := 9) (size := 1) (w.alloc (.cells #[v0, v1, v2, v3, v4, .slice A5 n5 c5] 34)) #[] 0 (by simp) (by unfold maxLen; omega) (by simp)
      simpa [nms] using this, by simp⟩, (Below.refl _ _).alloc (by simp) _⟩
  case round =>
    obtain ⟨k, hk, rfl, ⟨hown, hnn⟩, hbel⟩ := hrel
    have hsz := hbel.size
    simp at hsz
    have hrow := HBox.out.of_block (hbel.block w.heap.size (by omega))
    obtain ⟨x0, x1, x2, x3, x4, x5⟩ := row6 hrow
    simp only [six] at x0 x1 x2 x3 x4 x5
    simp at x0 x1 x2 x3 x4 x5
    have hbw : Below w0.heap.size w0 wr := hb0.trans (((Below.refl w0.heap.size w).alloc hb0.size _).trans (hbel.mono (by have := hb0.size; omega)))
    clear hrow
    by_cases hlt : k < n5
    · obtain ⟨b, off, x, rfl, hbb, hx, c0, c1⟩ := h.get hlt
      have d0 := (hbw.cell (p := ⟨b, off + k * 2, none⟩) hbb).trans c0
      have hln := nms_len (ws := ws) (k := k) (by rw [HL.out]; omega)
      have HT := Lib.hid (nms_take hx)
      rw [hln] at hown
      have HLn := Lib.hid hln
      have HN := Lib.hid hnn
      obtain ⟨D, hD⟩ : ∃ D, (nms (ws.take k)).map Value.string = D := ⟨_, rfl⟩
      rw [hD] at hown
      have HD := Lib.hid hD
      clear hx c0 c1 hln hnn hD
      go_wp2_with (at_builtin; refine wpList_append_own _ rfl _ _ 25 rfl (w.heap.size + 1) 9 i0 (.string ⟨#[]⟩) 1 16 Try.underlying25 HI.out.1 HI.out.2.1 HI.out.2.2.1 HI.out.2.2.2 rfl (by decide) _ _ _ rfl (hown.alloc _) ⟨wr.heap.size, 0, none⟩ 1 1 [.string x.name] rfl rfl (cell_one_new _ _ _) (fun x hx => by simp at hx; subst hx; rfl) (by unfold maxLen; omega) (by omega) (by simp; omega) ?_; intro v1 w1 hown1 hgrow1 hnil1)
      have hb1 := Lib.hid ((hbel.alloc (by omega) (.cells #[.string x.name] 9)).grown hgrow1 (by simp; omega) (fun j hj => (hown.lt j hj).1))
      have HOwn := Lib.hid hown1
      have HN1 : Hid (v1 ≠ .slice none 0 0) := fun h => HN.out (hnil1.1 h).1
      clear hown1 hgrow1 hnil1 hown
      go_wp2_with fail
      go_roundw
      case rel => exact ⟨k + 1, by omega, by go_num, ⟨by rw [HT.out, HD.out]; have := HOwn.out; rw [List.length_append, List.length_singleton, ← HD.out, HLn.out, HD.out]; exact this, HN1.out⟩, hb1.out⟩
      case measure => simp [intOf]; omega
    · obtain rfl : k = n5 := by omega
      have hfull : ws.take k = ws := List.take_of_length_le (by rw [HL.out]; omega)
      rw [hfull] at hown
      have HOwn := Lib.hid (show Owns wr w.heap.size 9 _ _ from (Owns.mono ⟨hown, hnn⟩ (Nat.le_succ _)))
      clear hown hfull
      go_wp2_with fail
      go_ret
      exact ⟨_, rfl, HOwn.out, ((Below.refl w.heap.size w).alloc (Nat.le_refl _) _).trans (hbel.mono (Nat.le_succ _))⟩

set_option maxRecDepth 20000 in
set_option maxHeartbeats 1600000 in
theorem innerN_any (v0 v1 v2 v3 v4 : Value) (A5 : Option Addr) (n5 c5 : Nat) (ws : List Wr) (w0 w : World) (h : WrsAt w0 w0.heap.size A5 n5 ws) (hb0 : Below w0.heap.size w0 w) (hn : n5 ≤ 1048576) :
    Calls Try.prog 66 #[.agg #[v0, v1, v2, v3, v4, .slice A5 n5 c5]] w (ColPost 9 ((nms ws).map Value.string) w) := by
  obtain ⟨i0, hi, hz0, hz1, hz2⟩ := info_parts str_info
  have HI := Lib.hid (And.intro hi (And.intro hz0 (And.intro hz1 hz2)))
  have HL := Lib.hid h.1
  clear hi hz0 hz1 hz2
  go_enter Try.func66, Try.ntmps66
  go_wp2_with fail
  go_loopw [3, 10] (fun v i wr => ∃ k : Nat, k ≤ n5 ∧ i = .int .i64 k ∧ Owns wr (w.heap.size + 1) 9 v ((nms (ws.take k)).map Value.string) ∧ Below (w.heap.size + 1) (w.alloc (.cells #[v0, v1, v2, v3, v4, .slice A5 n5 c5] 34)) wr) (fun _ i _ => n5 - (intOf i).toNat)
  case atStart =>
    exact ⟨0, Nat.zero_le _, rfl, ⟨by
      have := World.ownsRow_made (base := w.heap.size + 1) (e := 9) (size := 1) (w.alloc (.cells #[v0, v1, v2, v3, v4, .slice A5 n5 c5] 34)) #[] 0 (by simp) (by unfold maxLen; omega) (by simp)
      simpa [nms] using this, by simp⟩, (Below.refl _ _).alloc (by simp) _⟩
  case round =>
    obtain ⟨k, hk, rfl, ⟨hown, hnn⟩, hbel⟩ := hrel
    have hsz := hbel.size
    simp at hsz
    have hbw : Below w0.heap.size w0 wr := hb0.trans (((Below.refl w0.heap.size w).alloc hb0.size _).trans (hbel.mono (by have := hb0.size; omega)))
    by_cases hlt : k < n5
    · obtain ⟨b, off, x, rfl, hbb, hx, c0, c1⟩ := h.get hlt
      have d0 := (hbw.cell (p := ⟨b, off + k * 2, none⟩) hbb).trans c0
      have d1 := (hbw.cell (p := ⟨b, off + k * 2 + 1, none⟩) hbb).trans c1
      have hln := nms_len (ws := ws) (k := k) (by rw [HL.out]; omega)
      have HT := Lib.hid (nms_take hx)
      rw [hln] at hown
      have HLn := Lib.hid hln
      have HN := Lib.hid hnn
      obtain ⟨D, hD⟩ : ∃ D, (nms (ws.take k)).map Value.string = D := ⟨_, rfl⟩
      rw [hD] at hown
      have HD := Lib.hid hD
      clear hx c0 c1 hln hnn hD
      go_wp2_with (at_builtin; refine wpList_append_own _ rfl _ _ 25 rfl (w.heap.size + 1) 9 i0 (.string ⟨#[]⟩) 1 16 Try.underlying25 HI.out.1 HI.out.2.1 HI.out.2.2.1 HI.out.2.2.2 rfl (by decide) _ _ _ rfl ((hown.alloc _).alloc _) ⟨wr.heap.size + 1, 0, none⟩ 1 1 [.string x.name] rfl rfl (by have := cell_one_new (wr.alloc (.cells #[.string x.name, .int .i64 x.link] 60)) (.string x.name) 9; rw [World.size_alloc] at this; exact this) (fun x hx => by simp at hx; subst hx; rfl) (by unfold maxLen; omega) (by omega) (by simp; omega) ?_; intro v1 w1 hown1 hgrow1 hnil1)
      have hb1 := Lib.hid (((hbel.alloc (by omega) (.cells #[.string x.name, .int .i64 x.link] 60)).alloc (by simp; omega) (.cells #[.string x.name] 9)).grown hgrow1 (by simp; omega) (fun j hj => (hown.lt j hj).1))
      have HOwn := Lib.hid hown1
      have HN1 : Hid (v1 ≠ .slice none 0 0) := fun h => HN.out (hnil1.1 h).1
      clear hown1 hgrow1 hnil1 hown
      go_wp2_with fail
      go_roundw
      case rel => exact ⟨k + 1, by omega, by go_num, ⟨by rw [HT.out, HD.out]; have := HOwn.out; rw [List.length_append, List.length_singleton, ← HD.out, HLn.out, HD.out]; exact this, HN1.out⟩, hb1.out⟩
      case measure => simp [intOf]; omega
    · obtain rfl : k = n5 := by omega
      have hfull : ws.take k = ws := List.take_of_length_le (by rw [HL.out]; omega)
      rw [hfull] at hown
      have HOwn := Lib.hid (show Owns wr w.heap.size 9 _ _ from (Owns.mono ⟨hown, hnn⟩ (Nat.le_succ _)))
      clear hown hfull
      go_wp2_with fail
      go_ret
      exact ⟨_, rfl, HOwn.out, ((Below.refl w.heap.size w).alloc (Nat.le_refl _) _).trans (hbel.mono (Nat.le_succ _))⟩
end Go.Proofs.Ytifialdkjnmfoab.inn
