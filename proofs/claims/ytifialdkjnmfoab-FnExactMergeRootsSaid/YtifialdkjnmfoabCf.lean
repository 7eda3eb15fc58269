/- The last check of impl.linksFit: slices.ContainsFunc over the inner names with the closure that asks for a wrong link. -/
import Derived.Test.YtifialdkjnmfoabUn
import Derived.Test.YtifialdkjnmfoabHb
import Derived.Test.YtifialdkjnmfoabOver
namespace Go.Proofs.Ytifialdkjnmfoab.cf
open kit bg sg sig only un hb over
open Go.RowKit
set_option linter.unusedVariables false

/-- a box of six cells -/
def BoxAt (w : World) (β : Nat) (t : TypeId) (v0 v1 v2 v3 v4 v5 : Value) : Prop := w.rowIs β t 6 (six v0 v1 v2 v3 v4 v5)
theorem BoxAt.get {w : World} {β : Nat} {t : TypeId} {v0 v1 v2 v3 v4 v5 : Value} (h : BoxAt w β t v0 v1 v2 v3 v4 v5) :
    w.cell? ⟨β, 0, none⟩ = some v0 ∧ w.cell? ⟨β, 1, none⟩ = some v1 ∧ w.cell? ⟨β, 2, none⟩ = some v2 ∧ w.cell? ⟨β, 3, none⟩ = some v3 ∧ w.cell? ⟨β, 4, none⟩ = some v4 ∧ w.cell? ⟨β, 5, none⟩ = some v5 := row6 h
theorem BoxAt.below {w w' : World} {β B : Nat} {t : TypeId} {v0 v1 v2 v3 v4 v5 : Value} (h : BoxAt w β t v0 v1 v2 v3 v4 v5) (hb : Below B w w') (hB : β < B) : BoxAt w' β t v0 v1 v2 v3 v4 v5 := World.rowIs.of_block h (hb.block β hB)

set_option maxHeartbeats 800000 in
/-- the closure -/
theorem clos_any (β : Nat) (v0 v1 v2 v5 : Value) (E : Int) (A4 : Option Addr) (n4 c4 : Nat) (s : ByteArray) (l : Int) (w : World) (hbx : BoxAt w β 34 v0 v1 v2 (.int .i64 E) (.slice A4 n4 c4) v5) (hE : 0 ≤ E ∧ E ≤ 8) (h4 : n4 ≤ 16) :
    Calls Try.prog 114 #[.agg #[.string s, .int .i64 l], .pointer (some ⟨β, 0, none⟩)] w (Post (!inb l 0 (E + n4 - 1)) w) := by
  have hβ : β < w.heap.size := World.rowIs.lt hbx
  obtain ⟨x0, x1, x2, x3, x4, x5⟩ := hbx.get
  have HB := Lib.hid ((Below.refl w.heap.size w).alloc (Nat.le_refl _) (.cells #[.string s, .int .i64 l] 60))
  cases hq : inb l 0 (E + n4 - 1) with
  | false =>
    have HK := Lib.hid (fun W => hq ▸ ilk_any v0 v1 v2 v5 E l A4 n4 c4 W hE h4)
    clear hq
    go_enter Try.func114, Try.ntmps114
    go_wp2_with fail
    refine (HK.out _).mono ?_
    rintro e w1 ⟨rfl, hb⟩
    have hb2 := HB.out.trans (hb.mono HB.out.size)
    clear hb
    go_wp2_with fail
    go_ret
    exact ⟨rfl, hb2⟩
  | true =>
    have HK := Lib.hid (fun W => hq ▸ ilk_any v0 v1 v2 v5 E l A4 n4 c4 W hE h4)
    clear hq
    go_enter Try.func114, Try.ntmps114
    go_wp2_with fail
    refine (HK.out _).mono ?_
    rintro e w1 ⟨rfl, hb⟩
    have hb2 := HB.out.trans (hb.mono HB.out.size)
    clear hb
    go_wp2_with fail
    go_ret
    exact ⟨rfl, hb2⟩

/-- what the closure finds: the first wrong link -/
def WirOk (b : Big) (ws : List Wr) (k : Nat) : Prop := ∀ (j : Nat) x, j < k → ws[j]? = some x → linkB b x.link = true
def IdxPost (b : Big) (ws : List Wr) (w : World) (e : Ending) (w' : World) : Prop :=
  (∃ k : Nat, e = .returned (.int .i64 k) ∧ (∃ x, ws[k]? = some x ∧ linkB b x.link = false) ∧ Below w.heap.size w w') ∨ (e = .returned (.int .i64 (-1)) ∧ WirOk b ws ws.length ∧ Below w.heap.size w w')

set_option maxHeartbeats 1600000 in
theorem index_any (β : Nat) (v0 v1 v2 v5 : Value) (A4 : Option Addr) (n4 c4 : Nat) (A5 : Option Addr) (n5 c5 : Nat) (b : Big) (ws : List Wr) (w0 w : World) (hbx : BoxAt w β 34 v0 v1 v2 (.int .i64 b.edges) (.slice A4 n4 c4) v5) (hE : 0 ≤ b.edges ∧ b.edges ≤ 8) (h4 : n4 ≤ 16) (h4' : b.outer.length = n4)
    (h5 : WrsAt w0 w0.heap.size A5 n5 ws) (hb0 : Below w0.heap.size w0 w) (hn : n5 ≤ 1048576) :
    Calls Try.prog 123 #[.slice A5 n5 c5, .func (.func 114) #[] #[.pointer (some ⟨β, 0, none⟩)]] w (IdxPost b ws w) := by
  have HL := Lib.hid h5.1
  have HBx := Lib.hid hbx
  have hβ : β < w.heap.size := World.rowIs.lt hbx
  clear hbx
  go_enter Try.func123, Try.ntmps123
  go_wp2_with fail
  go_loopw [5, 8] (fun _ i wr => ∃ k : Nat, k ≤ n5 ∧ i = .int .i64 k ∧ WirOk b ws k ∧ Below w.heap.size w wr) (fun _ i _ => n5 - (intOf i).toNat)
  case atStart => exact ⟨0, Nat.zero_le _, rfl, fun j x hj => absurd hj (Nat.not_lt_zero j), Below.refl _ _⟩
  case round =>
    obtain ⟨k, hk, rfl, hok, hbel⟩ := hrel
    have HOk := Lib.hid hok
    have HBel := Lib.hid hbel
    have hbw := hb0.trans (hbel.mono hb0.size)
    clear hok hbel
    by_cases hlt : k < n5
    · obtain ⟨bi, offi, x, rfl, hbi, hx, cn, cl⟩ := h5.get hlt
      have g0 := (hbw.cell (p := ⟨bi, offi + k * 2, none⟩) hbi).trans cn
      have g1 := (hbw.cell (p := ⟨bi, offi + k * 2 + 1, none⟩) hbi).trans cl
      have CK := clos_any β v0 v1 v2 v5 b.edges A4 n4 c4 x.name x.link wr (HBx.out.below HBel.out hβ) hE h4
      have HX := Lib.hid hx
      have HLB := Lib.hid (show linkB b x.link = inb x.link 0 (b.edges + n4 - 1) by unfold linkB; rw [h4'])
      clear hx cn cl
      cases qu : inb x.link 0 (b.edges + n4 - 1) with
      | false =>
        rw [qu] at CK
        have HNo := Lib.hid (HLB.out.trans qu)
        clear qu
        go_wp2_with fail
        refine CK.mono ?_
        rintro e w3 ⟨rfl, hb3⟩
        have HB3 := Lib.hid (HBel.out.trans (hb3.mono HBel.out.size))
        clear CK hb3
        go_wp2_with fail
        go_ret
        exact .inl ⟨k, rfl, ⟨x, HX.out, HNo.out⟩, HB3.out⟩
      | true =>
        rw [qu] at CK
        have HYes := Lib.hid (HLB.out.trans qu)
        clear qu
        go_wp2_with fail
        refine CK.mono ?_
        rintro e w3 ⟨rfl, hb3⟩
        have HB3 := Lib.hid (HBel.out.trans (hb3.mono HBel.out.size))
        clear CK hb3
        go_wp2_with fail
        go_roundw
        case rel => exact ⟨k + 1, by omega, by go_num, fun j' x' hj' hx' => by
          by_cases e : j' = k
          · subst e; rw [HX.out] at hx'; injection hx' with e; subst e; exact HYes.out
          · exact HOk.out j' x' (by omega) hx', HB3.out⟩
        case measure => simp [intOf]; omega
    · obtain rfl : n5 = k := by omega
      go_wp2_with fail
      go_ret
      exact .inr ⟨rfl, by rw [HL.out]; exact HOk.out, HBel.out⟩

open Classical in
/-- whether some inner name has a wrong link -/
noncomputable def wirB (b : Big) (ws : List Wr) : Bool := decide (WirOk b ws ws.length)
open Classical in
theorem wir_true {b : Big} {ws : List Wr} (h : WirOk b ws ws.length) : wirB b ws = true := by unfold wirB; exact decide_eq_true h
open Classical in
theorem wir_false {b : Big} {ws : List Wr} (h : ¬ WirOk b ws ws.length) : wirB b ws = false := by unfold wirB; exact decide_eq_false h
open Classical in
theorem wir_of {b : Big} {ws : List Wr} (h : wirB b ws = true) : WirOk b ws ws.length := by unfold wirB at h; exact of_decide_eq_true h

set_option maxHeartbeats 800000 in
theorem contains_any (β : Nat) (v0 v1 v2 v5 : Value) (A4 : Option Addr) (n4 c4 : Nat) (A5 : Option Addr) (n5 c5 : Nat) (b : Big) (ws : List Wr) (w0 w : World) (hbx : BoxAt w β 34 v0 v1 v2 (.int .i64 b.edges) (.slice A4 n4 c4) v5) (hE : 0 ≤ b.edges ∧ b.edges ≤ 8) (h4 : n4 ≤ 16) (h4' : b.outer.length = n4)
    (h5 : WrsAt w0 w0.heap.size A5 n5 ws) (hb0 : Below w0.heap.size w0 w) (hn : n5 ≤ 1048576) :
    Calls Try.prog 113 #[.slice A5 n5 c5, .func (.func 114) #[] #[.pointer (some ⟨β, 0, none⟩)]] w (Post (!wirB b ws) w) := by
  have C := Lib.hid (index_any β v0 v1 v2 v5 A4 n4 c4 A5 n5 c5 b ws w0 w hbx hE h4 h4' h5 hb0 hn)
  obtain ⟨q, hq⟩ : ∃ q, wirB b ws = q := ⟨_, rfl⟩
  rw [hq]
  have HQ := Lib.hid hq
  clear hq hbx
  go_enter Try.func113, Try.ntmps113
  go_wp2_with fail
  refine C.out.mono ?_
  rintro e w1 (⟨k, rfl, ⟨x, hx, hl⟩, hb⟩ | ⟨rfl, hok, hb⟩)
  · have HNo := Lib.hid (HQ.out.symm.trans (wir_false (fun h => by rw [h k x (List.getElem?_eq_some_iff.1 hx).1 hx] at hl; cases hl)))
    clear hx hl
    go_wp2_with fail
    go_ret
    exact ⟨by rw [HNo.out]; rfl, hb⟩
  · have HYes := Lib.hid (HQ.out.symm.trans (wir_true hok))
    clear hok
    go_wp2_with fail
    go_ret
    exact ⟨by rw [HYes.out]; rfl, hb⟩
end Go.Proofs.Ytifialdkjnmfoab.cf
