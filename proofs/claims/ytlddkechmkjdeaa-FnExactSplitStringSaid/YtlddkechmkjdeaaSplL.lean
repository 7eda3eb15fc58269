/- FnExactSplitString: for every two strings, impl.SplitString answers as spec.SplitString does, and its answer owns its memory. No condition. -/
import Derived.Test.YtlddkechmkjdeaaSplS
import Derived.Test.YtlddkechmkjdeaaMark
import Derived.Test.YtlddkechmkjdeaaEqs
import Derived.Deep.AppendLies
namespace Go.Proofs.Ytlddkechmkjdeaa.fnExactSplitString
open kit strs hs jnw eqs split spls marks
open Go.ChangeShapes Go.WideShapes Go.ChangeAt Go.RowKit
open Go.ChangeMaps (open_string shut_string)
set_option linter.unusedVariables false

/-- a row of the call's own: where it lies, and that it reads as these strings -/
theorem own_row {w : World} {B : Nat} {v : Value} {ss : List ByteArray} (h : OwnS w B v ss) (hn : v ≠ .slice none 0 0) :
    ∃ g cap f, v = .slice (some ⟨g, 0, none⟩) ss.length cap ∧ B ≤ g ∧ ss.length ≤ cap ∧ w.rowIs g 9 cap f ∧ SR w w.heap.size (some ⟨g, 0, none⟩) ss.length (ss.map Value.string) := by
  obtain ⟨h1, h2⟩ := h
  rcases h2 with ⟨e, _⟩ | ⟨g, cap, cur, rfl, hb, hh, hc, hm, hs, ht⟩
  · exact absurd e hn
  · have hrow : w.rowIs g 9 cap (fun i => (cur[i]?).getD undef) := ⟨cur, hh, by simpa using hs, fun i hi => by
      show cur[i]? = some ((cur[i]?).getD undef)
      rw [Array.getElem?_eq_getElem (show i < cur.size by omega)]; rfl⟩
    refine ⟨g, cap, _, rfl, hb, hc, hrow, SR.of_row2 hrow hc hrow.lt (fun k u hu => ?_) (by simp)⟩
    have hk : k < ss.length := by
      have := (List.getElem?_eq_some_iff.1 hu).1
      simpa using this
    refine ⟨hk, ?_⟩
    rw [← ht, List.getElem?_take_of_lt (by omega)] at hu
    have hu2 : cur[k]? = some u := by simpa using hu
    show (cur[k]?).getD undef = u
    rw [hu2]; rfl

theorem below_only {w a b : World} {g : Nat} (h : Below w.heap.size w a) (k : a.grownBy b (some g)) (hg : w.heap.size ≤ g) : Below w.heap.size w b :=
  ⟨k.os.trans h.os, k.tape.trans h.tape, k.output.trans h.output, Nat.le_trans h.size k.size, fun i hi => (k.block i (Nat.lt_of_lt_of_le hi h.size) (fun e => by injection e with e; omega)).trans (h.block i hi)⟩

theorem len_parts (s sep : ByteArray) : (spL s sep).length ≤ 4001 := by
  unfold spL
  split
  · rename_i h
    have h1 : s.size ≤ 4000 ∧ sep.size = 1 := of_decide_eq_true h
    have := done_le s (sep.data.toList.headD 0).toNat s.size
    unfold parts
    rw [List.length_append, List.length_singleton]
    omega
  · simp

set_option maxHeartbeats 3200000 in
theorem walk (s sep : ByteArray) (w0 : s.size ≤ maxLen) (w1 : sep.size ≤ maxLen) (w : World) :
    Calls Try.prog 4 #[.string s, .string sep] w fun e w' => e = .returned (.bool true) ∧ Below w.heap.size w w' := by
  by_cases hs : s.size ≤ 1048576
  · by_cases hp : sep.size ≤ 1048576
    · have hlen := len_parts s sep
      obtain ⟨ss, hss⟩ : ∃ ss, spL s sep = ss := ⟨_, rfl⟩
      obtain ⟨b, hbb⟩ : ∃ b, spOk s sep = b := ⟨_, rfl⟩
      have HSpec := Lib.hid (fun W => specSplit_any s sep hp hs W)
      have HImpl := Lib.hid (fun W => implSplit_any s sep w0 W)
      unfold spPost at HSpec HImpl
      rw [hss] at hlen HSpec HImpl
      rw [hbb] at HSpec HImpl
      clear hss hbb
      go_enter Try.func4, Try.ntmps4
      go_wp2_with fail
      refine (HSpec.out _).mono ?_
      rintro e w1 ⟨v1, rfl, hown1, hn1, hb1⟩
      obtain ⟨g1, c1, f1, rfl, hg1, hc1, hrow1, hsr1⟩ := own_row hown1 hn1
      clear hown1 hn1 hrow1
      go_wp2_with fail
      refine (HImpl.out _).mono ?_
      rintro e w2 ⟨v2, rfl, hown2, hn2, hb2⟩
      obtain ⟨g2, c2, f2, rfl, hg2, hc2, hrow2, hsr2⟩ := own_row hown2 hn2
      clear hown2 hn2
      have hb02 := hb1.trans (hb2.mono hb1.size)
      have hsr12 := hsr1.below hb2
      have hs12 := hb2.size
      obtain ⟨n, hn⟩ : ∃ n, ss.length = n := ⟨_, rfl⟩
      rw [hn] at hlen hc1 hc2 hsr12 hsr2 ⊢
      have HN := Lib.hid hn
      clear hn hsr1
      go_wp2_with fail
      refine (eq_any _ _ _ _ _ ss _ _ _ hsr2 hsr12 (by omega)).mono ?_
      rintro e w3 ⟨rfl, hd3⟩
      have hrow3 := hrow2.of_block (hd3.below w2.heap.size |>.block g2 hrow2.lt)
      have hb03 := hb02.trans (hd3.below _)
      have hsr13 := hsr12.below (hd3.below _)
      have hs13 : w1.heap.size ≤ w3.heap.size := by rw [hd3.size]; exact hs12
      clear hrow2 hsr2 hsr12 hd3
      go_wp2_with fail
      refine (markS_any g2 n c2 f2 1 _ hrow3 hc2 (by omega) (by omega) (by omega)).mono ?_
      rintro e w4 ⟨rfl, hrow4, hgr4⟩
      have hb04 := below_only hb03 hgr4 (Nat.le_trans hb1.size hg2)
      have hsr14 := hsr13.move (w' := w4) (fun p hp => World.cell?_of_block (hgr4.block p.block (Nat.lt_of_lt_of_le hp hs13) (fun e => by injection e with e; omega)))
      have hs14 : w1.heap.size ≤ w4.heap.size := Nat.le_trans hs13 hgr4.size
      have hm0 : ∀ x, x < n → (if x < n then mks 1 x else f2 x) = mks 1 x := fun x hx => if_pos hx
      have HM := Lib.hid hm0
      have HG := Lib.hid hgr4
      clear hm0 hgr4 hrow3 hsr13
      go_wp2_with fail
      refine (heldS_any g2 n c2 1 _ _ hrow4 HM.out hc2 (by omega) (by omega) (by omega)).mono ?_
      rintro e w5 ⟨rfl, hb5⟩
      have hb05 := hb04.trans (hb5.mono hb04.size)
      have hrow5 := hrow4.of_block (hb5.block g2 hrow4.lt)
      have hsr15 := hsr14.below (hb5.mono hs14)
      have hs15 := Nat.le_trans hs14 hb5.size
      clear hrow4 hsr14
      go_wp2_with fail
      refine (HImpl.out _).mono ?_
      rintro e w6 ⟨v6, rfl, hown6, hn6, hb6⟩
      obtain ⟨g6, c6, f6, rfl, hg6, hc6, hrow6, hsr6⟩ := own_row hown6 hn6
      rw [HN.out] at hc6 hsr6 ⊢
      have hb06 := hb05.trans (hb6.mono hb05.size)
      have hrow56 := hrow5.of_block (hb6.block g2 hrow5.lt)
      have hsr16 := hsr15.below (hb6.mono hs15)
      clear hown6 hn6 hrow6 hrow5 hsr15
      go_wp2_with fail
      refine (eq_any _ _ _ _ _ ss _ _ _ hsr6 hsr16 (by omega)).mono ?_
      rintro e w7 ⟨rfl, hd7⟩
      have hrow7 := hrow56.of_block (hd7.below w6.heap.size |>.block g2 hrow56.lt)
      have hb07 := hb06.trans (hd7.below _)
      clear hrow56 hsr6 hsr16 hd7
      go_wp2_with fail
      refine (heldS_any g2 n c2 1 _ _ hrow7 HM.out hc2 (by omega) (by omega) (by omega)).mono ?_
      rintro e w8 ⟨rfl, hb8⟩
      have hb08 := hb07.trans (hb8.mono hb07.size)
      go_wp2_with fail
      go_ret
      exact ⟨rfl, hb08⟩
    · have hp' : 1048576 < sep.size := by omega
      go_enter Try.func4, Try.ntmps4
      go_wp2_with fail
      go_ret
      exact ⟨rfl, Below.refl _ _⟩
  · have hs' : 1048576 < s.size := by omega
    go_enter Try.func4, Try.ntmps4
    go_wp2_with fail
    go_ret
    exact ⟨rfl, Below.refl _ _⟩
theorem own : ownKnob Try.prog.godebug = none := by kernel_rfl
/-! ### THE ROW's STEP: WRITTEN OUT: LEAVE IT -/
set_option maxRecDepth 100000 in
theorem lifted (os : Os) (started : os.Started) (H : Type) (enc : TypeId × Value → H) :
    ReturnsInHanded {} Try.checked os 4 .any (Rows.fnExactSplitStringSpec.pre6 enc Try.prog Try.f4 Rows.fnExactSplitStringRow.domain false) (Rows.fnExactSplitStringSpec.post enc Try.prog Try.f4 false true false false) := by
  refine returnsInHanded_of_change (C := Try.checked) own started (by kernel_rfl) Try.func4
    (ChangeSpec.witness6 (enc := enc) (C := Try.checked) false ⟨#[], #[.string ByteArray.empty, .string ByteArray.empty], []⟩ 8 (by kernel_rfl) (by kernel_rfl) (by kernel_rfl) (by kernel_rfl)) ?_
  intro W base args ds gs before hval0 hW hcnd _
  have hval : ∀ (j : Nat) t v, Try.f4.params[j]? = some t → args[j]? = some v → Value.okWide Try.prog W .any base t v := hval0
  have hW' := hW
  obtain ⟨p, q, hA0, hV, rfl, hfz, hnd⟩ := hW
  have hA : DataW.TrodAll enc Try.prog W 0 (fun _ => true) true Try.f4.params.toList args.toList ds p := hA0
  rw [Try.params4] at hA hval
  obtain ⟨v0, vs0, d0, ds0, p0, q0, hargs, rfl, rfl, h0, r0⟩ := trodAll_cons hA
  obtain ⟨v1, vs1, d1, ds1, p1, q1, rfl, rfl, rfl, h1, r1⟩ := trodAll_cons r0
  obtain ⟨rfl, rfl, rfl⟩ := trodAll_nil r1
  obtain rfl : args = #[v0, v1] := by cases args; simp_all
  obtain ⟨rfl, rfl⟩ := trodVars_none hV
  obtain ⟨a0, rfl, rfl, rfl, w0⟩ := open_string Try.underlying9 (hval 0 9 v0 rfl rfl) h0
  obtain ⟨a1, rfl, rfl, rfl, w1⟩ := open_string Try.underlying9 (hval 1 9 v1 rfl rfl) h1
  clear hA0 hval0
  simp only [List.append_nil] at hW'
  refine (walk a0 a1 w0 w1 W).mono fun e W' ⟨he, hg⟩ => ?_
  subst he
  exact ⟨_, rfl, shut_below (pa := []) (pv := []) hW' (fun _ _ _ => (trodAll_cons_mk (shut_bool Try.underlying4 _) trodAll_mk0)) (fun sp _ => (trodAll_cons_mk (shut_string Try.underlying9 w0) (trodAll_cons_mk (shut_string Try.underlying9 w1) trodAll_mk0))) (fun _ _ => rfl) rfl hg (ok_one (by kernel_rfl) rfl (okWide_bool_mk Try.underlying4 _))⟩

theorem over : Rows.fnExactSplitStringRow.holds Try.pinned (OpenSpec.ofChange Rows.fnExactSplitStringSpec) :=
  OpenClaim.holds_of_wide 4 Try.f4 rfl rfl rfl rfl rfl rfl rfl ⟨rfl, rfl, rfl, rfl, rfl⟩ rfl rfl rfl rfl rfl (by kernel_rfl) Try.func4 (by kernel_rfl)
    (of_decide_eq_true (by kernel_rfl)) (by unfold Func.isWrapper; first | (rw [if_pos (by decide +kernel)]; kernel_rfl) | (rw [if_neg (by decide +kernel)]; exact ⟨rfl, rfl⟩))
    (fun os started H enc _ => lifted os started H enc)

/-- ████ THE STATEMENT ████ -/
theorem proved : Rows.FnExactSplitStringSaid :=
  over
#print axioms proved
end Go.Proofs.Ytlddkechmkjdeaa.fnExactSplitString
