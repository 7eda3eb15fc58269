/- slices.Equal at ints; slices.IndexFunc at heads of formulas for any function value; the heads of formulas in memory. -/
import Derived.Test.YtlpgldejmdiceabDoorQb
import Derived.Test.YtlpgldejmdiceabDoorFox
import Derived.BigQuiet
namespace Go.Proofs.YtlpgldejmdiceabDoor.foh
open kit bg opn strs only hb sg sig isig un over fox
open Go.RowKit
set_option linter.unusedVariables false
set_option linter.unusedSimpArgs false
set_option maxHeartbeats 1600000 in
theorem eqInt_any (A : Option Addr) (n c : Nat) (xs : List Int) (B : Option Addr) (m d : Nat) (ys : List Int) (w : World) (L M : Nat) (h : IntsAt w L A n xs) (h' : IntsAt w M B m ys) (hL : L ≤ w.heap.size) (hM : M ≤ w.heap.size) (hn : n ≤ 1048576) (hm : m ≤ 1048576) :
    Calls Tryd.prog 123 #[.slice A n c, .slice B m d] w (Post (decide (xs = ys)) w) := by
  have HX := Lib.hid h.len
  have HY := Lib.hid h'.len
  by_cases hq : n = m
  · subst hq
    go_enter Tryd.func123, Tryd.ntmps123
    go_wp2_with fail
    go_loopw [5, 13] (fun _ i wr => ∃ k : Nat, k ≤ n ∧ i = .int .i64 k ∧ (∀ (j : Nat) x y, j < k → xs[j]? = some x → ys[j]? = some y → x = y) ∧ Dr w wr) (fun _ i _ => n - (intOf i).toNat)
    case atStart => exact ⟨0, Nat.zero_le _, rfl, fun j x y hj => absurd hj (Nat.not_lt_zero j), Dr.refl _⟩
    case round =>
      obtain ⟨k, hk, rfl, hall, hdr⟩ := hrel
      have HA := Lib.hid hall
      clear hall
      by_cases hlt : k < n
      · obtain ⟨b1, o1, x, rfl, hb1, hx, cx⟩ := h.get hlt
        obtain ⟨b2, o2, y, rfl, hb2, hy, cy⟩ := h'.get hlt
        have ex := (hdr.cell ⟨b1, o1 + k, none⟩).trans cx
        have ey := (hdr.cell ⟨b2, o2 + k, none⟩).trans cy
        have hbb1 : b1 < wr.heap.size := by rw [hdr.size]; omega
        have hbb2 : b2 < wr.heap.size := by rw [hdr.size]; omega
        have HXx := Lib.hid hx
        have HYy := Lib.hid hy
        clear hx hy cx cy
        cases he : (x == y) with
        | true =>
          have HE := Lib.hid (show x = y from eq_of_beq he)
          have he2 : (x != y) = false := by rw [bne, he]; rfl
          go_wp2_with fail
          go_quiet (fail)
          go_wp2_with fail
          go_roundw
          case rel => exact ⟨k + 1, by omega, by go_num, fun j x' y' hj hx' hy' => by
            by_cases e : j = k
            · subst e; rw [HXx.out] at hx'; rw [HYy.out] at hy'; injection hx' with e1; injection hy' with e2; rw [← e1, ← e2]; exact HE.out
            · exact HA.out j x' y' (by omega) hx' hy', hdr.more _⟩
          case measure => simp [intOf]; omega
        | false =>
          have HE := Lib.hid (show x ≠ y from fun e => by subst e; simp at he)
          have he2 : (x != y) = true := by rw [bne, he]; rfl
          have HN : Hid (decide (xs = ys) = false) := Lib.hid (decide_eq_false fun e => HE.out (by
            have h1 := HXx.out; rw [e, HYy.out] at h1; injection h1 with h1; exact h1.symm))
          go_wp2_with fail
          go_quiet (fail)
          go_wp2_with fail
          go_ret
          exact ⟨by rw [HN.out]; rfl, (hdr.more _).below _⟩
      · obtain rfl : k = n := by omega
        have HYs : Hid (decide (xs = ys) = true) := Lib.hid (decide_eq_true (by
          refine List.ext_getElem? (fun j => ?_)
          by_cases hj : j < k
          · have ex : xs[j]? = some (xs[j]'(by rw [HX.out]; exact hj)) := List.getElem?_eq_getElem _
            have ey : ys[j]? = some (ys[j]'(by rw [HY.out]; exact hj)) := List.getElem?_eq_getElem _
            rw [ex, ey, HA.out j _ _ hj ex ey]
          · rw [List.getElem?_eq_none (by rw [HX.out]; omega), List.getElem?_eq_none (by rw [HY.out]; omega)]))
        go_wp2_with fail
        go_ret
        exact ⟨by rw [HYs.out]; rfl, hdr.below _⟩
  · have HN : Hid (decide (xs = ys) = false) := Lib.hid (decide_eq_false fun e => hq (by rw [← HX.out, ← HY.out, e]))
    have hq' : ¬ (n : Int) = m := by omega
    go_enter Tryd.func123, Tryd.ntmps123
    go_wp2_with fail
    go_ret
    exact ⟨by rw [HN.out]; rfl, Below.refl _ _⟩
instance : DecidableEq Wr := fun a b => if h : a.name = b.name ∧ a.link = b.link then isTrue (by cases a; cases b; simp at h; rw [h.1, h.2]) else isFalse (fun e => h (by rw [e]; exact ⟨rfl, rfl⟩))

/-! ### heads in memory -/
def BoxF (w : World) (β : Nat) (t : TypeId) (l : List Value) : Prop := w.rowIs β t l.length (fun i => (l[i]?).getD undef)
section
variable {w w' : World} {β B : Nat} {t : TypeId} {l : List Value}
theorem BoxF.cell (h : BoxF w β t l) {i : Nat} {v : Value} (hi : l[i]? = some v) : w.cell? ⟨β, i, none⟩ = some v := by
  have := World.rowIs.cell h (show i < l.length from (List.getElem?_eq_some_iff.1 hi).1)
  rw [hi] at this
  exact this
theorem BoxF.below (h : BoxF w β t l) (hb : Below B w w') (hB : β < B) : BoxF w' β t l := World.rowIs.of_block h (hb.block β hB)
theorem BoxF.lt (h : BoxF w β t l) : β < w.heap.size := World.rowIs.lt h
theorem BoxF.on (h : BoxF w β t l) (hb : Below w.heap.size w w') : BoxF w' β t l := h.below hb h.lt
theorem BoxF.new (w : World) (c : Array Value) (t : TypeId) : BoxF (w.alloc (.cells c t)) w.heap.size t c.toList := by
  unfold BoxF
  refine World.rowIs.congr (row_new w c t c.toList.length (by simp)) (fun i hi => ?_)
  simp
theorem BoxF.set (h : BoxF w β t l) (k : Nat) (u : Value) : BoxF (w.setCell ⟨β, k, none⟩ u) β t (l.set k u) := by
  unfold BoxF
  rw [List.length_set]
  refine World.rowIs.congr (World.rowIs.set h k u) (fun i hi => ?_)
  by_cases e : i = k
  · subst e
    simp [hi]
  · simp [e, List.getElem?_set, Ne.symm e]
theorem BoxF.other {γ : Nat} (h : BoxF w β t l) (hn : β ≠ γ) (k : Nat) (u : Value) : BoxF (w.setCell ⟨γ, k, none⟩ u) β t l := World.rowIs.setOther (a := ⟨γ, k, none⟩) h hn u
end
/-- the nineteen heads at a row -/
def HdsAt (w : World) (B g : Nat) : Prop :=
  g < B ∧ ∀ k, k < 19 → ∃ gk s, gk < B ∧ w.cell? ⟨g, k * 3, none⟩ = some (.slice (some ⟨gk, 0, none⟩) (hdN k).length (hdN k).length) ∧ w.cell? ⟨g, k * 3 + 1, none⟩ = some (.string s) ∧ w.cell? ⟨g, k * 3 + 2, none⟩ = some (.int .i64 (hdP k : Nat)) ∧ IntsAt w B (some ⟨gk, 0, none⟩) (hdN k).length (hdN k)
theorem HdsAt.below {w w' : World} {B g : Nat} (h : HdsAt w B g) (hb : Below B w w') : HdsAt w' B g :=
  ⟨h.1, fun k hk => by
    obtain ⟨gk, s, h1, h2, h3, h4, h5⟩ := h.2 k hk
    exact ⟨gk, s, h1, (hb.cell (p := ⟨g, _, none⟩) h.1).trans h2, (hb.cell (p := ⟨g, _, none⟩) h.1).trans h3, (hb.cell (p := ⟨g, _, none⟩) h.1).trans h4, h5.below hb⟩⟩
theorem HdsAt.wide {w : World} {B B' g : Nat} (h : HdsAt w B g) (hB : B ≤ B') : HdsAt w B' g :=
  ⟨by have := h.1; omega, fun k hk => by
    obtain ⟨gk, s, h1, h2, h3, h4, h5⟩ := h.2 k hk
    exact ⟨gk, s, by omega, h2, h3, h4, h5.wide hB⟩⟩
theorem hd_len (k : Nat) : 1 ≤ (hdN k).length ∧ (hdN k).length ≤ 2 := by
  unfold hdN
  by_cases h0 : k = 0
  · rw [if_pos h0]; exact ⟨Nat.le_refl _, Nat.le_succ _⟩
  · rw [if_neg h0]
    by_cases h1 : k = 1
    · rw [if_pos h1]; exact ⟨Nat.le_refl _, Nat.le_succ _⟩
    · rw [if_neg h1]
      by_cases h2 : k = 2
      · rw [if_pos h2]; exact ⟨Nat.le_refl _, Nat.le_succ _⟩
      · rw [if_neg h2]
        by_cases h3 : k < 11
        · rw [if_pos h3]; exact ⟨Nat.le_succ _, Nat.le_refl _⟩
        · rw [if_neg h3]; exact ⟨Nat.le_succ _, Nat.le_refl _⟩
theorem hd_parts (k : Nat) : hdP k ≤ 2 := by
  unfold hdP
  by_cases h0 : k = 0
  · rw [if_pos h0]; omega
  · rw [if_neg h0]
    by_cases h1 : k = 1
    · rw [if_pos h1]; omega
    · rw [if_neg h1]
      by_cases h2 : k = 2
      · rw [if_pos h2]; omega
      · rw [if_neg h2]
        by_cases h3 : k < 11
        · rw [if_pos h3]; omega
        · rw [if_neg h3]; omega
def FoundH (P : Nat → Bool) (w : World) (e : Ending) (w' : World) : Prop :=
  (∃ k : Nat, k < 19 ∧ e = .returned (.int .i64 k) ∧ P k = true ∧ Below w.heap.size w w') ∨ (e = .returned (.int .i64 (-1)) ∧ (∀ k, k < 19 → P k = false) ∧ Below w.heap.size w w')
set_option maxRecDepth 20000 in
set_option maxHeartbeats 1600000 in
theorem idxH_any (G : FuncId) (lb : Array Value) (P : Nat → Bool) (eg : ∀ args w, (callFunc G args).run Tryd.prog w = .ok (.enter G args) w) (g nx cx : Nat) (hnx : nx = 19) (w : World)
    (hG : ∀ (k gk : Nat) (s : ByteArray) (Y : World), k < 19 → Below w.heap.size w Y → gk < Y.heap.size → IntsAt Y Y.heap.size (some ⟨gk, 0, none⟩) (hdN k).length (hdN k) → Calls Tryd.prog G (#[.agg #[.slice (some ⟨gk, 0, none⟩) (hdN k).length (hdN k).length, .string s, .int .i64 (hdP k : Nat)]] ++ lb) Y (Post (P k) Y))
    (hx : HdsAt w w.heap.size g) :
    Calls Tryd.prog 121 #[.slice (some ⟨g, 0, none⟩) nx cx, .func (.func G) #[] lb] w (FoundH P w) := by
  have HG := Lib.hid hG
  have HNx := Lib.hid hnx
  have hnx1 : nx ≤ 1048576 := by omega
  clear hG hnx
  go_enter Tryd.func121, Tryd.ntmps121
  go_wp2_with fail
  go_loopw [5, 8] (fun _ i wr => ∃ k : Nat, k ≤ nx ∧ i = .int .i64 k ∧ (∀ j, j < k → P j = false) ∧ Below w.heap.size w wr) (fun _ i _ => nx - (intOf i).toNat)
  case atStart => exact ⟨0, Nat.zero_le _, rfl, fun j hj => absurd hj (Nat.not_lt_zero j), Below.refl _ _⟩
  case round =>
    obtain ⟨k, hk, rfl, hok, hbel⟩ := hrel
    have HOk := Lib.hid hok
    have HBel := Lib.hid hbel
    clear hok
    by_cases hlt : k < nx
    · obtain ⟨gk, s, q1, q2, q3, q4, q5⟩ := hx.2 k (by have := HNx.out; omega)
      have g0 := (hbel.cell (p := ⟨g, k * 3, none⟩) hx.1).trans q2
      have g1 := (hbel.cell (p := ⟨g, k * 3 + 1, none⟩) hx.1).trans q3
      have g2 := (hbel.cell (p := ⟨g, k * 3 + 2, none⟩) hx.1).trans q4
      have CK := HG.out k gk s wr (by have := HNx.out; omega) HBel.out (Nat.lt_of_lt_of_le q1 hbel.size) ((q5.below hbel).wide hbel.size)
      obtain ⟨q, hq⟩ : ∃ q, P k = q := ⟨_, rfl⟩
      have HQ := Lib.hid hq
      obtain ⟨m, hm⟩ : ∃ m, (hdN k).length = m := ⟨_, rfl⟩
      obtain ⟨pp, hpp⟩ : ∃ m : Nat, hdP k = m := ⟨_, rfl⟩
      rw [hq, hm, hpp] at CK
      rw [hm] at g0
      rw [hpp] at g2
      clear hq hm hpp q2 q3 q4 q5 hbel
      cases q with
      | true =>
        repeat (first | go_values | go_skip | go_guarded | go_step | go_upon)
        refine CK.mono ?_
        rintro e w3 ⟨rfl, hb3⟩
        have HB3 := Lib.hid (HBel.out.trans (hb3.mono HBel.out.size))
        clear CK hb3
        go_wp2_with fail
        go_ret
        exact .inl ⟨k, by have := HNx.out; omega, rfl, HQ.out, HB3.out⟩
      | false =>
        repeat (first | go_values | go_skip | go_guarded | go_step | go_upon)
        refine CK.mono ?_
        rintro e w3 ⟨rfl, hb3⟩
        have HB3 := Lib.hid (HBel.out.trans (hb3.mono HBel.out.size))
        clear CK hb3
        go_wp2_with fail
        go_roundw
        case rel => exact ⟨k + 1, by omega, by go_num, fun j' hj' => by
          by_cases e : j' = k
          · subst e; exact HQ.out
          · exact HOk.out j' (by omega), HB3.out⟩
        case measure => simp [intOf]; omega
    · obtain rfl : k = nx := by omega
      go_wp2_with fail
      go_ret
      exact .inr ⟨rfl, by rw [← HNx.out]; exact HOk.out, HBel.out⟩
theorem pre_long {h f : List Int} (hl : f.length < h.length) : preB h f = false := decide_eq_false (fun e => by have := congrArg List.length e; simp at this; omega)
theorem take_ints {w : World} {B n k : Nat} {A : Option Addr} {f : List Int} (h : IntsAt w B A n f) (hk : k ≤ n) : IntsAt w B A k (f.take k) := by
  have hl := h.len
  refine ⟨by simp; omega, fun h0 => ?_⟩
  obtain ⟨b, off, e, hb, hc⟩ := h.2 (by omega)
  refine ⟨b, off, e, hb, fun i u hi => hc i u ?_⟩
  rw [List.getElem?_map] at hi ⊢
  obtain ⟨z, hz, rfl⟩ := Option.map_eq_some_iff.1 hi
  have hlt := (List.getElem?_eq_some_iff.1 hz).1
  rw [List.getElem?_take_of_lt (by simp at hlt; omega)] at hz
  rw [hz]; rfl
set_option maxRecDepth 20000 in
set_option maxHeartbeats 3200000 in
theorem rt1_any (β : Nat) (Af : Option Addr) (nf cf : Nat) (f : List Int) (k gk : Nat) (s : ByteArray) (w : World) (hβ : w.cell? ⟨β, 0, none⟩ = some (.slice Af nf cf)) (hβl : β < w.heap.size) (hf : IntsAt w w.heap.size Af nf f) (hc : nf ≤ cf) (hn : cf ≤ 1048576) (hk : k < 19) (hg : gk < w.heap.size) (hh : IntsAt w w.heap.size (some ⟨gk, 0, none⟩) (hdN k).length (hdN k)) :
    Calls Tryd.prog 122 (#[.agg #[.slice (some ⟨gk, 0, none⟩) (hdN k).length (hdN k).length, .string s, .int .i64 (hdP k : Nat)]] ++ #[.pointer (some ⟨β, 0, none⟩)]) w (Post (preB (hdN k) f) w) := by
  have hml := hd_len k
  obtain ⟨h, hhe⟩ : ∃ h, hdN k = h := ⟨_, rfl⟩
  obtain ⟨pp, hpp⟩ : ∃ m : Nat, hdP k = m := ⟨_, rfl⟩
  rw [hhe] at hh hml ⊢
  rw [hpp]
  obtain ⟨m, hm⟩ : ∃ m, h.length = m := ⟨_, rfl⟩
  have hfl := hf.len
  rw [hm] at hh hml ⊢
  have hb0 := (Below.refl w.heap.size w).alloc (Nat.le_refl _) (.cells #[.slice (some ⟨gk, 0, none⟩) m m, .string s, .int .i64 (pp : Nat)] 55)
  have hBx := BoxF.new w #[.slice (some ⟨gk, 0, none⟩) m m, .string s, .int .i64 (pp : Nat)] 55
  have z0 := (hb0.cell (p := ⟨β, 0, none⟩) hβl).trans hβ
  have y0 := hBx.cell (i := 0) rfl
  have y1 := hBx.cell (i := 1) rfl
  have y2 := hBx.cell (i := 2) rfl
  obtain ⟨W, hW⟩ : ∃ W, w.alloc (.cells #[.slice (some ⟨gk, 0, none⟩) m m, .string s, .int .i64 (pp : Nat)] 55) = W := ⟨_, rfl⟩
  rw [hW] at hb0 z0 y0 y1 y2 hBx
  have HWq := Lib.hid hW
  have HB0 := Lib.hid hb0
  have r0 := Over.get z0 (Nat.lt_of_lt_of_le hβl hb0.size)
  have r1 := Over.get y0 hBx.lt
  by_cases hle : m ≤ nf
  · have hle' : (m : Int) ≤ (nf : Int) := by omega
    have hlc : (m : Int) ≤ (cf : Int) := by omega
    have hm0 : (0 : Int) ≤ (m : Int) := by omega
    have HK := Lib.hid (fun y : Over W => over_call (eqInt_any (some ⟨gk, 0, none⟩) m m h Af m cf (f.take m) y.w W.heap.size W.heap.size (((hh.below hb0).wide hb0.size).below y.below) ((((take_ints hf hle).below hb0).wide hb0.size).below y.below) y.below.size y.below.size (by omega) (by omega)))
    have hpre : preB h f = decide (h = f.take m) := by unfold preB; rw [hm]; exact decide_eq_decide.2 ⟨fun e => e.symm, fun e => e.symm⟩
    rw [hpre]
    obtain ⟨q, hq⟩ : ∃ q, decide (h = f.take m) = q := ⟨_, rfl⟩
    rw [hq] at HK ⊢
    clear hW hb0 hBx hβ hf hh hpre hq hhe hpp z0 y0 y1 y2
    go_enter Tryd.func122, Tryd.ntmps122
    go_wp2_with fail
    rw [HWq.out]
    refine wp_region_over (by kernel_rfl) (by kernel_rfl) ?_
    repeat (go_big_quiet_step ((go_at_call 123; exact HK.out _)))
    refine wpQuiet_nil ?_
    rintro _ ⟨y, rfl⟩
    have hy := y.below
    obtain ⟨w9, hw9⟩ : ∃ w9, y.w = w9 := ⟨_, rfl⟩
    rw [hw9] at hy ⊢
    clear hw9
    have hb9 := HB0.out.trans (hy.mono HB0.out.size)
    clear hy
    go_wp2_with fail
    go_ret
    exact ⟨by first | rfl | simp, hb9⟩
  · have hle' : ¬ (m : Int) ≤ (nf : Int) := by omega
    rw [pre_long (by omega)]
    clear hW hb0 hBx hβ hf hh hhe hpp z0 y0 y1 y2
    go_enter Tryd.func122, Tryd.ntmps122
    go_wp2_with fail
    rw [HWq.out]
    refine wp_region_over (by kernel_rfl) (by kernel_rfl) ?_
    repeat (go_big_quiet_step (fail))
    refine wpQuiet_nil ?_
    rintro _ ⟨y, rfl⟩
    have hy := y.below
    obtain ⟨w9, hw9⟩ : ∃ w9, y.w = w9 := ⟨_, rfl⟩
    rw [hw9] at hy ⊢
    clear hw9
    have hb9 := HB0.out.trans (hy.mono HB0.out.size)
    clear hy
    go_wp2_with fail
    go_ret
    exact ⟨by first | rfl | simp, hb9⟩
end Go.Proofs.YtlpgldejmdiceabDoor.foh
