/- Mg. -/
import Derived.Test.YtfjgapkjpmkplaaGreatBa
import Derived.Test.YtfjgapkjpmkplaaGreatBc
import Derived.Test.YtfjgapkjpmkplaaGreatBd
import Derived.Test.YtfjgapkjpmkplaaGreatBe
import Derived.Test.YtfjgapkjpmkplaaGreatKa0
import Derived.Test.YtfjgapkjpmkplaaGreatJSo
import Derived.Test.YtfjgapkjpmkplaaGreatRows
import Derived.WalkKit
import Derived.WalkSpells
import Derived.WalkLawsBesides
import Derived.ProofKit
import Derived.OpenShut
import Derived.ShutString
import Derived.Deep.OwnRows
import Derived.Deep.Draws
import Derived.SliceStrings
import Derived.ChangeOld
import Derived.Below
import Derived.Lib.Hide
import Derived.Lib.ItoaNum
import Derived.Deep.QuietTactic
import Derived.BigQuiet
import Derived.Outline
import Derived.StillTailTactics
import Derived.Deep.RegionWith
import Derived.Deep.RegionHeld3
import Derived.Deep.Slices
import Derived.Deep.Fields
import Derived.ChangeSame
import Derived.Lib.SmallJoins
import Derived.Maps.OwnOps
import Derived.Maps.OwnIn
import Derived.Maps.Views
import Derived.Maps.AppendAt
import Derived.RangeFuncBox
import Derived.RangeFuncLeaves
import Derived.Shelf.Abstract
import Derived.OwnWalkIn
import Derived.TacticsInMore
import Derived.LoopNIn
import Derived.LoopIn
import Derived.RangeFuncWrites
import Derived.RangeFuncNested
import Derived.JoinedOf
import Derived.Deep.AppendLies
import Derived.Deep.RegionLaw
import Derived.Laws.AppendOwnNone
import Derived.Deep.Cut
import Derived.Deep.CutRange
import Derived.Lib.SliceRun
import Derived.Lib.AppendZerosOnto
import Derived.Sort.OwnSorted
import Derived.Lib.SlicesCompact
import Derived.Sort.KeysCollected
import Derived.OrdersHeld
import Derived.StillTail
import Derived.Handy
import Derived.WalkMore
import Derived.ScopeJumps
set_option linter.unusedSimpArgs false
set_option linter.unusedVariables false
namespace Go.Proofs.YtfjgapkjpmkplaaGreat.mg
open kit bg sg opn strs only hb sig isig un over gn nm inn ht gd im pt marks eqs hc hi hw hn rs br bm bw cf lf ib lw cl sa su so cc
open Go.RowKit
set_option linter.unusedVariables false
set_option linter.unusedSimpArgs false
def mrg : Nat → List ByteArray → List ByteArray → List ByteArray × Bool
  | 0, a, b => (a ++ b, false)
  | _ + 1, [], b => (b, false)
  | _ + 1, x :: a, [] => (x :: a, false)
  | f + 1, x :: a, y :: b =>
    if Op.bytesLess x.toList y.toList = true then (x :: (mrg f a (y :: b)).1, (mrg f a (y :: b)).2)
    else if Op.bytesLess y.toList x.toList = true then (y :: (mrg f (x :: a) b).1, (mrg f (x :: a) b).2)
    else ((mrg f a (y :: b)).1, true)
theorem mrg_nil (f : Nat) (a : List ByteArray) : mrg f a [] = (a, false) := by
  cases f with
  | zero => simp [mrg]
  | succ f => cases a <;> rfl
theorem mrg_nil' (f : Nat) (b : List ByteArray) : mrg f [] b = (b, false) := by
  cases f with
  | zero => simp [mrg]
  | succ f => rfl
structure MgI (w : World) (xs ys : List ByteArray) (w' : World) (A B : Option Addr) (n c m d : Nat) (ps qs L : List ByteArray) (v : Value) (q : Bool) : Prop where
  a : SR w w.heap.size A n (ps.map Value.string)
  b : SR w w.heap.size B m (qs.map Value.string)
  ac : n ≤ c
  bc : m ≤ d
  a0 : A = none → c = 0
  b0 : B = none → d = 0
  o : w'.ownsRow w.heap.size 9 1 v L.length (L.map Value.string)
  bel : Below w.heap.size w w'
  r : L ++ (mrg (n + m) ps qs).1 = (mrg (xs.length + ys.length) xs ys).1
  f : (q || (mrg (n + m) ps qs).2) = (mrg (xs.length + ys.length) xs ys).2
  le : L.length + n + m ≤ xs.length + ys.length
def lenV : Value → Nat
  | .slice _ n _ => n
  | _ => 0
theorem sr_tail {w : World} {B b off n : Nat} {x : ByteArray} {ps : List ByteArray} (h : SR w B (some ⟨b, off, none⟩) (n + 1) ((x :: ps).map Value.string)) (o : Nat) (ho : 0 < n → o = off + 1) : SR w B (some ⟨b, o, none⟩) n (ps.map Value.string) := by
  refine ⟨by have := h.1; simpa using this, fun hn => ?_⟩
  obtain ⟨b', off', e, hb, hc⟩ := h.2 (by omega)
  injection e with e
  injection e with e1 e2 e3
  subst e1 e2
  rw [ho hn]
  refine ⟨_, _, rfl, hb, fun j u hj => ?_⟩
  have := hc (j + 1) u (by simpa using hj)
  rw [show off + 1 + j = off + (j + 1) by omega]
  exact this
theorem wp_scope_rest {P : Program} {a : Act} {w : World} {Q : Exit → Act → World → Prop} {c rest : Code} (l : Nat) (J : Act → World → Prop) (μ : Act → World → Nat) (hf : findLabel c l = some (Code.skip.seq rest))
    (first : (∀ a w, J a w → rest.wp P (Exit.jump l J Q) a w) → c.wp P (Exit.jump l J Q) a w)
    (pass : ∀ a w, J a w → rest.wp P (Exit.jump l (fun a' w' => J a' w' ∧ μ a' w' < μ a w) Q) a w) : (Code.scope c).wp P Q a w := by
  refine wp_scope_jumps l J μ hf (first fun a w h => wp_mono (pass a w h) fun e a' w' hq => ?_) (fun a w h => wp_seq (wp_skip (pass a w h)))
  cases e with
  | goto l' => exact ⟨hq.1, hq.2.1⟩
  | normal => exact hq
  | exit _ => exact hq
  | ret => exact hq
  | panic _ => exact hq
  | outgrown => exact hq
section
variable {w w' w2 : World} {xs ys ps qs L : List ByteArray} {A B : Option Addr} {b off o n c m d : Nat} {x y : ByteArray} {v v2 : Value} {q : Bool}
theorem MgI.fst (h : MgI w xs ys w' (some ⟨b, off, none⟩) B (n + 1) c (m + 1) d (x :: ps) (y :: qs) L v q) (h1 : Op.bytesLess x.toList y.toList = true) (hb : Below w.heap.size w w2) (ho : w2.ownsRow w.heap.size 9 1 v2 (L.length + 1) (L.map Value.string ++ [.string x])) (hq : 0 < n → o = off + 1) : MgI w xs ys w2 (some ⟨b, o, none⟩) B n (c - 1) (m + 1) d ps (y :: qs) (L ++ [x]) v2 q where
  a := sr_tail h.a o hq
  b := h.b
  ac := by have := h.ac; omega
  bc := h.bc
  a0 := fun e => by cases e
  b0 := h.b0
  o := by
    rw [List.length_append, List.map_append]
    exact ho
  bel := hb
  r := by
    have := h.r
    rw [show n + 1 + (m + 1) = (n + (m + 1)) + 1 by omega, mrg, if_pos h1] at this
    rw [← this]
    simp
  f := by
    have := h.f
    rw [show n + 1 + (m + 1) = (n + (m + 1)) + 1 by omega, mrg, if_pos h1] at this
    exact this
  le := by have := h.le; simp; omega
theorem MgI.snd (h : MgI w xs ys w' A (some ⟨b, off, none⟩) (n + 1) c (m + 1) d (x :: ps) (y :: qs) L v q) (h1 : Op.bytesLess x.toList y.toList = false) (h2 : Op.bytesLess y.toList x.toList = true) (hb : Below w.heap.size w w2) (ho : w2.ownsRow w.heap.size 9 1 v2 (L.length + 1) (L.map Value.string ++ [.string y])) (hq : 0 < m → o = off + 1) : MgI w xs ys w2 A (some ⟨b, o, none⟩) (n + 1) c m (d - 1) (x :: ps) qs (L ++ [y]) v2 q where
  a := h.a
  b := sr_tail h.b o hq
  ac := h.ac
  bc := by have := h.bc; omega
  a0 := h.a0
  b0 := fun e => by cases e
  o := by
    rw [List.length_append, List.map_append]
    exact ho
  bel := hb
  r := by
    have := h.r
    rw [show n + 1 + (m + 1) = (n + 1 + m) + 1 by omega, mrg, if_neg (by rw [h1]; decide), if_pos h2] at this
    rw [← this]
    simp
  f := by
    have := h.f
    rw [show n + 1 + (m + 1) = (n + 1 + m) + 1 by omega, mrg, if_neg (by rw [h1]; decide), if_pos h2] at this
    exact this
  le := by have := h.le; simp; omega
theorem MgI.both (h : MgI w xs ys w' (some ⟨b, off, none⟩) B (n + 1) c (m + 1) d (x :: ps) (y :: qs) L v q) (h1 : Op.bytesLess x.toList y.toList = false) (h2 : Op.bytesLess y.toList x.toList = false) (hb : Below w.heap.size w w2) (ho : w2.ownsRow w.heap.size 9 1 v L.length (L.map Value.string)) (hq : 0 < n → o = off + 1) : MgI w xs ys w2 (some ⟨b, o, none⟩) B n (c - 1) (m + 1) d ps (y :: qs) L v true where
  a := sr_tail h.a o hq
  b := h.b
  ac := by have := h.ac; omega
  bc := h.bc
  a0 := fun e => by cases e
  b0 := h.b0
  o := ho
  bel := hb
  r := by
    have := h.r
    rw [show n + 1 + (m + 1) = (n + (m + 1)) + 1 by omega, mrg, if_neg (by rw [h1]; decide), if_neg (by rw [h2]; decide)] at this
    exact this
  f := by
    have := h.f
    rw [show n + 1 + (m + 1) = (n + (m + 1)) + 1 by omega, mrg, if_neg (by rw [h1]; decide), if_neg (by rw [h2]; decide)] at this
    rw [← this]
    simp
  le := by have := h.le; omega
theorem MgI.end (h : MgI w xs ys w' A B n c m d ps qs L v q) (he : n = 0 ∨ m = 0) : L ++ (ps ++ qs) = (mrg (xs.length + ys.length) xs ys).1 ∧ q = (mrg (xs.length + ys.length) xs ys).2 := by
  have h1 := h.r
  have h2 := h.f
  have hl := h.a.strlen
  have hm := h.b.strlen
  rcases he with rfl | rfl
  · obtain rfl : ps = [] := List.length_eq_zero_iff.1 hl
    rw [mrg_nil'] at h1 h2
    exact ⟨by simpa using h1, by simpa using h2⟩
  · obtain rfl : qs = [] := List.length_eq_zero_iff.1 hm
    rw [mrg_nil] at h1 h2
    exact ⟨by simpa using h1, by simpa using h2⟩
end
theorem own_on {w w' : World} {base sz n : Nat} {e : TypeId} {v : Value} {xs : List Value} (h : w.ownsRow base e sz v n xs) (hb : Below w.heap.size w w') : w'.ownsRow base e sz v n xs := by
  obtain ⟨h1, h2⟩ := h
  refine ⟨h1, h2.imp id ?_⟩
  rintro ⟨g, cap, cur, e1, hbb, hh, r⟩
  exact ⟨g, cap, cur, e1, hbb, by rw [hb.block g (List.getElem?_eq_some_iff.1 (by simpa using hh)).1]; exact hh, r⟩
theorem own_low {w : World} {B B' sz n : Nat} {e : TypeId} {v : Value} {xs : List Value} (h : w.ownsRow B' e sz v n xs) (hB : B ≤ B') : w.ownsRow B e sz v n xs := by
  obtain ⟨h1, h2⟩ := h
  refine ⟨h1, h2.imp id ?_⟩
  rintro ⟨g, cap, cur, e1, hbb, r⟩
  exact ⟨g, cap, cur, e1, by omega, r⟩
theorem nil_cap {w : World} {lo hi n c sz : Nat} {t : TypeId} {A : Option Addr} {M : Nat → Value} (h : RowR w lo hi t sz A n c M) : A = none → c = 0 := fun e => by
  rcases h with ⟨-, h, -⟩ | ⟨g, f, e2, -⟩
  · exact h
  · rw [e] at e2; cases e2
theorem sr_vals (w : World) (vs : List Value) (t : TypeId) : SR (w.alloc (.cells vs.toArray t)) (w.alloc (.cells vs.toArray t)).heap.size (some ⟨w.heap.size, 0, none⟩) vs.length vs := by
  refine ⟨rfl, fun _ => ⟨_, _, rfl, by simp, fun j u hj => ?_⟩⟩
  have h := cell_of_row (w.alloc (.cells vs.toArray t)) w.heap.size j vs.toArray t (0, 0) (heap_alloc_new w _)
  rw [Nat.zero_add, h, ← hj]
  simp
set_option maxRecDepth 20000 in
set_option maxHeartbeats 6400000 in
theorem mrg_any (A B : Option Addr) (n c m d : Nat) (xs ys : List ByteArray) (w : World) (hA : SR w w.heap.size A n (xs.map Value.string)) (hB : SR w w.heap.size B m (ys.map Value.string)) (hn : n ≤ 262144) (hm : m ≤ 262144) (hac : n ≤ c) (hbd : m ≤ d) (hA0 : A = none → c = 0) (hB0 : B = none → d = 0) :
    Calls Tryz.prog 113 #[.slice A n c, .slice B m d] w fun e w' => ∃ v, e = .returned (.tuple #[v, .bool (mrg (xs.length + ys.length) xs ys).2]) ∧ w'.ownsRow w.heap.size 9 1 v (mrg (xs.length + ys.length) xs ys).1.length ((mrg (xs.length + ys.length) xs ys).1.map Value.string) ∧ Below w.heap.size w w' := by
  obtain ⟨i0, hi, hz0, hz1, hz2⟩ := info_parts str_info
  have HI := Lib.hid (And.intro hi (And.intro hz0 (And.intro hz1 hz2)))
  have hln := hA.strlen
  have hlm := hB.strlen
  have hI0 := Lib.hid (show MgI w xs ys (w.alloc (.cells #[] 9)) A B n c m d xs ys [] (.slice (some ⟨w.heap.size, 0, none⟩) 0 0) false from
    { a := hA, b := hB, ac := hac, bc := hbd, a0 := hA0, b0 := hB0
      o := ownsRow_nil_new w 9 1 w.heap.size (Nat.le_refl _), bel := (Below.refl _ _).alloc (Nat.le_refl _) _
      r := by rw [hln, hlm]; rfl, f := by rw [hln, hlm]; rfl, le := by simp; omega })
  have HZ : Hid (xs.length + ys.length ≤ 524288) := Lib.hid (by omega)
  obtain ⟨R, hR⟩ : ∃ R, mrg (xs.length + ys.length) xs ys = R := ⟨_, rfl⟩
  have HR := Lib.hid hR
  rw [hR]
  clear hi hz0 hz1 hz2 hA hB hln hlm hR
  go_enter Tryz.func113, Tryz.ntmps113
  go_wp2_with fail
  refine wp_scope_rest 0 (fun a' w' => ∃ (A' B' : Option Addr) (n' c' m' d' : Nat) (xs' ys' L : List ByteArray) (v : Value) (q : Bool) (u2 u3 u8 u9 u10 u11 u12 u13 u14 u15 u16 u17 u18 u19 u20 u21 u22 u23 u24 u25 u26 u27 u28 u29 u30 u31 u32 u33 u34 u35 u36 u37 u38 u39 u40 u41 u42 u43 u44 u45 u46 u47 u48 u49 u50 u51 u52 u53 u54 u55 u56 : Value), a' = { tmps := #[.slice A' n' c', .slice B' m' d', u2, u3, .slice none 0 0, .bool false, v, .bool q, u8, u9, u10, u11, u12, u13, u14, u15, u16, u17, u18, u19, u20, u21, u22, u23, u24, u25, u26, u27, u28, u29, u30, u31, u32, u33, u34, u35, u36, u37, u38, u39, u40, u41, u42, u43, u44, u45, u46, u47, u48, u49, u50, u51, u52, u53, u54, u55, u56], defers := [] } ∧ MgI w xs ys w' A' B' n' c' m' d' xs' ys' L v q) (fun a' _ => lenV (a'.tmps.getD 0 undef) + lenV (a'.tmps.getD 1 undef)) rfl (fun hRest => ?_) ?_
  · go_wp2_with fail
    go_step3
    rename_i Q1 Q2 K hK
    refine hK _ _ (hRest _ _ ⟨_, _, _, _, _, _, _, _, _, _, _, _, _, _, _, _, _, _, _, _, _, _, _, _, _, _, _, _, _, _, _, _, _, _, _, _, _, _, _, _, _, _, _, _, _, _, _, _, _, _, _, _, _, _, _, _, _, _, _, _, _, _, rfl, hI0.out⟩)
  · rintro a' w' ⟨A', B', n', c', m', d', xs', ys', L, v, q, u2, u3, u8, u9, u10, u11, u12, u13, u14, u15, u16, u17, u18, u19, u20, u21, u22, u23, u24, u25, u26, u27, u28, u29, u30, u31, u32, u33, u34, u35, u36, u37, u38, u39, u40, u41, u42, u43, u44, u45, u46, u47, u48, u49, u50, u51, u52, u53, u54, u55, u56, rfl, hI⟩
    have HZ2 := Lib.hid hI.le
    have hbel := hI.bel
    by_cases he : n' = 0 ∨ m' = 0
    · obtain ⟨hEn, hEq⟩ := hI.end he
      rw [HR.out] at hEn hEq
      obtain ⟨Av, cv, rfl, hRow⟩ := rowR_owns hI.o
      have hSv : SR w' w'.heap.size Av L.length (L.map Value.string) := strsR_at (hRow.congr (M' := at_ L) (fun x hx => by
        have hx2 : x < L.length := by omega
        have : L[x]? = some L[x] := List.getElem?_eq_getElem hx2
        rw [List.getElem?_map, this, at_of this]; rfl))
      have hv0 : Av = none → cv = 0 := fun e => nil_cap hRow e
      have hB1 := (Below.refl w'.heap.size w').alloc (Nat.le_refl _) (.cells #[.slice Av L.length cv, .slice A' n' c', .slice B' m' d'] 25)
      have hBw := hbel.alloc hbel.size (.cells #[.slice Av L.length cv, .slice A' n' c', .slice B' m' d'] 25)
      have hV := sr_vals w' [.slice Av L.length cv, .slice A' n' c', .slice B' m' d'] 25
      obtain ⟨W1, hW1⟩ : ∃ W1, w'.alloc (.cells #[.slice Av L.length cv, .slice A' n' c', .slice B' m' d'] 25) = W1 := ⟨_, rfl⟩
      have HW1 := Lib.hid hW1
      rw [show ([Value.slice Av L.length cv, .slice A' n' c', .slice B' m' d'] : List Value).toArray = #[.slice Av L.length cv, .slice A' n' c', .slice B' m' d'] from rfl, hW1] at hV
      rw [hW1] at hB1 hBw
      have hP : PartsAt W1 W1.heap.size [.slice Av L.length cv, .slice A' n' c', .slice B' m' d'] [L.map Value.string, xs'.map Value.string, ys'.map Value.string] := by
        intro k u hk
        match k, hk with
        | 0, hk => injection hk with hk; subst hk; exact ⟨_, _, _, _, rfl, rfl, (hSv.below hB1).wide hB1.size, hv0, strs_one _⟩
        | 1, hk => injection hk with hk; subst hk; exact ⟨_, _, _, _, rfl, rfl, (hI.a.below hBw).wide hBw.size, hI.a0, strs_one _⟩
        | 2, hk => injection hk with hk; subst hk; exact ⟨_, _, _, _, rfl, rfl, (hI.b.below hBw).wide hBw.size, hI.b0, strs_one _⟩
        | k + 3, hk => simp at hk
      have hFl : [L.map Value.string, xs'.map Value.string, ys'.map Value.string].flatten = R.1.map Value.string := by rw [← hEn]; simp
      have hRl : R.1.length ≤ 524288 := by
        rw [← hEn, List.length_append, List.length_append, hI.a.strlen, hI.b.strlen]
        have := HZ.out; have := HZ2.out; omega
      have CC := concatS_any (some ⟨w'.heap.size, 0, none⟩) 3 3 _ _ W1 hV hP rfl (by rw [hFl, List.length_map]; omega) (by omega)
      rw [hFl, List.length_map] at CC
      have HCC := Lib.hid CC
      have HBw := Lib.hid hBw
      have HEq := Lib.hid hEq
      clear hP hV hFl hRl hSv hRow hv0 hB1 hBw hW1 hEn hEq CC hbel
      by_cases e0 : n' = 0
      · subst e0
        go_wp2_with fail
        rw [HW1.out]
        refine HCC.out.mono ?_
        rintro e w5 ⟨v5, rfl, hown, hb⟩
        have HO := Lib.hid (own_low (B := w.heap.size) hown HBw.out.size)
        have HB := Lib.hid (HBw.out.trans (hb.mono HBw.out.size))
        clear hown hb
        go_wp2_with fail
        simp only [Exit.jump]
        refine bodyPost_ret (v := .tuple #[v5, .bool R.2]) (by simp [results, Tryz.results113, go_sem, HEq.out]) rfl ⟨v5, rfl, HO.out, HB.out⟩
      · obtain rfl : m' = 0 := by omega
        go_wp2_with fail
        rw [HW1.out]
        refine HCC.out.mono ?_
        rintro e w5 ⟨v5, rfl, hown, hb⟩
        have HO := Lib.hid (own_low (B := w.heap.size) hown HBw.out.size)
        have HB := Lib.hid (HBw.out.trans (hb.mono HBw.out.size))
        clear hown hb
        go_wp2_with fail
        simp only [Exit.jump]
        refine bodyPost_ret (v := .tuple #[v5, .bool R.2]) (by simp [results, Tryz.results113, go_sem, HEq.out]) rfl ⟨v5, rfl, HO.out, HB.out⟩
    · obtain ⟨n1, rfl⟩ : ∃ k, n' = k + 1 := ⟨n' - 1, by omega⟩
      obtain ⟨m1, rfl⟩ : ∃ k, m' = k + 1 := ⟨m' - 1, by omega⟩
      obtain ⟨x, ps, rfl⟩ : ∃ x ps, xs' = x :: ps := by
        cases xs' with
        | nil => have := hI.a.strlen; simp at this
        | cons x ps => exact ⟨x, ps, rfl⟩
      obtain ⟨y, qs, rfl⟩ : ∃ x ps, ys' = x :: ps := by
        cases ys' with
        | nil => have := hI.b.strlen; simp at this
        | cons x ps => exact ⟨x, ps, rfl⟩
      obtain ⟨b, off, x', rfl, hb, hx, hcx⟩ := hI.a.str (k := 0) (by omega)
      obtain rfl : x = x' := by simpa using hx
      obtain ⟨b2, off2, y', rfl, hb2, hy, hcy⟩ := hI.b.str (k := 0) (by omega)
      obtain rfl : y = y' := by simpa using hy
      rw [Nat.add_zero] at hcx hcy
      have HX := Lib.hid (fun (Y : World) (hY : Below w.heap.size w Y) => (hY.cell (p := ⟨b, off, none⟩) hb).trans hcx)
      have HY := Lib.hid (fun (Y : World) (hY : Below w.heap.size w Y) => (hY.cell (p := ⟨b2, off2, none⟩) hb2).trans hcy)
      have d0 := HX.out w' hbel
      have d1 := HY.out w' hbel
      have HII := Lib.hid hI
      obtain ⟨o, ho1, ho2⟩ : ∃ o : Nat, (c' = 1 → o = off) ∧ (¬ c' = 1 → o = off + 1) := by
        by_cases e : c' = 1
        · exact ⟨off, fun _ => rfl, fun h => absurd e h⟩
        · exact ⟨off + 1, fun h => absurd h e, fun _ => rfl⟩
      obtain ⟨o2, hp1, hp2⟩ : ∃ o : Nat, (d' = 1 → o = off2) ∧ (¬ d' = 1 → o = off2 + 1) := by
        by_cases e : d' = 1
        · exact ⟨off2, fun _ => rfl, fun h => absurd e h⟩
        · exact ⟨off2 + 1, fun h => absurd h e, fun _ => rfl⟩
      have HO1 : Hid (0 < n1 → o = off + 1) := Lib.hid (by have := hI.ac; omega)
      have HO2 : Hid (0 < m1 → o2 = off2 + 1) := Lib.hid (by have := hI.bc; omega)
      have hown := hI.o
      have hc0 : ((n1 : Int) + 1 == 0) = false := by simp; omega
      have hc1 : ((m1 : Int) + 1 == 0) = false := by simp; omega
      clear hx hy hcx hcy hI he
      cases h1 : Op.bytesLess x.toList y.toList with
      | true =>
        have HH := Lib.hid h1
        go_wp2_with fail
        go_quiet (fail)
        clear h1
        go_wp2_with fail
        refine wp_name (fun W hW => ?_)
        have hBW : Below w.heap.size w W := by rw [hW]; first | exact below_drewN hbel _ | exact below_drewN (below_drewN hbel _) _
        have hkW : Below w'.heap.size w' W := by rw [hW]; first | exact below_drewN (Below.refl _ _) _ | exact below_drewN (below_drewN (Below.refl _ _) _) _
        have hownW := own_on hown hkW
        have own1 := (own_on hownW ((Below.refl W.heap.size W).drew)).alloc (.cells #[.string x] 9)
        have hb1 := hBW.drew.alloc hBW.drew.size (.cells #[.string x] 9)
        have hc1 := cell_one_new W.drew (.string x) 9
        have hk0 := HX.out _ hBW.drew
        obtain ⟨W1, hW1⟩ : ∃ W1, W.drew.alloc (.cells #[.string x] 9) = W1 := ⟨_, rfl⟩
        have hW1' : (W.alloc (.cells #[.string x] 9)).drew = W1 := hW1
        have hLl : L.length ≤ 524288 := by have := HZ.out; have := HZ2.out; omega
        rw [hW1] at own1 hb1 hc1
        rw [show W.drew.heap.size = W.heap.size from rfl] at hc1
        clear hW d0 d1 hown hbel hkW hownW
        refine rh.go_begin 9 (fun w1 => w1.cell? ⟨b, off, none⟩ = some (.string x)) (by kernel_rfl) ?_ (fun hHeld => ?_)
        · ((try dsimp only); exact hk0)
        refine rh.go_take (i := 0) (v := ?v1) rfl (by kernel_rfl) (fun _ _ _ h => h) (Or.inl ⟨by rfl, ?hy1⟩) (by assumption) ?rest1
        case hy1 => (intro wS hSw; (try dsimp only at hSw); go_simp; try (with_reducible rfl))
        try simp only [Act.put, List.setIfInBounds_toArray, List.set_cons_zero, List.set_cons_succ]
        refine rh.go_take (i := 1) (v := ?v2) rfl (by kernel_rfl) (fun _ _ _ h => h) (Or.inl ⟨by rfl, ?hy2⟩) (by assumption) ?rest2
        case hy2 => (intro wS hSw; (try dsimp only at hSw); go_simp; try (with_reducible rfl))
        try simp only [Act.put, List.setIfInBounds_toArray, List.set_cons_zero, List.set_cons_succ]
        refine rh.go_take (i := 2) (v := ?v3) rfl (by kernel_rfl) (fun _ _ _ h => h) (Or.inl ⟨by rfl, ?hy3⟩) (by assumption) ?rest3
        case hy3 => (intro wS hSw; (try dsimp only at hSw); go_simp; try (with_reducible rfl))
        try simp only [Act.put, List.setIfInBounds_toArray, List.set_cons_zero, List.set_cons_succ]
        refine rh.go_take (i := 3) (v := ?v4) rfl (by kernel_rfl) (fun _ _ _ h => h) (Or.inl ⟨by rfl, ?hy4⟩) (by assumption) ?rest4
        case hy4 => (intro wS hSw; (try dsimp only at hSw); go_simp; try (with_reducible rfl))
        try simp only [Act.put, List.setIfInBounds_toArray, List.set_cons_zero, List.set_cons_succ]
        refine rh.go_take (i := 6) (v := ?v5) rfl (by kernel_rfl) (fun _ _ _ h => h) (Or.inl ⟨by rfl, ?hy5⟩) (by assumption) ?rest5
        case hy5 => (intro wS hSw; (try dsimp only at hSw); go_simp; try (with_reducible rfl))
        try simp only [Act.put, List.setIfInBounds_toArray, List.set_cons_zero, List.set_cons_succ]
        refine rh.go_take (i := 7) (v := .slice (some ⟨b, o, none⟩) n1 (c' - 1)) rfl (by kernel_rfl) (fun _ _ _ h => h) (Or.inl ⟨by rfl, ?hyA1⟩) (by assumption) ?restA1
        case hyA1 => (intro wS hSw; (try dsimp only at hSw); go_simp; by_cases e : c' = 1 <;> simp_all <;> (intro hx; exact absurd hx (by omega)))
        try simp only [Act.put, List.setIfInBounds_toArray, List.set_cons_zero, List.set_cons_succ]
        refine rh.go_next (i := 4) rfl (by kernel_rfl) (fun K2 hK => ?_)
        (go_simp; try first | rw [hW1] | rw [hW1'])
        refine hK.out _ _ ?_ (fun hHeld => ?_)
        · ((try dsimp only); exact HX.out _ hb1)
        clear hK K2
        try simp only [Act.put, List.setIfInBounds_toArray, List.set_cons_zero, List.set_cons_succ]
        clear hHeld hW1 hW1'
        refine rh.go_next (i := 5) rfl (by kernel_rfl) (fun K2 hK => ?_)
        refine sa.step_append_own rfl _ _ 25 rfl w.heap.size 9 i0 (.string ⟨#[]⟩) 1 16 Tryz.underlying25 HI.out.1 HI.out.2.1 HI.out.2.2.1 HI.out.2.2.2 rfl (by decide) _ _ _ (by first | rfl | simp [Act.eval, Act.put]) own1 ⟨W.heap.size, 0, none⟩ 1 1 [.string x] (by first | rfl | simp [Act.eval, Act.put]) rfl hc1 (so.one_one x) (by unfold maxLen; omega) (by omega) hb1.size ?_
        intro v1 W2 own2 grow2 nil2
        have hb2 := hb1.grown grow2 hb1.size (fun r e => (own1.lt r e).1)
        refine hK.out _ _ ?_ (fun hHeld => ?_)
        · ((try dsimp only); exact HX.out _ hb2)
        clear hK K2 grow2 nil2 hc1 own1 hb1
        try simp only [Act.put, List.setIfInBounds_toArray, List.set_cons_zero, List.set_cons_succ]
        refine rh.go_take (i := 8) (v := ?v6) rfl (by kernel_rfl) (fun _ _ _ h => h) (Or.inl ⟨by rfl, ?hy6⟩) (by assumption) ?rest6
        case hy6 => (intro wS hSw; (try dsimp only at hSw); go_simp; try (with_reducible rfl))
        try simp only [Act.put, List.setIfInBounds_toArray, List.set_cons_zero, List.set_cons_succ]
        refine rh.go_last rfl (by kernel_rfl) (fun K2 hK => ?_)
        go_simp
        refine hK.out _ _ ?_
        refine NoPanic.normal ?_
        clear hK K2
        go_wp2_with fail
        go_step3
        refine ⟨rfl, ⟨_, _, _, _, _, _, _, _, _, _, _, _, _, _, _, _, _, _, _, _, _, _, _, _, _, _, _, _, _, _, _, _, _, _, _, _, _, _, _, _, _, _, _, _, _, _, _, _, _, _, _, _, _, _, _, _, _, _, _, _, _, _, rfl, HII.out.fst HH.out hb2 own2 HO1.out⟩, ?_⟩
        first | (simp [lenV]; done) | (simp [lenV]; omega) | (show n1 + 1 + m1 < n1 + 1 + (m1 + 1); omega)
      | false =>
        cases h2 : (x.toList == y.toList) with
        | false =>
          have HH := Lib.hid (And.intro h1 (show Op.bytesLess y.toList x.toList = true from (bl_lt _ _).2 (ltS_tri x y (fun h => by rw [(bl_lt _ _).2 h] at h1; cases h1) (str_ne h2))))
          go_wp2_with fail
          go_quiet (fail)
          go_wp2_with fail
          go_quiet (fail)
          clear h1 h2
          go_wp2_with fail
          refine wp_name (fun W hW => ?_)
          have hBW : Below w.heap.size w W := by rw [hW]; first | exact below_drewN hbel _ | exact below_drewN (below_drewN hbel _) _
          have hkW : Below w'.heap.size w' W := by rw [hW]; first | exact below_drewN (Below.refl _ _) _ | exact below_drewN (below_drewN (Below.refl _ _) _) _
          have hownW := own_on hown hkW
          have own1 := (own_on hownW ((Below.refl W.heap.size W).drew)).alloc (.cells #[.string y] 9)
          have hb1 := hBW.drew.alloc hBW.drew.size (.cells #[.string y] 9)
          have hc1 := cell_one_new W.drew (.string y) 9
          have hk0 := HY.out _ hBW.drew
          obtain ⟨W1, hW1⟩ : ∃ W1, W.drew.alloc (.cells #[.string y] 9) = W1 := ⟨_, rfl⟩
          have hW1' : (W.alloc (.cells #[.string y] 9)).drew = W1 := hW1
          have hLl : L.length ≤ 524288 := by have := HZ.out; have := HZ2.out; omega
          rw [hW1] at own1 hb1 hc1
          rw [show W.drew.heap.size = W.heap.size from rfl] at hc1
          clear hW d0 d1 hown hbel hkW hownW
          refine rh.go_begin 9 (fun w1 => w1.cell? ⟨b2, off2, none⟩ = some (.string y)) (by kernel_rfl) ?_ (fun hHeld => ?_)
          · ((try dsimp only); exact hk0)
          refine rh.go_take (i := 0) (v := ?v7) rfl (by kernel_rfl) (fun _ _ _ h => h) (Or.inl ⟨by rfl, ?hy7⟩) (by assumption) ?rest7
          case hy7 => (intro wS hSw; (try dsimp only at hSw); go_simp; try (with_reducible rfl))
          try simp only [Act.put, List.setIfInBounds_toArray, List.set_cons_zero, List.set_cons_succ]
          refine rh.go_take (i := 1) (v := ?v8) rfl (by kernel_rfl) (fun _ _ _ h => h) (Or.inl ⟨by rfl, ?hy8⟩) (by assumption) ?rest8
          case hy8 => (intro wS hSw; (try dsimp only at hSw); go_simp; try (with_reducible rfl))
          try simp only [Act.put, List.setIfInBounds_toArray, List.set_cons_zero, List.set_cons_succ]
          refine rh.go_take (i := 2) (v := ?v9) rfl (by kernel_rfl) (fun _ _ _ h => h) (Or.inl ⟨by rfl, ?hy9⟩) (by assumption) ?rest9
          case hy9 => (intro wS hSw; (try dsimp only at hSw); go_simp; try (with_reducible rfl))
          try simp only [Act.put, List.setIfInBounds_toArray, List.set_cons_zero, List.set_cons_succ]
          refine rh.go_take (i := 3) (v := ?v10) rfl (by kernel_rfl) (fun _ _ _ h => h) (Or.inl ⟨by rfl, ?hy10⟩) (by assumption) ?rest10
          case hy10 => (intro wS hSw; (try dsimp only at hSw); go_simp; try (with_reducible rfl))
          try simp only [Act.put, List.setIfInBounds_toArray, List.set_cons_zero, List.set_cons_succ]
          refine rh.go_take (i := 6) (v := ?v11) rfl (by kernel_rfl) (fun _ _ _ h => h) (Or.inl ⟨by rfl, ?hy11⟩) (by assumption) ?rest11
          case hy11 => (intro wS hSw; (try dsimp only at hSw); go_simp; try (with_reducible rfl))
          try simp only [Act.put, List.setIfInBounds_toArray, List.set_cons_zero, List.set_cons_succ]
          refine rh.go_take (i := 7) (v := .slice (some ⟨b2, o2, none⟩) m1 (d' - 1)) rfl (by kernel_rfl) (fun _ _ _ h => h) (Or.inl ⟨by rfl, ?hyA2⟩) (by assumption) ?restA2
          case hyA2 => (intro wS hSw; (try dsimp only at hSw); go_simp; by_cases e : d' = 1 <;> simp_all <;> (intro hx; exact absurd hx (by omega)))
          try simp only [Act.put, List.setIfInBounds_toArray, List.set_cons_zero, List.set_cons_succ]
          refine rh.go_next (i := 4) rfl (by kernel_rfl) (fun K2 hK => ?_)
          (go_simp; try first | rw [hW1] | rw [hW1'])
          refine hK.out _ _ ?_ (fun hHeld => ?_)
          · ((try dsimp only); exact HY.out _ hb1)
          clear hK K2
          try simp only [Act.put, List.setIfInBounds_toArray, List.set_cons_zero, List.set_cons_succ]
          clear hHeld hW1 hW1'
          refine rh.go_next (i := 5) rfl (by kernel_rfl) (fun K2 hK => ?_)
          refine sa.step_append_own rfl _ _ 25 rfl w.heap.size 9 i0 (.string ⟨#[]⟩) 1 16 Tryz.underlying25 HI.out.1 HI.out.2.1 HI.out.2.2.1 HI.out.2.2.2 rfl (by decide) _ _ _ (by first | rfl | simp [Act.eval, Act.put]) own1 ⟨W.heap.size, 0, none⟩ 1 1 [.string y] (by first | rfl | simp [Act.eval, Act.put]) rfl hc1 (so.one_one y) (by unfold maxLen; omega) (by omega) hb1.size ?_
          intro v1 W2 own2 grow2 nil2
          have hb2 := hb1.grown grow2 hb1.size (fun r e => (own1.lt r e).1)
          refine hK.out _ _ ?_ (fun hHeld => ?_)
          · ((try dsimp only); exact HY.out _ hb2)
          clear hK K2 grow2 nil2 hc1 own1 hb1
          try simp only [Act.put, List.setIfInBounds_toArray, List.set_cons_zero, List.set_cons_succ]
          refine rh.go_take (i := 8) (v := ?v12) rfl (by kernel_rfl) (fun _ _ _ h => h) (Or.inl ⟨by rfl, ?hy12⟩) (by assumption) ?rest12
          case hy12 => (intro wS hSw; (try dsimp only at hSw); go_simp; try (with_reducible rfl))
          try simp only [Act.put, List.setIfInBounds_toArray, List.set_cons_zero, List.set_cons_succ]
          refine rh.go_last rfl (by kernel_rfl) (fun K2 hK => ?_)
          go_simp
          refine hK.out _ _ ?_
          refine NoPanic.normal ?_
          clear hK K2
          go_wp2_with fail
          go_step3
          refine ⟨rfl, ⟨_, _, _, _, _, _, _, _, _, _, _, _, _, _, _, _, _, _, _, _, _, _, _, _, _, _, _, _, _, _, _, _, _, _, _, _, _, _, _, _, _, _, _, _, _, _, _, _, _, _, _, _, _, _, _, _, _, _, _, _, _, _, rfl, HII.out.snd HH.out.1 HH.out.2 hb2 own2 HO2.out⟩, ?_⟩
          first | (simp [lenV]; done) | (simp [lenV]; omega) | (show n1 + 1 + m1 < n1 + 1 + (m1 + 1); omega)
        | true =>
          have HH := Lib.hid (And.intro h1 (show Op.bytesLess y.toList x.toList = false by rw [show x = y from str_eq h2] at h1 ⊢; exact h1))
          have HOw := Lib.hid hown
          have HBl := Lib.hid hbel
          clear hown hbel
          by_cases e1 : c' = 1
          · have ho := ho1 e1
            subst e1
            go_wp2_with fail
            go_quiet (fail)
            go_wp2_with fail
            go_quiet (fail)
            go_wp2_with fail
            go_quiet (fail)
            go_wp2_with fail
            go_step3
            refine ⟨rfl, ⟨_, _, _, _, _, _, _, _, _, _, _, _, _, _, _, _, _, _, _, _, _, _, _, _, _, _, _, _, _, _, _, _, _, _, _, _, _, _, _, _, _, _, _, _, _, _, _, _, _, _, _, _, _, _, _, _, _, _, _, _, _, _, rfl, HII.out.both HH.out.1 HH.out.2 (below_drewN (below_drewN (below_drewN HBl.out _) _) _) (own_on HOw.out (below_drewN (below_drewN (below_drewN (Below.refl _ _) _) _) _)) (fun h => by have := HO1.out h; omega)⟩, ?_⟩
            first | (simp [lenV]; done) | (simp [lenV]; omega)
          · have ho := ho2 e1
            go_wp2_with fail
            go_quiet (fail)
            go_wp2_with fail
            go_quiet (fail)
            go_wp2_with fail
            go_quiet (fail)
            go_wp2_with fail
            go_step3
            refine ⟨rfl, ⟨_, _, _, _, _, _, _, _, _, _, _, _, _, _, _, _, _, _, _, _, _, _, _, _, _, _, _, _, _, _, _, _, _, _, _, _, _, _, _, _, _, _, _, _, _, _, _, _, _, _, _, _, _, _, _, _, _, _, _, _, _, _, rfl, HII.out.both HH.out.1 HH.out.2 (below_drewN (below_drewN (below_drewN HBl.out _) _) _) (own_on HOw.out (below_drewN (below_drewN (below_drewN (Below.refl _ _) _) _) _)) (fun _ => rfl)⟩, ?_⟩
            first | (simp [lenV]; done) | (simp [lenV]; omega)
end Go.Proofs.YtfjgapkjpmkplaaGreat.mg
