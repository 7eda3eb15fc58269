/- Bm Bw Lw Cl Facts Has Abv Tp Pl Mb Sb Wb Pm in one. -/
import Derived.Test.YtlpgldejmdiceabGreatQc
import Derived.Deep.Cut
import Derived.Deep.CutRange
import Derived.Laws.AppendOwnNone
import Derived.Maps.AppendAt
import Derived.Lib.SliceRun
import Derived.Test.YtlpgldejmdiceabGreatQa
import Derived.JoinedOf
import Derived.Deep.AppendLies
import Derived.Deep.RegionLaw
set_option linter.unusedSimpArgs false
section
namespace Go.Proofs.YtlpgldejmdiceabGreat.bm
open kit bg opn strs only hb sig inn ht marks eqs hc hi hw hn rs br
open Go.RowKit
set_option linter.unusedVariables false

section
variable {w : World} {lo hi : Nat}
theorem markIR_any (A : Option Addr) (n c : Nat) (M : Nat → Value) (k : Int) (w : World) (lo hi : Nat) (h : RowR w lo hi 3 1 A n c M) (h0 : 0 < k) (h1 : k ≤ 8000000) (hn : n ≤ 1048576) :
    Calls Tryz.prog 35 #[.slice A n c, .int .i64 k] w fun e w' => e = .returned (.int .i64 (k + n)) ∧ RowR w' lo hi 3 1 A n c (mki k) ∧ Chg (blk A) w w' := by
  rcases h with ⟨rfl, rfl, rfl⟩ | ⟨g, f, rfl, a1, a2, hc, hr, -⟩
  · refine (markI_nil k w h0 h1).mono ?_
    rintro e w1 ⟨rfl, rfl⟩
    exact ⟨by simp, RowR.nil, Chg.refl _ _⟩
  · rw [Nat.mul_one] at hr
    refine (markI_any g n c f k w hr hc h0 h1 (by omega)).mono ?_
    rintro e w1 ⟨rfl, hr1, hg⟩
    exact ⟨rfl, RowR.mk a1 a2 hc (by rw [Nat.mul_one]; exact hr1) (fun x hx => if_pos (by omega)), Chg.of_grown hg hr hr1 rfl⟩
theorem heldIR_any (A : Option Addr) (n c : Nat) (k : Int) (w : World) (lo hi : Nat) (h : RowR w lo hi 3 1 A n c (mki k)) (h0 : 0 < k) (h1 : k ≤ 8000000) (hn : n ≤ 1048576) :
    Calls Tryz.prog 39 #[.slice A n c, .int .i64 k] w fun e w' => e = .returned (.int .i64 (k + n)) ∧ Below w.heap.size w w' := by
  rcases h with ⟨rfl, rfl, rfl⟩ | ⟨g, f, rfl, a1, a2, hc, hr, hf⟩
  · refine (heldI_nil k w h0 h1).mono ?_
    rintro e w1 ⟨rfl, rfl⟩
    exact ⟨by simp, Below.refl _ _⟩
  · rw [Nat.mul_one] at hr
    exact heldI_any g n c k w f hr (fun x hx => hf x (by omega)) hc h0 h1 (by omega)
theorem markSR_any (A : Option Addr) (n c : Nat) (M : Nat → Value) (k : Int) (w : World) (lo hi : Nat) (h : RowR w lo hi 9 1 A n c M) (h0 : 0 < k) (h1 : k ≤ 8000000) (hn : n ≤ 1048576) :
    Calls Tryz.prog 36 #[.slice A n c, .int .i64 k] w fun e w' => e = .returned (.int .i64 (k + n)) ∧ RowR w' lo hi 9 1 A n c (mks k) ∧ Chg (blk A) w w' := by
  rcases h with ⟨rfl, rfl, rfl⟩ | ⟨g, f, rfl, a1, a2, hc, hr, -⟩
  · refine (markS_nil k w h0 h1).mono ?_
    rintro e w1 ⟨rfl, rfl⟩
    exact ⟨by simp, RowR.nil, Chg.refl _ _⟩
  · rw [Nat.mul_one] at hr
    refine (markS_any g n c f k w hr hc h0 h1 (by omega)).mono ?_
    rintro e w1 ⟨rfl, hr1, hg⟩
    exact ⟨rfl, RowR.mk a1 a2 hc (by rw [Nat.mul_one]; exact hr1) (fun x hx => if_pos (by omega)), Chg.of_grown hg hr hr1 rfl⟩
theorem heldSR_any (A : Option Addr) (n c : Nat) (k : Int) (w : World) (lo hi : Nat) (h : RowR w lo hi 9 1 A n c (mks k)) (h0 : 0 < k) (h1 : k ≤ 8000000) (hn : n ≤ 1048576) :
    Calls Tryz.prog 40 #[.slice A n c, .int .i64 k] w fun e w' => e = .returned (.int .i64 (k + n)) ∧ Below w.heap.size w w' := by
  rcases h with ⟨rfl, rfl, rfl⟩ | ⟨g, f, rfl, a1, a2, hc, hr, hf⟩
  · refine (heldS_nil k w h0 h1).mono ?_
    rintro e w1 ⟨rfl, rfl⟩
    exact ⟨by simp, Below.refl _ _⟩
  · rw [Nat.mul_one] at hr
    exact heldS_any g n c k w f hr (fun x hx => hf x (by omega)) hc h0 h1 (by omega)
end

/-! ### Wires -/
theorem markW_nil (k : Int) (w : World) (h0 : 0 < k) (h1 : k ≤ 8000000) : Calls Tryz.prog 37 #[.slice none 0 0, .int .i64 k] w fun e w' => e = .returned (.int .i64 k) ∧ w = w' := by
  go_enter Tryz.func37, Tryz.ntmps37
  go_wp2_with fail
  go_loopw [1, 5] (fun q i wr => i = .int .i64 0 ∧ q = .int .i64 k ∧ w = wr) (fun _ i _ => 0)
  case atStart => exact ⟨rfl, rfl, rfl⟩
  case round =>
    obtain ⟨rfl, rfl, rfl⟩ := hrel
    go_wp2_with fail
    go_ret
    exact ⟨rfl, rfl⟩
theorem heldW_nil (k : Int) (w : World) (h0 : 0 < k) (h1 : k ≤ 8000000) : Calls Tryz.prog 41 #[.slice none 0 0, .int .i64 k] w fun e w' => e = .returned (.int .i64 k) ∧ w = w' := by
  go_enter Tryz.func41, Tryz.ntmps41
  go_wp2_with fail
  go_loopw [1, 5] (fun q i wr => i = .int .i64 0 ∧ q = .int .i64 k ∧ w = wr) (fun _ i _ => 0)
  case atStart => exact ⟨rfl, rfl, rfl⟩
  case round =>
    obtain ⟨rfl, rfl, rfl⟩ := hrel
    go_wp2_with fail
    go_ret
    exact ⟨rfl, rfl⟩

theorem put2_marks {f f0 : Nat → Value} {k : Int} {j : Nat} (h : ∀ x, x < j * 2 → f x = mkw k x) : ∀ x, x < (j + 1) * 2 → put2 f j (.string (mt (k + 2 * j))) (.int .i64 (k + 2 * j + 1)) x = mkw k x := by
  intro x hx
  obtain ⟨e0, e1⟩ := mkw_at k j
  unfold put2
  by_cases h1 : x = j * 2 + 1
  · subst h1; rw [if_pos rfl, e1]
  · by_cases h2 : x = j * 2
    · subst h2; rw [if_neg (by omega), if_pos rfl, e0]
    · rw [if_neg h1, if_neg h2]; exact h x (by omega)
set_option maxHeartbeats 1600000 in
theorem markWc_any (g n c : Nat) (f0 : Nat → Value) (k : Int) (w : World) (hr : w.rowIs g 80 (c * 2) f0) (hc : n ≤ c) (h0 : 0 < k) (h1 : k ≤ 8000000) (hn : n ≤ 1048576) :
    Calls Tryz.prog 37 #[.slice (some ⟨g, 0, none⟩) n c, .int .i64 k] w fun e w' => e = .returned (.int .i64 (k + 2 * n)) ∧ (∃ f, w'.rowIs g 80 (c * 2) f ∧ ∀ x, x < n * 2 → f x = mkw k x) ∧ w.grownBy w' (some g) := by
  go_enter Tryz.func37, Tryz.ntmps37
  go_wp2_with fail
  go_loopw [1, 5] (fun q i wr => ∃ j : Nat, j ≤ n ∧ i = .int .i64 j ∧ q = .int .i64 (k + 2 * j) ∧ (∃ f, wr.rowIs g 80 (c * 2) f ∧ ∀ x, x < j * 2 → f x = mkw k x) ∧ w.grownBy wr (some g)) (fun _ i _ => n - (intOf i).toNat)
  case atStart => exact ⟨0, Nat.zero_le _, rfl, by simp, ⟨f0, hr, fun x hx => by omega⟩, World.grownBy.refl w _⟩
  case round =>
    obtain ⟨j, hj, rfl, rfl, ⟨f, hrow, hf⟩, hgr⟩ := hrel
    have HF := Lib.hid hf
    clear hf
    by_cases hlt : j < n
    · go_wp2_with fail
      refine (mark_any (k + 2 * j) _ (by omega) (by omega)).mono ?_
      rintro e w1 ⟨rfl, hb⟩
      have hrow1 := hrow.of_block (hb.block g hrow.lt)
      have z0 := hrow1.cell (show j * 2 < c * 2 by omega)
      have z1 := hrow1.cell (show j * 2 + 1 < c * 2 by omega)
      have f0 := hrow1.frozen (j * 2)
      have f1 := hrow1.frozen (j * 2 + 1)
      have HRow := Lib.hid (put2_row hrow1 j (.string (mt (k + 2 * j))) (.int .i64 (k + 2 * j + 1)))
      have HG := Lib.hid (only_set (only_set (only_below hgr hb) (j * 2) (.string (mt (k + 2 * j)))) (j * 2 + 1) (.int .i64 (k + 2 * j + 1)))
      clear hrow hrow1 hgr hb
      go_wp2_with fail
      go_roundw
      case rel => exact ⟨j + 1, by omega, by go_num, by go_num, ⟨_, HRow.out, put2_marks (f0 := f) HF.out⟩, HG.out⟩
      case measure => simp [intOf]; omega
    · obtain rfl : j = n := by omega
      go_wp2_with fail
      go_ret
      exact ⟨rfl, ⟨f, hrow, HF.out⟩, hgr⟩
theorem markWR_any (A : Option Addr) (n c : Nat) (M : Nat → Value) (k : Int) (w : World) (lo hi : Nat) (h : RowR w lo hi 80 2 A n c M) (h0 : 0 < k) (h1 : k ≤ 8000000) (hn : n ≤ 1048576) :
    Calls Tryz.prog 37 #[.slice A n c, .int .i64 k] w fun e w' => e = .returned (.int .i64 (k + 2 * n)) ∧ RowR w' lo hi 80 2 A n c (mkw k) ∧ Chg (blk A) w w' := by
  rcases h with ⟨rfl, rfl, rfl⟩ | ⟨g, f, rfl, a1, a2, hc, hr, -⟩
  · refine (markW_nil k w h0 h1).mono ?_
    rintro e w1 ⟨rfl, rfl⟩
    exact ⟨by simp, RowR.nil, Chg.refl _ _⟩
  · refine (markWc_any g n c f k w hr hc h0 h1 hn).mono ?_
    rintro e w1 ⟨rfl, ⟨f1, hr1, hf1⟩, hg⟩
    exact ⟨rfl, RowR.mk a1 a2 hc hr1 hf1, Chg.of_grown hg hr hr1 rfl⟩

set_option maxRecDepth 20000 in
set_option maxHeartbeats 1600000 in
theorem heldWc_any (g n c : Nat) (k : Int) (w : World) (f : Nat → Value) (hr : w.rowIs g 80 (c * 2) f) (hf : ∀ x, x < n * 2 → f x = mkw k x) (hc : n ≤ c) (h0 : 0 < k) (h1 : k ≤ 8000000) (hn : n ≤ 1048576) :
    Calls Tryz.prog 41 #[.slice (some ⟨g, 0, none⟩) n c, .int .i64 k] w fun e w' => e = .returned (.int .i64 (k + 2 * n)) ∧ Below w.heap.size w w' := by
  have hgw := hr.lt
  have HF := Lib.hid hf
  clear hf
  go_enter Tryz.func41, Tryz.ntmps41
  go_wp2_with fail
  go_loopw [1, 5] (fun q i wr => ∃ j : Nat, j ≤ n ∧ i = .int .i64 j ∧ q = .int .i64 (k + 2 * j) ∧ Below w.heap.size w wr) (fun _ i _ => n - (intOf i).toNat)
  case atStart => exact ⟨0, Nat.zero_le _, rfl, by simp, Below.refl _ _⟩
  case round =>
    obtain ⟨j, hj, rfl, rfl, hb⟩ := hrel
    have hbs := hb.size
    by_cases hlt : j < n
    · have hcell2 : wr.cell? ⟨g, j * 2, none⟩ = some (.string (mt (k + 2 * j))) := (hb.cell (p := ⟨g, j * 2, none⟩) hgw).trans ((hr.cell (show j * 2 < c * 2 by omega)).trans (by rw [HF.out (j * 2) (by omega), (mkw_at k j).1]))
      have hcell3 : wr.cell? ⟨g, j * 2 + 1, none⟩ = some (.int .i64 (k + 2 * j + 1)) := (hb.cell (p := ⟨g, j * 2 + 1, none⟩) hgw).trans ((hr.cell (show j * 2 + 1 < c * 2 by omega)).trans (by rw [HF.out (j * 2 + 1) (by omega), (mkw_at k j).2]))
      have p1 : 0 < k + 2 * j := by omega
      have p2 : k + 2 * j ≤ 16000000 := by omega
      go_wp2_with fail
      have hj0 : (0 : Int) ≤ (j : Int) := Int.natCast_nonneg _
      have hj1 : (j : Int) < (n : Int) := by omega
      have hgr : g < wr.heap.size := by omega
      go_region_held3 (fun w' => w'.cell? ⟨g, j * 2, none⟩ = some (.string (mt (k + 2 * j)))) (first | go_keep | (rw [hb1.cell (by simp; omega)]; assumption)) ((go_at_call 33; refine (mark_any (k + 2 * j) _ p1 p2).mono ?_; rintro e w1 ⟨rfl, hb1⟩))
      have HB := Lib.hid ((hb.drew).trans (hb1.mono (show w.heap.size ≤ wr.drew.heap.size from hbs)))
      have hd1 : w1.cell? ⟨g, j * 2 + 1, none⟩ = some (.int .i64 (k + 2 * j + 1)) := (hb1.cell (p := ⟨g, j * 2 + 1, none⟩) (show g < wr.drew.heap.size from hgr)).trans hcell3
      clear hb1 hcell2 hcell3
      go_wp2_with fail
      try go_quiet (fail)
      go_wp2_with fail
      go_roundw
      case rel => exact ⟨j + 1, by omega, by go_num, by go_num, by first | exact HB.out | exact HB.out.drew⟩
      case measure => simp [intOf]; omega
    · obtain rfl : j = n := by omega
      go_wp2_with fail
      go_ret
      exact ⟨rfl, hb⟩
theorem heldWR_any (A : Option Addr) (n c : Nat) (k : Int) (w : World) (lo hi : Nat) (h : RowR w lo hi 80 2 A n c (mkw k)) (h0 : 0 < k) (h1 : k ≤ 8000000) (hn : n ≤ 1048576) :
    Calls Tryz.prog 41 #[.slice A n c, .int .i64 k] w fun e w' => e = .returned (.int .i64 (k + 2 * n)) ∧ Below w.heap.size w w' := by
  rcases h with ⟨rfl, rfl, rfl⟩ | ⟨g, f, rfl, a1, a2, hc, hr, hf⟩
  · refine (heldW_nil k w h0 h1).mono ?_
    rintro e w1 ⟨rfl, rfl⟩
    exact ⟨by simp, Below.refl _ _⟩
  · exact heldWc_any g n c k w f hr hf hc h0 h1 hn

/-! ### nodes -/
theorem markN_nil (k : Int) (w : World) (h0 : 0 < k) (h1 : k ≤ 8000000) : Calls Tryz.prog 34 #[.slice none 0 0, .int .i64 k] w fun e w' => e = .returned (.int .i64 k) ∧ w = w' := by
  go_enter Tryz.func34, Tryz.ntmps34
  go_wp2_with fail
  go_loopw [1, 5] (fun q i wr => i = .int .i64 0 ∧ q = .int .i64 k ∧ w = wr) (fun _ i _ => 0)
  case atStart => exact ⟨rfl, rfl, rfl⟩
  case round =>
    obtain ⟨rfl, rfl, rfl⟩ := hrel
    go_wp2_with fail
    go_ret
    exact ⟨rfl, rfl⟩
theorem heldN_nil (k : Int) (w : World) (h0 : 0 < k) (h1 : k ≤ 8000000) : Calls Tryz.prog 38 #[.slice none 0 0, .int .i64 k] w fun e w' => e = .returned (.int .i64 k) ∧ w = w' := by
  go_enter Tryz.func38, Tryz.ntmps38
  go_wp2_with fail
  go_loopw [1, 5] (fun q i wr => i = .int .i64 0 ∧ q = .int .i64 k ∧ w = wr) (fun _ i _ => 0)
  case atStart => exact ⟨rfl, rfl, rfl⟩
  case round =>
    obtain ⟨rfl, rfl, rfl⟩ := hrel
    go_wp2_with fail
    go_ret
    exact ⟨rfl, rfl⟩

theorem ndT_succ {ns : List Nd} {j : Nat} {x : Nd} (h : ns[j]? = some x) : ndT ns (j + 1) = ndT ns j + 2 + x.links.length := by
  unfold ndT
  rw [sumBy_snoc (fun c : Nd => c.links.length) h]
  omega
theorem ndT_le (ns : List Nd) {j : Nat} (hj : j ≤ ns.length) : ndT ns j ≤ ndMk ns := by
  unfold ndT ndMk
  have := sumBy_take (fun c : Nd => c.links.length) ns j
  omega
theorem ndT_all (ns : List Nd) : ndT ns ns.length = ndMk ns := by unfold ndT ndMk; rw [List.take_length]

/-- the first j nodes bear their marks -/
def NdMid (w : World) (lo hi : Nat) (P : Plan) (g n : Nat) (ns : List Nd) (k : Int) (ml : Nat → Nat → Value) (j : Nat) : Prop :=
  (∃ f, w.rowIs g 96 (P.c1 * 3) f ∧ (∀ x, x < n → f (x * 3 + 2) = .slice (P.LA x) (lnOf ns x) (P.LC x)) ∧ ∀ x, x < j → f (x * 3) = mkc k ns x ∧ f (x * 3 + 1) = mkp k ns x) ∧
    (∀ x, x < j → RowR w lo hi 3 1 (P.LA x) (lnOf ns x) (P.LC x) (mkl k ns x)) ∧ ∀ x, j ≤ x → x < n → RowR w lo hi 3 1 (P.LA x) (lnOf ns x) (P.LC x) (ml x)
def put2n (w : World) (g j : Nat) (a b : Value) : World := (w.setCell ⟨g, j * 3, none⟩ a).setCell ⟨g, j * 3 + 1, none⟩ b
theorem put2n_row {w : World} {g j m : Nat} {a b : Value} {f : Nat → Value} {t : TypeId} (h : w.rowIs g t m f) : (put2n w g j a b).rowIs g t m (fun i => if i = j * 3 + 1 then b else if i = j * 3 then a else f i) := (h.set (j * 3) a).set (j * 3 + 1) b
theorem put2n_chg (w : World) (g j : Nat) (a b : Value) {S : Nat → Prop} (hS : S g) : Chg S w (put2n w g j a b) := (Chg.set w hS _ _).trans (Chg.set _ hS _ _)
theorem links_put {w : World} {lo hi g m j n c : Nat} {f : Nat → Value} {A : Option Addr} {M : Nat → Value} {a b : Value} (hg : w.rowIs g 96 m f) (h : RowR w lo hi 3 1 A n c M) : RowR (put2n w g j a b) lo hi 3 1 A n c M :=
  h.chg (put2n_chg w g j a b (S := fun x => x = g) rfl) (fun g2 e2 hr2 e3 => by
    subst e3
    rcases h with ⟨e, _⟩ | ⟨g3, f3, e, -, -, -, hr3, -⟩
    · rw [blk, e] at e2; cases e2
    · rw [blk, e] at e2
      injection e2 with e2
      injection e2 with e2
      subst e2
      have := (rowIs_uniq hg hr3).1
      revert this
      decide)
theorem ndMid_next {w w3 : World} {lo hi g n j : Nat} {P : Plan} {ns : List Nd} {k : Int} {ml : Nat → Nat → Value} (h : NdMid w lo hi P g n ns k ml j) (hj : j < n) (hap : P.Apart n)
    (hc : Chg (blk (P.LA j)) (put2n w g j (mkc k ns j) (mkp k ns j)) w3) (hr : RowR w3 lo hi 3 1 (P.LA j) (lnOf ns j) (P.LC j) (mkl k ns j)) : NdMid w3 lo hi P g n ns k ml (j + 1) := by
  obtain ⟨⟨f, hrow, hs, hm⟩, h1, h2⟩ := h
  have hrow2 := put2n_row (j := j) (a := mkc k ns j) (b := mkp k ns j) hrow
  have hne : ¬ blk (P.LA j) g := fun e => by
    rcases h2 j (Nat.le_refl _) hj with ⟨e2, _⟩ | ⟨g3, f3, e2, -, -, -, hr3, -⟩
    · rw [blk, e2] at e; cases e
    · rw [blk, e2] at e
      injection e with e
      injection e with e
      subst e
      have := (rowIs_uniq hrow hr3).1
      revert this
      decide
  have other : ∀ x, x < n → x ≠ j → ∀ M, RowR w lo hi 3 1 (P.LA x) (lnOf ns x) (P.LC x) M → RowR w3 lo hi 3 1 (P.LA x) (lnOf ns x) (P.LC x) M := fun x hx hxj M hM =>
    (links_put hrow hM).chg hc (fun g2 e2 _ e3 => by
      have hne2 : P.LA x ≠ none := by rw [e2]; simp
      have := (hap x hx hne2).2 j hj (fun e => hxj e.symm)
      exact this (by rw [e2, e3]))
  refine ⟨⟨_, hrow2.of_block (hc.block g hrow2.lt hne), fun x hx => ?_, fun x hx => ?_⟩, fun x hx => ?_, fun x hx hxn => ?_⟩
  · show (if _ then _ else if _ then _ else _) = _
    rw [if_neg (by omega), if_neg (by omega)]
    exact hs x hx
  · by_cases e : x = j
    · subst e
      exact ⟨by show (if _ then _ else if _ then _ else _) = _; rw [if_neg (by omega), if_pos rfl], by show (if _ then _ else if _ then _ else _) = _; rw [if_pos rfl]⟩
    · refine ⟨?_, ?_⟩
      · show (if _ then _ else if _ then _ else _) = _
        rw [if_neg (by omega), if_neg (by omega)]
        exact (hm x (by omega)).1
      · show (if _ then _ else if _ then _ else _) = _
        rw [if_neg (by omega), if_neg (by omega)]
        exact (hm x (by omega)).2
  · by_cases e : x = j
    · subst e; exact hr
    · exact other x (by omega) e _ (h1 x (by omega))
  · exact other x hxn (by omega) _ (h2 x (by omega) hxn)

set_option maxRecDepth 20000 in
set_option maxHeartbeats 1600000 in
theorem markNc_any (P : Plan) (g n lo hi : Nat) (ns : List Nd) (ml : Nat → Nat → Value) (f : Nat → Value) (k : Int) (w : World) (hl : ns.length = n) (hr : w.rowIs g 96 (P.c1 * 3) f) (hc : n ≤ P.c1) (hs : ∀ x, x < n → f (x * 3 + 2) = .slice (P.LA x) (lnOf ns x) (P.LC x))
    (hlk : ∀ x, x < n → RowR w lo hi 3 1 (P.LA x) (lnOf ns x) (P.LC x) (ml x)) (hap : P.Apart n) (h0 : 0 < k) (h1 : k ≤ 3200000) (hwt : ndMk ns ≤ 1048576) :
    Calls Tryz.prog 34 #[.slice (some ⟨g, 0, none⟩) n P.c1, .int .i64 k] w fun e w' => e = .returned (.int .i64 (k + ndMk ns)) ∧ NdMid w' lo hi P g n ns k ml n ∧ Chg (fun x => x = g ∨ ∃ j, j < n ∧ blk (P.LA j) x) w w' := by
  obtain ⟨cp, hcp⟩ : ∃ cp, P.c1 = cp := ⟨_, rfl⟩
  have HM0 := Lib.hid (show NdMid w lo hi P g n ns k ml 0 from ⟨⟨f, hr, hs, fun x hx => absurd hx (Nat.not_lt_zero x)⟩, fun x hx => absurd hx (Nat.not_lt_zero x), fun x _ hx => hlk x hx⟩)
  have HL := Lib.hid hl
  have HAp := Lib.hid hap
  have HCp := Lib.hid hcp
  have hn : n ≤ 1048576 := by unfold ndMk at hwt; omega
  rw [hcp] at hc ⊢
  clear hl hr hs hlk hap hcp
  go_enter Tryz.func34, Tryz.ntmps34
  go_wp2_with fail
  go_loopw [1, 5] (fun q i wr => ∃ j : Nat, j ≤ n ∧ i = .int .i64 j ∧ q = .int .i64 (k + ndT ns j) ∧ NdMid wr lo hi P g n ns k ml j ∧ Chg (fun x => x = g ∨ ∃ j, j < n ∧ blk (P.LA j) x) w wr) (fun _ i _ => n - (intOf i).toNat)
  case atStart => exact ⟨0, Nat.zero_le _, rfl, by simp [ndT, sumBy], HM0.out, Chg.refl _ _⟩
  case round =>
    obtain ⟨j, hj, rfl, rfl, hmid, hch⟩ := hrel
    by_cases hlt : j < n
    · have hx : ns[j]? = some (ns[j]'(by rw [HL.out]; exact hlt)) := List.getElem?_eq_getElem _
      have hT := ndT_succ hx
      have hTl := ndT_le ns (show j + 1 ≤ ns.length by rw [HL.out]; omega)
      have hln : lnOf ns j = (ns[j]'(by rw [HL.out]; exact hlt)).links.length := by unfold lnOf; rw [linksOf_at hx]
      rw [← hln] at hT
      obtain ⟨T, hTe⟩ : ∃ T, ndT ns j = T := ⟨_, rfl⟩
      obtain ⟨m, hm⟩ : ∃ m, lnOf ns j = m := ⟨_, rfl⟩
      rw [hTe, hm] at hT
      have HT := Lib.hid hT
      have HTe := Lib.hid hTe
      have HTl : T + 2 + m ≤ 1048576 := by omega
      have HMid := Lib.hid hmid
      have HCh := Lib.hid hch
      obtain ⟨⟨f', hrow', hs', -⟩, -, h2⟩ := hmid
      have hlk := h2 j (Nat.le_refl _) hlt
      have z0 := hrow'.cell (show j * 3 < P.c1 * 3 by rw [HCp.out]; omega)
      have z1 := hrow'.cell (show j * 3 + 1 < P.c1 * 3 by rw [HCp.out]; omega)
      have z2 := (hrow'.cell (show j * 3 + 2 < P.c1 * 3 by rw [HCp.out]; omega)).trans (by rw [hs' j hlt])
      have f0 := hrow'.frozen (j * 3)
      have f1 := hrow'.frozen (j * 3 + 1)
      have hrow2 := put2n_row (j := j) (a := .int .i64 (k + T)) (b := .int .i64 (k + T + 1)) hrow'
      have hlk2 := links_put (j := j) (a := .int .i64 (k + T)) (b := .int .i64 (k + T + 1)) hrow' hlk
      have hch2 := put2n_chg wr g j (.int .i64 (k + T)) (.int .i64 (k + T + 1)) (S := fun x => x = g ∨ ∃ j, j < n ∧ blk (P.LA j) x) (.inl rfl)
      obtain ⟨LA, hLA⟩ : ∃ LA, P.LA j = LA := ⟨_, rfl⟩
      obtain ⟨LC, hLC⟩ : ∃ LC, P.LC j = LC := ⟨_, rfl⟩
      have HLA := Lib.hid (And.intro hLA (And.intro hLC hm))
      rw [hm] at hlk2 z2
      rw [hLA, hLC] at hlk2 z2
      unfold put2n at hlk2 hch2
      have HLk2 := Lib.hid hlk2
      have HCh2 := Lib.hid hch2
      have HC1 : Hid (mkc k ns j = .int .i64 (k + T)) := Lib.hid (by unfold mkc; rw [HTe.out])
      have HC2 : Hid (mkp k ns j = .int .i64 (k + T + 1)) := Lib.hid (by unfold mkp; rw [HTe.out])
      have HC3 : Hid (mkl k ns j = mki (k + T + 1 + 1)) := Lib.hid (by unfold mkl; rw [HTe.out]; congr 1; omega)
      rw [hTe]
      clear hx hT hTl hln hTe hm hch hrow' hs' h2 hlk hrow2 hlk2 hch2 hLA hLC
      go_wp2_with fail
      refine (markIR_any LA m LC _ (k + T + 1 + 1) _ lo hi HLk2.out (by omega) (by omega) (by omega)).mono ?_
      rintro e w2 ⟨rfl, hrm, hgm⟩
      have HN := Lib.hid (ndMid_next HMid.out hlt HAp.out (w3 := w2) (by rw [HC1.out, HC2.out, HLA.out.1]; exact hgm) (by rw [HC3.out, HLA.out.1, HLA.out.2.1, HLA.out.2.2]; exact hrm))
      have HCn := Lib.hid ((HCh.out.trans HCh2.out).trans (hgm.more (fun x hx => .inr ⟨j, hlt, by rw [HLA.out.1]; exact hx⟩)))
      clear hrm hgm z0 z1 z2 f0 f1
      go_wp2_with fail
      go_roundw
      case rel => exact ⟨j + 1, by omega, by go_num, by rw [HT.out]; go_num, HN.out, HCn.out⟩
      case measure => simp [intOf]; omega
    · obtain rfl : j = n := by omega
      have HE : Hid (ndT ns j = ndMk ns) := Lib.hid (by rw [← HL.out]; exact ndT_all ns)
      have HMid := Lib.hid hmid
      have HCh := Lib.hid hch
      clear hmid hch
      go_wp2_with fail
      go_ret
      exact ⟨by rw [HE.out]; rfl, HMid.out, HCh.out⟩

theorem markNR_any (P : Plan) (n lo hi : Nat) (ns : List Nd) (mc mp : Nat → Value) (ml : Nat → Nat → Value) (k : Int) (w : World) (hl : ns.length = n) (h : Nodes w lo hi P n (lnOf ns) mc mp ml) (hap : P.Apart n) (h0 : 0 < k) (h1 : k ≤ 3200000) (hwt : ndMk ns ≤ 1048576) :
    Calls Tryz.prog 34 #[.slice P.A1 n P.c1, .int .i64 k] w fun e w' => e = .returned (.int .i64 (k + ndMk ns)) ∧ Nodes w' lo hi P n (lnOf ns) (mkc k ns) (mkp k ns) (mkl k ns) ∧ Chg (P.S1 n) w w' := by
  obtain ⟨h2, h3⟩ := h
  rcases h2 with ⟨e1, e2, rfl⟩ | ⟨g, f, e1, a1, a2, hc, hr, hf⟩
  · rw [e1, e2]
    refine (markN_nil k w h0 (by omega)).mono ?_
    rintro e w1 ⟨rfl, rfl⟩
    have : ndMk ns = 0 := by
      cases ns with
      | nil => rfl
      | cons a r => simp at hl
    exact ⟨by rw [this]; simp, ⟨.inl ⟨e1, e2, rfl⟩, fun k hk => absurd hk (Nat.not_lt_zero k)⟩, Chg.refl _ _⟩
  · rw [e1]
    refine (markNc_any P g n lo hi ns ml f k w hl hr hc (fun x hx => (hf _ (by omega)).trans (ndc_at P _ _ _ x).2.2) h3 hap h0 h1 hwt).mono ?_
    rintro e w1 ⟨rfl, ⟨⟨f1, hr1, hs1, hm1⟩, hl1, -⟩, hch⟩
    exact ⟨rfl, ⟨.inr ⟨g, f1, e1, a1, a2, hc, hr1, ndc_of (fun x hx => ⟨(hm1 x hx).1, (hm1 x hx).2, hs1 x hx⟩)⟩, hl1⟩, hch.more (fun x hx => hx.imp (fun e => by rw [blk, e1, e]) id)⟩

set_option maxRecDepth 20000 in
set_option maxHeartbeats 1600000 in
theorem heldNc_any (P : Plan) (g n lo hi : Nat) (ns : List Nd) (f : Nat → Value) (k : Int) (w : World) (hl : ns.length = n) (hr : w.rowIs g 96 (P.c1 * 3) f) (hc : n ≤ P.c1) (hs : ∀ x, x < n → f (x * 3) = mkc k ns x ∧ f (x * 3 + 1) = mkp k ns x ∧ f (x * 3 + 2) = .slice (P.LA x) (lnOf ns x) (P.LC x))
    (hlk : ∀ x, x < n → RowR w lo hi 3 1 (P.LA x) (lnOf ns x) (P.LC x) (mkl k ns x)) (h0 : 0 < k) (h1 : k ≤ 3200000) (hwt : ndMk ns ≤ 1048576) :
    Calls Tryz.prog 38 #[.slice (some ⟨g, 0, none⟩) n P.c1, .int .i64 k] w fun e w' => e = .returned (.int .i64 (k + ndMk ns)) ∧ Below w.heap.size w w' := by
  obtain ⟨cp, hcp⟩ : ∃ cp, P.c1 = cp := ⟨_, rfl⟩
  have hgw := hr.lt
  have HL := Lib.hid hl
  have HCp := Lib.hid hcp
  have HR := Lib.hid hr
  have HS := Lib.hid hs
  have HLk := Lib.hid hlk
  have hn : n ≤ 1048576 := by unfold ndMk at hwt; omega
  rw [hcp] at hc ⊢
  clear hl hr hs hlk hcp
  go_enter Tryz.func38, Tryz.ntmps38
  go_wp2_with fail
  go_loopw [1, 5] (fun q i wr => ∃ j : Nat, j ≤ n ∧ i = .int .i64 j ∧ q = .int .i64 (k + ndT ns j) ∧ Below w.heap.size w wr) (fun _ i _ => n - (intOf i).toNat)
  case atStart => exact ⟨0, Nat.zero_le _, rfl, by simp [ndT, sumBy], Below.refl _ _⟩
  case round =>
    obtain ⟨j, hj, rfl, rfl, hb⟩ := hrel
    by_cases hlt : j < n
    · have hx : ns[j]? = some (ns[j]'(by rw [HL.out]; exact hlt)) := List.getElem?_eq_getElem _
      have hT := ndT_succ hx
      have hTl := ndT_le ns (show j + 1 ≤ ns.length by rw [HL.out]; omega)
      have hln : lnOf ns j = (ns[j]'(by rw [HL.out]; exact hlt)).links.length := by unfold lnOf; rw [linksOf_at hx]
      rw [← hln] at hT
      obtain ⟨T, hTe⟩ : ∃ T, ndT ns j = T := ⟨_, rfl⟩
      obtain ⟨m, hm⟩ : ∃ m, lnOf ns j = m := ⟨_, rfl⟩
      rw [hTe, hm] at hT
      have HT := Lib.hid hT
      have HTe := Lib.hid hTe
      have HTl : T + 2 + m ≤ 1048576 := by omega
      obtain ⟨s0, s1, s2⟩ := HS.out j hlt
      have z0 : wr.cell? ⟨g, j * 3, none⟩ = some (.int .i64 (k + T)) := (hb.cell (p := ⟨g, j * 3, none⟩) hgw).trans ((HR.out.cell (show j * 3 < P.c1 * 3 by rw [HCp.out]; omega)).trans (by rw [s0, mkc, HTe.out]))
      have z1 : wr.cell? ⟨g, j * 3 + 1, none⟩ = some (.int .i64 (k + T + 1)) := (hb.cell (p := ⟨g, j * 3 + 1, none⟩) hgw).trans ((HR.out.cell (show j * 3 + 1 < P.c1 * 3 by rw [HCp.out]; omega)).trans (by rw [s1, mkp, HTe.out]))
      obtain ⟨LA, hLA⟩ : ∃ LA, P.LA j = LA := ⟨_, rfl⟩
      obtain ⟨LC, hLC⟩ : ∃ LC, P.LC j = LC := ⟨_, rfl⟩
      have z2 : wr.cell? ⟨g, j * 3 + 2, none⟩ = some (.slice LA m LC) := (hb.cell (p := ⟨g, j * 3 + 2, none⟩) hgw).trans ((HR.out.cell (show j * 3 + 2 < P.c1 * 3 by rw [HCp.out]; omega)).trans (by rw [s2, hLA, hLC, hm]))
      have hlk := HLk.out j hlt
      rw [hLA, hLC, hm] at hlk
      have HC3 : Hid (mkl k ns j = mki (k + T + 1 + 1)) := Lib.hid (by unfold mkl; rw [HTe.out]; congr 1; omega)
      rw [HC3.out] at hlk
      have HLk2 := Lib.hid hlk
      have HB := Lib.hid hb
      rw [hTe]
      clear hx hT hTl hln hTe hm hb s0 s1 s2 hlk hLA hLC
      go_wp2_with fail
      try go_quiet (fail)
      go_wp2_with fail
      try go_quiet (fail)
      go_wp2_with fail
      refine (heldIR_any LA m LC (k + T + 1 + 1) _ lo hi (HLk2.out.on ?_) (by omega) (by omega) (by omega)).mono ?_
      · exact (by first | exact HB.out | exact HB.out.drew | exact HB.out.drew.drew)
      rintro e w2 ⟨rfl, hb2⟩
      have HB2 : Hid (Below w.heap.size w w2) := Lib.hid (by first | exact HB.out.trans (hb2.mono HB.out.size) | exact HB.out.drew.trans (hb2.mono HB.out.drew.size) | exact HB.out.drew.drew.trans (hb2.mono HB.out.drew.drew.size))
      clear hb2 z0 z1 z2
      go_wp2_with fail
      go_roundw
      case rel => exact ⟨j + 1, by omega, by go_num, by rw [HT.out]; go_num, HB2.out⟩
      case measure => simp [intOf]; omega
    · obtain rfl : j = n := by omega
      have HE : Hid (ndT ns j = ndMk ns) := Lib.hid (by rw [← HL.out]; exact ndT_all ns)
      go_wp2_with fail
      go_ret
      exact ⟨by rw [HE.out]; rfl, hb⟩
theorem heldNR_any (P : Plan) (n lo hi : Nat) (ns : List Nd) (k : Int) (w : World) (hl : ns.length = n) (h : Nodes w lo hi P n (lnOf ns) (mkc k ns) (mkp k ns) (mkl k ns)) (h0 : 0 < k) (h1 : k ≤ 3200000) (hwt : ndMk ns ≤ 1048576) :
    Calls Tryz.prog 38 #[.slice P.A1 n P.c1, .int .i64 k] w fun e w' => e = .returned (.int .i64 (k + ndMk ns)) ∧ Below w.heap.size w w' := by
  obtain ⟨h2, h3⟩ := h
  rcases h2 with ⟨e1, e2, rfl⟩ | ⟨g, f, e1, a1, a2, hc, hr, hf⟩
  · rw [e1, e2]
    refine (heldN_nil k w h0 (by omega)).mono ?_
    rintro e w1 ⟨rfl, rfl⟩
    have : ndMk ns = 0 := by
      cases ns with
      | nil => rfl
      | cons a r => simp at hl
    exact ⟨by rw [this]; simp, Below.refl _ _⟩
  · rw [e1]
    exact heldNc_any P g n lo hi ns f k w hl hr hc (fun x hx => by
      obtain ⟨g0, g1, g2⟩ := ndc_at P (lnOf ns) (mkc k ns) (mkp k ns) x
      exact ⟨(hf _ (by omega)).trans g0, (hf _ (by omega)).trans g1, (hf _ (by omega)).trans g2⟩) h3 h0 h1 hwt
end Go.Proofs.YtlpgldejmdiceabGreat.bm
end

section
namespace Go.Proofs.YtlpgldejmdiceabGreat.bw
open kit bg opn strs only hb sig inn ht marks eqs hc hi hw hn rs br bm cf
open Go.RowKit
set_option linter.unusedVariables false

section
variable {w w' : World} {lo hi n c n' c' sz sz' m : Nat} {t t' : TypeId} {A A' : Option Addr} {M M' : Nat → Value} {P : Plan} {ln : Nat → Nat} {mc mp : Nat → Value} {ml : Nat → Nat → Value}
theorem RowR.row (h : RowR w lo hi t sz A n c M) {g : Nat} (e : blk A g) : ∃ f m, w.rowIs g t m f := by
  rcases h with ⟨e2, _⟩ | ⟨g2, f, e2, h1, h2, _, h4, _⟩
  · rw [blk, e2] at e; cases e
  · rw [blk, e2] at e
    injection e with e
    injection e with e
    subst e
    exact ⟨f, _, h4⟩
theorem rows_ne (h : RowR w lo hi t sz A n c M) (h' : RowR w lo hi t' sz' A' n' c' M') (ht : t ≠ t') {g : Nat} (e : blk A g) : ¬ blk A' g := fun e' => by
  obtain ⟨f, m, hr⟩ := RowR.row h e
  obtain ⟨f', m', hr'⟩ := RowR.row h' e'
  exact ht (rowIs_uniq hr hr').1
/-- a change of a row of another type leaves a row -/
theorem row_other (h : RowR w lo hi t sz A n c M) (h' : RowR w lo hi t' sz' A' n' c' M') (ht : t ≠ t') (hc : Chg (blk A') w w') : RowR w' lo hi t sz A n c M := h.chg hc (fun g e _ => rows_ne h h' ht e)
theorem row_apart (h : RowR w lo hi t sz A n c M) (hne : A ≠ none → A ≠ A') (hc : Chg (blk A') w w') : RowR w' lo hi t sz A n c M := h.chg hc (fun g e _ e' => hne (by rw [e]; simp) (by rw [e, e']))
/-- a change of the nodes leaves a row of another type, and one apart from the links -/
theorem row_nodes (h : RowR w lo hi t sz A m c M) (hN : Nodes w lo hi P n ln mc mp ml) (ht : t ≠ 96) (hl : t ≠ 3 ∨ ∀ j, j < n → P.LA j ≠ none → P.LA j ≠ A) (hc : Chg (P.S1 n) w w') : RowR w' lo hi t sz A m c M := h.chg hc (fun g e _ e' => by
  rcases e' with e' | ⟨j, hj, e'⟩
  · exact rows_ne h hN.1 ht e e'
  · rcases hl with hl | hl
    · exact rows_ne h (hN.2 j hj) hl e e'
    · exact hl j hj (by rw [e']; simp) (by rw [e', e]))
theorem nodes_row (hN : Nodes w lo hi P n ln mc mp ml) (h : RowR w lo hi t sz A m c M) (ht : t ≠ 96) (hl : t ≠ 3 ∨ ∀ j, j < n → P.LA j ≠ none → P.LA j ≠ A) (hc : Chg (blk A) w w') : Nodes w' lo hi P n ln mc mp ml :=
  ⟨row_other hN.1 h (fun e => ht e.symm) hc, fun k hk => by
    rcases hl with hl | hl
    · exact row_other (hN.2 k hk) h (fun e => hl e.symm) hc
    · exact row_apart (hN.2 k hk) (hl k hk) hc⟩
theorem nodes_in (hN : Nodes w lo hi P n ln mc mp ml) {g : Nat} (e : P.S1 n g) : lo ≤ g ∧ g < hi := by
  rcases e with e | ⟨j, hj, e⟩
  · exact hN.1.in_ e
  · exact (hN.2 j hj).in_ e
end

theorem bigMk_parts {b : Big} (h : bigMk b ≤ 1048576) : ndMk b.nodes ≤ 1048576 ∧ b.sites.length ≤ 1048576 ∧ b.outer.length ≤ 1048576 ∧ b.inner.length ≤ 1048576 ∧ b.nodes.length ≤ 1048576 ∧ ∀ x ∈ b.nodes, x.links.length ≤ 1048576 := by
  unfold bigMk at h
  refine ⟨by omega, by omega, by omega, by omega, by unfold ndMk at h; omega, fun x hx => ?_⟩
  have := sumBy_mem (fun c : Nd => c.links.length) hx
  unfold ndMk at h
  omega

set_option maxRecDepth 20000 in
set_option maxHeartbeats 1600000 in
theorem markBR_any (v : Value) (b : Big) (k : Int) (w : World) (lo hi : Nat) (h : BigR w lo hi v b) (hhi : hi ≤ w.heap.size) (h0 : 0 < k) (h1 : k ≤ 2000000) (hm : bigMk b ≤ 1048576) :
    Calls Tryz.prog 15 #[v, .int .i64 k] w fun e w' => e = .returned (.int .i64 (k + bigMk b)) ∧ BigM w' lo hi v b k ∧ Only lo hi w w' := by
  obtain ⟨P, rfl, hap, hN, h2, h4, h5⟩ := h
  obtain ⟨m1, m2, m4, m5, -, -⟩ := bigMk_parts hm
  obtain ⟨nm, hnm⟩ : ∃ nm, ndMk b.nodes = nm := ⟨_, rfl⟩
  have HNm := Lib.hid hnm
  have HMk : Hid (bigMk b = nm + b.sites.length + b.outer.length + 2 * b.inner.length) := Lib.hid (by unfold bigMk; rw [hnm])
  have hmm : nm + b.sites.length + b.outer.length + 2 * b.inner.length ≤ 1048576 := by rw [← HMk.out]; exact hm
  have hbx := (Below.refl w.heap.size w).alloc (Nat.le_refl _) (.cells #[.int .i64 b.roots, .slice P.A1 b.nodes.length P.c1, .slice P.A2 b.sites.length P.c2, .int .i64 b.edges, .slice P.A4 b.outer.length P.c4, .slice P.A5 b.inner.length P.c5] 31)
  have HBox : Hid (BoxAt (w.alloc (.cells #[.int .i64 b.roots, .slice P.A1 b.nodes.length P.c1, .slice P.A2 b.sites.length P.c2, .int .i64 b.edges, .slice P.A4 b.outer.length P.c4, .slice P.A5 b.inner.length P.c5] 31)) w.heap.size 31 (.int .i64 b.roots) (.slice P.A1 b.nodes.length P.c1) (.slice P.A2 b.sites.length P.c2) (.int .i64 b.edges) (.slice P.A4 b.outer.length P.c4) (.slice P.A5 b.inner.length P.c5)) := Lib.hid (six_new w _ _ _ _ _ _ _)
  have HN0 := Lib.hid (hN.stay (fun g f m t hr _ _ => hbx.block g hr.lt))
  have H20 := Lib.hid (h2.on hbx)
  have H40 := Lib.hid (h4.on hbx)
  have H50 := Lib.hid (h5.on hbx)
  have HB0 := Lib.hid hbx
  have HAp := Lib.hid hap
  have HAp2 : Hid (∀ j, j < b.nodes.length → P.LA j ≠ none → P.LA j ≠ P.A2) := Lib.hid (fun j hj hn => (HAp.out j hj hn).1)
  have HO0 : Hid (Only lo hi w _) := Lib.hid (Only.of_below hbx)
  clear hN h2 h4 h5 hbx hap hm hnm
  go_enter Tryz.func15, Tryz.ntmps15
  go_wp2_with fail
  refine (markNR_any P b.nodes.length lo hi b.nodes _ _ _ k _ rfl HN0.out HAp.out h0 (by omega) m1).mono ?_
  rw [HNm.out]
  rintro e w1 ⟨rfl, hN1, hc1⟩
  have HBx1 := Lib.hid (show BoxAt w1 _ _ _ _ _ _ _ _ from World.rowIs.of_block HBox.out (hc1.block _ (by simp) (fun e => by have := nodes_in HN0.out e; omega)))
  have HN1 := Lib.hid hN1
  have H21 := Lib.hid (row_nodes H20.out HN0.out (by decide) (.inr HAp2.out) hc1)
  have H41 := Lib.hid (row_nodes H40.out HN0.out (by decide) (.inl (by decide)) hc1)
  have H51 := Lib.hid (row_nodes H50.out HN0.out (by decide) (.inl (by decide)) hc1)
  have HO1 := Lib.hid (HO0.out.trans (hc1.only (fun g _ e => nodes_in HN0.out e)))
  have hz1 : w.heap.size < w1.heap.size := by have := hc1.size; simp at this; omega
  obtain ⟨x0, x1, x2, x3, x4, x5⟩ := HBx1.out.get
  clear hN1 hc1 HN0 H20 H40 H50 HO0 HBox HB0
  go_wp2_with fail
  refine (markIR_any P.A2 b.sites.length P.c2 _ (k + nm) _ lo hi H21.out (by omega) (by omega) m2).mono ?_
  rintro e w2 ⟨rfl, h22, hc2⟩
  have HBx2 := Lib.hid (show BoxAt w2 _ _ _ _ _ _ _ _ from World.rowIs.of_block HBx1.out (hc2.block _ hz1 (fun e => by have := H21.out.in_ e; omega)))
  have HN2 := Lib.hid (nodes_row HN1.out H21.out (by decide) (.inr HAp2.out) hc2)
  have H22 := Lib.hid h22
  have H42 := Lib.hid (row_other H41.out H21.out (by decide) hc2)
  have H52 := Lib.hid (row_other H51.out H21.out (by decide) hc2)
  have HO2 := Lib.hid (HO1.out.trans (hc2.only (fun g _ e => H21.out.in_ e)))
  have hz2 : w.heap.size < w2.heap.size := Nat.lt_of_lt_of_le hz1 hc2.size
  clear x0 x1 x2 x3 x4 x5 h22 hc2 HN1 H21 H41 H51 HO1 HBx1 hz1
  obtain ⟨x0, x1, x2, x3, x4, x5⟩ := HBx2.out.get
  go_wp2_with fail
  refine (markSR_any P.A4 b.outer.length P.c4 _ (k + nm + b.sites.length) _ lo hi H42.out (by omega) (by omega) m4).mono ?_
  rintro e w4 ⟨rfl, h44, hc4⟩
  have HBx4 := Lib.hid (show BoxAt w4 _ _ _ _ _ _ _ _ from World.rowIs.of_block HBx2.out (hc4.block _ hz2 (fun e => by have := H42.out.in_ e; omega)))
  have HN4 := Lib.hid (nodes_row HN2.out H42.out (by decide) (.inl (by decide)) hc4)
  have H24 := Lib.hid (row_other H22.out H42.out (by decide) hc4)
  have H44 := Lib.hid h44
  have H54 := Lib.hid (row_other H52.out H42.out (by decide) hc4)
  have HO4 := Lib.hid (HO2.out.trans (hc4.only (fun g _ e => H42.out.in_ e)))
  have hz4 : w.heap.size < w4.heap.size := Nat.lt_of_lt_of_le hz2 hc4.size
  clear x0 x1 x2 x3 x4 x5 h44 hc4 HN2 H22 H42 H52 HO2 HBx2 hz2
  obtain ⟨x0, x1, x2, x3, x4, x5⟩ := HBx4.out.get
  go_wp2_with fail
  refine (markWR_any P.A5 b.inner.length P.c5 _ (k + nm + b.sites.length + b.outer.length) _ lo hi H54.out (by omega) (by omega) m5).mono ?_
  rintro e w5 ⟨rfl, h55, hc5⟩
  have HN5 := Lib.hid (nodes_row HN4.out H54.out (by decide) (.inl (by decide)) hc5)
  have H25 := Lib.hid (row_other H24.out H54.out (by decide) hc5)
  have H45 := Lib.hid (row_other H44.out H54.out (by decide) hc5)
  have H55 := Lib.hid h55
  have HO5 := Lib.hid (HO4.out.trans (hc5.only (fun g _ e => H54.out.in_ e)))
  clear x0 x1 x2 x3 x4 x5 h55 hc5 HN4 H24 H44 H54 HO4 HBx4 hz4
  go_wp2_with fail
  go_ret
  refine ⟨?_, ⟨P, rfl, HN5.out, ?_, ?_, ?_⟩, HO5.out⟩
  · rw [HMk.out]; go_num
  · rw [HNm.out]; exact H25.out
  · rw [HNm.out]; exact H45.out
  · rw [HNm.out]; exact H55.out

set_option maxRecDepth 20000 in
set_option maxHeartbeats 1600000 in
theorem heldBR_any (v : Value) (b : Big) (k : Int) (w : World) (lo hi : Nat) (h : BigM w lo hi v b k) (h0 : 0 < k) (h1 : k ≤ 2000000) (hm : bigMk b ≤ 1048576) :
    Calls Tryz.prog 16 #[v, .int .i64 k] w fun e w' => e = .returned (.int .i64 (k + bigMk b)) ∧ Below w.heap.size w w' := by
  obtain ⟨P, rfl, hN, h2, h4, h5⟩ := h
  obtain ⟨m1, m2, m4, m5, -, -⟩ := bigMk_parts hm
  obtain ⟨nm, hnm⟩ : ∃ nm, ndMk b.nodes = nm := ⟨_, rfl⟩
  rw [hnm] at h2 h4 h5
  have HNm := Lib.hid hnm
  have HMk : Hid (bigMk b = nm + b.sites.length + b.outer.length + 2 * b.inner.length) := Lib.hid (by unfold bigMk; rw [hnm])
  have hmm : nm + b.sites.length + b.outer.length + 2 * b.inner.length ≤ 1048576 := by rw [← HMk.out]; exact hm
  have hbx := (Below.refl w.heap.size w).alloc (Nat.le_refl _) (.cells #[.int .i64 b.roots, .slice P.A1 b.nodes.length P.c1, .slice P.A2 b.sites.length P.c2, .int .i64 b.edges, .slice P.A4 b.outer.length P.c4, .slice P.A5 b.inner.length P.c5] 31)
  have HBox : Hid (BoxAt (w.alloc (.cells #[.int .i64 b.roots, .slice P.A1 b.nodes.length P.c1, .slice P.A2 b.sites.length P.c2, .int .i64 b.edges, .slice P.A4 b.outer.length P.c4, .slice P.A5 b.inner.length P.c5] 31)) w.heap.size 31 (.int .i64 b.roots) (.slice P.A1 b.nodes.length P.c1) (.slice P.A2 b.sites.length P.c2) (.int .i64 b.edges) (.slice P.A4 b.outer.length P.c4) (.slice P.A5 b.inner.length P.c5)) := Lib.hid (six_new w _ _ _ _ _ _ _)
  obtain ⟨W, hW⟩ : ∃ W, w.alloc (.cells #[.int .i64 b.roots, .slice P.A1 b.nodes.length P.c1, .slice P.A2 b.sites.length P.c2, .int .i64 b.edges, .slice P.A4 b.outer.length P.c4, .slice P.A5 b.inner.length P.c5] 31) = W := ⟨_, rfl⟩
  have hWz : w.heap.size < W.heap.size := by rw [← hW]; simp
  rw [hW] at HBox hbx
  have HWq := Lib.hid hW
  have HN0 := Lib.hid hN
  have H20 := Lib.hid h2
  have H40 := Lib.hid h4
  have H50 := Lib.hid h5
  have HB0 := Lib.hid hbx
  clear hN h2 h4 h5 hbx hm hnm hW
  go_enter Tryz.func16, Tryz.ntmps16
  go_wp2_with fail
  rw [HWq.out]
  refine (heldNR_any P b.nodes.length lo hi b.nodes k _ rfl (HN0.out.stay (fun g f m t hr _ _ => HB0.out.block g hr.lt)) h0 (by omega) m1).mono ?_
  rw [HNm.out]
  rintro e w1 ⟨rfl, hb1⟩
  have hB1 := HB0.out.trans (hb1.mono HB0.out.size)
  have HBx1 := Lib.hid (HBox.out.below hb1 hWz)
  have hz1 : w.heap.size < w1.heap.size := Nat.lt_of_lt_of_le hWz hb1.size
  obtain ⟨x0, x1, x2, x3, x4, x5⟩ := HBx1.out.get
  have g1 : ¬ (k + (nm : Int) < 0) := by omega
  clear hb1
  go_wp2_with fail
  refine (heldIR_any P.A2 b.sites.length P.c2 (k + nm) _ lo hi (H20.out.on hB1) (by omega) (by omega) m2).mono ?_
  rintro e w2 ⟨rfl, hb2⟩
  have hB2 := hB1.trans (hb2.mono hB1.size)
  have HBx2 := Lib.hid (HBx1.out.below hb2 hz1)
  have hz2 : w.heap.size < w2.heap.size := Nat.lt_of_lt_of_le hz1 hb2.size
  clear x0 x1 x2 x3 x4 x5 hb2 hB1
  obtain ⟨x0, x1, x2, x3, x4, x5⟩ := HBx2.out.get
  have g2 : ¬ (k + (nm : Int) + (b.sites.length : Int) < 0) := by omega
  go_wp2_with fail
  refine (heldSR_any P.A4 b.outer.length P.c4 (k + nm + b.sites.length) _ lo hi (H40.out.on hB2) (by omega) (by omega) m4).mono ?_
  rintro e w4 ⟨rfl, hb4⟩
  have hB4 := hB2.trans (hb4.mono hB2.size)
  have HBx4 := Lib.hid (HBx2.out.below hb4 hz2)
  clear x0 x1 x2 x3 x4 x5 hb4 hB2
  obtain ⟨x0, x1, x2, x3, x4, x5⟩ := HBx4.out.get
  have g3 : ¬ (k + (nm : Int) + (b.sites.length : Int) + (b.outer.length : Int) < 0) := by omega
  go_wp2_with fail
  refine (heldWR_any P.A5 b.inner.length P.c5 (k + nm + b.sites.length + b.outer.length) _ lo hi (H50.out.on hB4) (by omega) (by omega) m5).mono ?_
  rintro e w5 ⟨rfl, hb5⟩
  have hB5 := hB4.trans (hb5.mono hB4.size)
  clear x0 x1 x2 x3 x4 x5 hb5 hB4
  have g4 : ¬ (k + (nm : Int) + (b.sites.length : Int) + (b.outer.length : Int) + 2 * (b.inner.length : Int) < 0) := by omega
  go_wp2_with fail
  go_ret
  exact ⟨by rw [HMk.out]; go_num, hB5⟩

theorem eqBR_any (v v' : Value) (b : Big) (w : World) (lo hi lo' hi' : Nat) (h : BigR w lo hi v b) (h' : BigR w lo' hi' v' b) (hh : hi ≤ w.heap.size) (hh' : hi' ≤ w.heap.size) (hm : bigMk b ≤ 1048576) :
    Calls Tryz.prog 10 #[v, v'] w fun e w' => e = .returned (.bool true) ∧ Below w.heap.size w w' := by
  obtain ⟨-, m2, m4, m5, m1, ml⟩ := bigMk_parts hm
  exact eqBL_any v v' b w hi hi' h.at h'.at hh hh' ⟨by unfold maxLen; omega, fun x hx => by have := ml x hx; unfold maxLen; omega, by unfold maxLen; omega, by unfold maxLen; omega⟩ m4
end Go.Proofs.YtlpgldejmdiceabGreat.bw
end

section
namespace Go.Proofs.YtlpgldejmdiceabGreat.lw
open kit bg opn strs only hb sig inn ht marks eqs hc hi hw hn rs br bm bw cf lawb
open Go.RowKit
set_option linter.unusedVariables false

section
variable {w w' : World} {lo hi n c l r : Nat} {A : Option Addr} {cs : List Ctl} {b : Big} {v : Value} {t : TypeId} {v0 v1 v2 v3 v4 v5 : Value} {β : Nat}
theorem _root_.Go.Proofs.YtlpgldejmdiceabGreat.hc.CtlsOwn.blocks (h : CtlsOwn w lo hi A n cs) (hb : ∀ g, lo ≤ g → g < hi → g < w.heap.size → w'.heap[g]? = w.heap[g]?) : CtlsOwn w' lo hi A n cs := by
  obtain ⟨hl, g, f, rfl, h1, h2, hr, hf⟩ := h
  exact ⟨hl, g, f, rfl, h1, h2, hr.of_block (hb g h1 h2 hr.lt), hf⟩
theorem _root_.Go.Proofs.YtlpgldejmdiceabGreat.hc.CtlsOwn.on (h : CtlsOwn w lo hi A n cs) (hb : Below w.heap.size w w') : CtlsOwn w' lo hi A n cs := h.blocks fun g _ _ h3 => hb.block g h3
theorem _root_.Go.Proofs.YtlpgldejmdiceabGreat.hc.CtlsOwn.far (h : CtlsOwn w lo hi A n cs) (ho : Only l r w w') (hr : r ≤ lo ∨ hi ≤ l) : CtlsOwn w' lo hi A n cs := h.blocks fun g h1 h2 h3 => ho.block g h3 (by omega)
theorem _root_.Go.Proofs.YtlpgldejmdiceabGreat.hc.CtlsOwn.here (h : CtlsOwn w lo hi A n cs) : CtlsAt w w.heap.size A n cs := by
  obtain ⟨hl, g, f, rfl, h1, h2, hr, hf⟩ := h
  exact CtlsOwn.at (lo := lo) ⟨hl, g, f, rfl, h1, hr.lt, hr, hf⟩
theorem nds_blocks {A : Option Addr} {cs : List Nd} (h : NdsOwn w lo hi A n cs) (hb : ∀ g, lo ≤ g → g < hi → g < w.heap.size → w'.heap[g]? = w.heap[g]?) : NdsOwn w' lo hi A n cs := by
  obtain ⟨hl, g, f, rfl, h1, h2, hr, hf⟩ := h
  refine ⟨hl, g, f, rfl, h1, h2, hr.of_block (hb g h1 h2 hr.lt), fun k x hk => ?_⟩
  obtain ⟨e0, e1, b, e2, hb1, hb2, hbr⟩ := hf k x hk
  exact ⟨e0, e1, b, e2, hb1, hb2, hbr.of_block (hb b (by omega) hb2 hbr.lt)⟩
theorem wrs_blocks {A : Option Addr} {cs : List Wr} (h : WrsOwn w lo hi A n cs) (hb : ∀ g, lo ≤ g → g < hi → g < w.heap.size → w'.heap[g]? = w.heap[g]?) : WrsOwn w' lo hi A n cs := by
  obtain ⟨hl, g, f, rfl, h1, h2, hr, hf⟩ := h
  exact ⟨hl, g, f, rfl, h1, h2, hr.of_block (hb g h1 h2 hr.lt), hf⟩
theorem _root_.Go.Proofs.YtlpgldejmdiceabGreat.ht.BigOwn.blocks2 (h : BigOwn w lo hi v b) (hb : ∀ g, lo ≤ g → g < hi → g < w.heap.size → w'.heap[g]? = w.heap[g]?) : BigOwn w' lo hi v b := by
  obtain ⟨g1, g2, g4, g5, rfl, h1, ⟨h2, l2, k2⟩, ⟨h4, l4, k4⟩, h5⟩ := h
  exact ⟨_, _, _, _, rfl, nds_blocks h1 hb, ⟨h2.of_block (hb g2 l2 k2 h2.lt), l2, k2⟩, ⟨h4.of_block (hb g4 l4 k4 h4.lt), l4, k4⟩, wrs_blocks h5 hb⟩
theorem _root_.Go.Proofs.YtlpgldejmdiceabGreat.ht.BigOwn.on (h : BigOwn w lo hi v b) (hb : Below w.heap.size w w') : BigOwn w' lo hi v b := h.blocks2 fun g _ _ h3 => hb.block g h3
theorem _root_.Go.Proofs.YtlpgldejmdiceabGreat.ht.BigOwn.far (h : BigOwn w lo hi v b) (ho : Only l r w w') (hr : r ≤ lo ∨ hi ≤ l) : BigOwn w' lo hi v b := h.blocks2 fun g h1 h2 h3 => ho.block g h3 (by omega)
theorem nds_here {A : Option Addr} {cs : List Nd} (h : NdsOwn w lo hi A n cs) : NdsOwn w lo w.heap.size A n cs := by
  obtain ⟨hl, g, f, rfl, h1, h2, hr, hf⟩ := h
  refine ⟨hl, g, f, rfl, h1, hr.lt, hr, fun k x hk => ?_⟩
  obtain ⟨e0, e1, b, e2, hb1, hb2, hbr⟩ := hf k x hk
  exact ⟨e0, e1, b, e2, hb1, hbr.lt, hbr⟩
theorem _root_.Go.Proofs.YtlpgldejmdiceabGreat.ht.BigOwn.here (h : BigOwn w lo hi v b) : BigAt w w.heap.size v b := by
  obtain ⟨g1, g2, g4, g5, rfl, h1, ⟨h2, l2, k2⟩, ⟨h4, l4, k4⟩, h5⟩ := h
  obtain ⟨hl, g, f, e, a1, a2, hr, hf⟩ := h5
  exact BigOwn.at (lo := lo) ⟨g1, g2, g4, g5, rfl, nds_here h1, ⟨h2, l2, h2.lt⟩, ⟨h4, l4, h4.lt⟩, ⟨hl, g, f, e, a1, hr.lt, hr, hf⟩⟩
theorem _root_.Go.Proofs.YtlpgldejmdiceabGreat.cf.BoxAt.on (h : BoxAt w β t v0 v1 v2 v3 v4 v5) (hb : Below w.heap.size w w') : BoxAt w' β t v0 v1 v2 v3 v4 v5 := World.rowIs.of_block h (hb.block β (World.rowIs.lt h))
theorem _root_.Go.Proofs.YtlpgldejmdiceabGreat.cf.BoxAt.far (h : BoxAt w β t v0 v1 v2 v3 v4 v5) (ho : Only l r w w') (hr : r ≤ β ∨ β < l) : BoxAt w' β t v0 v1 v2 v3 v4 v5 := World.rowIs.of_block h (ho.block β (World.rowIs.lt h) (by omega))
end
/-- a slice without memory has no room -/
def NilV (v : Value) : Prop := ∃ a A1 n1 c1 A2 n2 c2 e A4 n4 c4 A5 n5 c5, v = .agg #[a, .slice A1 n1 c1, .slice A2 n2 c2, e, .slice A4 n4 c4, .slice A5 n5 c5] ∧ (A1 = none → c1 = 0) ∧ (A2 = none → c2 = 0) ∧ (A4 = none → c4 = 0) ∧ (A5 = none → c5 = 0)
theorem NilV.get {a e : Value} {A1 A2 A4 A5 : Option Addr} {n1 c1 n2 c2 n4 c4 n5 c5 : Nat} (h : NilV (.agg #[a, .slice A1 n1 c1, .slice A2 n2 c2, e, .slice A4 n4 c4, .slice A5 n5 c5])) : (A1 = none → c1 = 0) ∧ (A2 = none → c2 = 0) ∧ (A4 = none → c4 = 0) ∧ (A5 = none → c5 = 0) := by
  obtain ⟨a', A1', n1', c1', A2', n2', c2', e', A4', n4', c4', A5', n5', c5', h, h1, h2, h4, h5⟩ := h
  injection h with h
  simp at h
  obtain ⟨-, ⟨rfl, -, rfl⟩, ⟨rfl, -, rfl⟩, -, ⟨rfl, -, rfl⟩, ⟨rfl, -, rfl⟩⟩ := h
  exact ⟨h1, h2, h4, h5⟩
theorem NilV.of_own {w : World} {lo hi : Nat} {v : Value} {b : Big} (h : BigOwn w lo hi v b) : NilV v := by
  obtain ⟨g1, g2, g4, g5, rfl, -⟩ := h
  exact ⟨_, _, _, _, _, _, _, _, _, _, _, _, _, _, rfl, (fun e => by cases e), (fun e => by cases e), (fun e => by cases e), (fun e => by cases e)⟩
/-- how a result looks -/
theorem _root_.Go.Proofs.YtlpgldejmdiceabGreat.br.BigR.shape {w : World} {lo hi : Nat} {v : Value} {b : Big} (h : BigR w lo hi v b) : ∃ B1 d1 B2 d2 B4 d4 B5 d5, v = .agg #[.int .i64 b.roots, .slice B1 b.nodes.length d1, .slice B2 b.sites.length d2, .int .i64 b.edges, .slice B4 b.outer.length d4, .slice B5 b.inner.length d5] := by
  obtain ⟨P, rfl, -⟩ := h
  exact ⟨_, _, _, _, _, _, _, _, rfl⟩
theorem _root_.Go.Proofs.YtlpgldejmdiceabGreat.br.BigR.here {w : World} {lo hi : Nat} {v : Value} {b : Big} (h : BigR w lo hi v b) : BigR w lo w.heap.size v b := by
  have hh : ∀ {t sz A n c M}, RowR w lo hi t sz A n c M → RowR w lo w.heap.size t sz A n c M := fun h => h.imp id fun ⟨g, f, e, h1, h2, h3, h4, h5⟩ => ⟨g, f, e, h1, h4.lt, h3, h4, h5⟩
  obtain ⟨P, rfl, ha, h1, h2, h4, h5⟩ := h
  exact ⟨P, rfl, ha, ⟨hh h1.1, fun k hk => hh (h1.2 k hk)⟩, hh h2, hh h4, hh h5⟩

/-! ### copies of lists -/
theorem rowR_here {w : World} {lo hi : Nat} {t : TypeId} {sz : Nat} {A : Option Addr} {n c : Nat} {M : Nat → Value} (h : RowR w lo hi t sz A n c M) : RowR w lo w.heap.size t sz A n c M := h.imp id fun ⟨g, f, e, h1, h2, h3, h4, h5⟩ => ⟨g, f, e, h1, h4.lt, h3, h4, h5⟩
theorem toIR_any (A : Option Addr) (n c : Nat) (zs : List Int) (w : World) (h : IntsAt w w.heap.size A n zs) (hn : n ≤ 1048576) :
    Calls Tryz.prog 57 #[.slice A n c] w fun e w' => ∃ g, e = .returned (.slice (some ⟨g, 0, none⟩) zs.length zs.length) ∧ RowR w' w.heap.size w'.heap.size 3 1 (some ⟨g, 0, none⟩) zs.length zs.length (iat zs) ∧ Below w.heap.size w w' := by
  obtain rfl := h.len
  exact (toIS_ex A _ c zs w h hn).mono fun e w' ⟨g, he, h1, h2, h3, h4⟩ => ⟨g, he, RowR.mk h1 h2 (Nat.le_refl _) (by rw [Nat.mul_one]; exact h3) (fun _ _ => rfl), h4⟩
theorem toSR_any (A : Option Addr) (n c : Nat) (ss : List ByteArray) (w : World) (h : SR w w.heap.size A n (ss.map Value.string)) (hn : n ≤ 1048576) :
    Calls Tryz.prog 58 #[.slice A n c] w fun e w' => ∃ g, e = .returned (.slice (some ⟨g, 0, none⟩) ss.length ss.length) ∧ RowR w' w.heap.size w'.heap.size 9 1 (some ⟨g, 0, none⟩) ss.length ss.length (at_ ss) ∧ Below w.heap.size w w' := by
  obtain rfl := h.strlen
  exact (to_any A _ c ss w h hn).mono fun e w' ⟨g, he, h1, h2, h3, h4⟩ => ⟨g, he, RowR.mk h1 h2 (Nat.le_refl _) (by rw [Nat.mul_one]; exact h3) (fun _ _ => rfl), h4⟩
theorem eqIR_any (A A' : Option Addr) (c c' : Nat) (zs : List Int) (w : World) (lo hi lo' hi' : Nat) (h : RowR w lo hi 3 1 A zs.length c (iat zs)) (h' : RowR w lo' hi' 3 1 A' zs.length c' (iat zs)) (hn : zs.length ≤ 1048576) :
    Calls Tryz.prog 29 #[.slice A zs.length c, .slice A' zs.length c'] w fun e w' => e = .returned (.bool true) ∧ Below w.heap.size w w' :=
  (eqIS_any A A' _ c c' zs w _ _ (intsR_at h) (intsR_at h') (by unfold maxLen; omega)).mono fun _ _ ⟨a, d⟩ => ⟨a, d.below _⟩
theorem eqSR_any (A A' : Option Addr) (c c' : Nat) (ss : List ByteArray) (w : World) (lo hi lo' hi' : Nat) (h : RowR w lo hi 9 1 A ss.length c (at_ ss)) (h' : RowR w lo' hi' 9 1 A' ss.length c' (at_ ss)) (hn : ss.length ≤ 1048576) :
    Calls Tryz.prog 30 #[.slice A ss.length c, .slice A' ss.length c'] w fun e w' => e = .returned (.bool true) ∧ Below w.heap.size w w' :=
  (eq_any A A' _ c c' ss w _ _ (strsR_at h) (strsR_at h') hn).mono fun _ _ ⟨a, d⟩ => ⟨a, d.below _⟩
theorem markIO_any (A : Option Addr) (n c : Nat) (M : Nat → Value) (k : Int) (w : World) (lo hi : Nat) (h : RowR w lo hi 3 1 A n c M) (h0 : 0 < k) (h1 : k ≤ 8000000) (hn : n ≤ 1048576) :
    Calls Tryz.prog 35 #[.slice A n c, .int .i64 k] w fun e w' => e = .returned (.int .i64 (k + n)) ∧ Only lo hi w w' :=
  (markIR_any A n c M k w lo hi h h0 h1 hn).mono fun _ _ ⟨a, _, d⟩ => ⟨a, d.only (fun g _ e => h.in_ e)⟩
theorem markSO_any (A : Option Addr) (n c : Nat) (M : Nat → Value) (k : Int) (w : World) (lo hi : Nat) (h : RowR w lo hi 9 1 A n c M) (h0 : 0 < k) (h1 : k ≤ 8000000) (hn : n ≤ 1048576) :
    Calls Tryz.prog 36 #[.slice A n c, .int .i64 k] w fun e w' => e = .returned (.int .i64 (k + n)) ∧ Only lo hi w w' :=
  (markSR_any A n c M k w lo hi h h0 h1 hn).mono fun _ _ ⟨a, _, d⟩ => ⟨a, d.only (fun g _ e => h.in_ e)⟩
theorem markCO_any (A : Option Addr) (n c : Nat) (cs : List Ctl) (k : Int) (w : World) (lo hi : Nat) (h : CtlsOwn w lo hi A n cs) (h0 : 0 < k) (h1 : k ≤ 8000000) (hn : n ≤ 1048576) :
    Calls Tryz.prog 13 #[.slice A n c, .int .i64 k] w fun e w' => e = .returned (.int .i64 (k + 3 * n)) ∧ Only lo hi w w' := by
  obtain ⟨g, f, rfl, a1, a2, a3⟩ := h.rows
  exact markCS_any g n c f k w lo hi a3 a1 a2 h0 h1 hn

/-! ### a result that is put into a variable of the law's own -/
def sets6 (X : World) (β : Nat) (a b c d e f : Value) : World := (((((X.setCell ⟨β, 0, none⟩ a).setCell ⟨β, 1, none⟩ b).setCell ⟨β, 2, none⟩ c).setCell ⟨β, 3, none⟩ d).setCell ⟨β, 4, none⟩ e).setCell ⟨β, 5, none⟩ f
theorem sets6_box {X : World} {β : Nat} {t : TypeId} {g : Nat → Value} (h : X.rowIs β t 6 g) (a b c d e f : Value) : BoxAt (sets6 X β a b c d e f) β t a b c d e f := by
  have h6 : (sets6 X β a b c d e f).rowIs β t 6 _ := World.rowIs.set (World.rowIs.set (World.rowIs.set (World.rowIs.set (World.rowIs.set (World.rowIs.set h 0 a) 1 b) 2 c) 3 d) 4 e) 5 f
  unfold BoxAt
  refine h6.congr ?_
  intro i hi
  match i, hi with
  | 0, _ => rfl
  | 1, _ => rfl
  | 2, _ => rfl
  | 3, _ => rfl
  | 4, _ => rfl
  | 5, _ => rfl
theorem sets6_block {X : World} {β g : Nat} (a b c d e f : Value) (h : g ≠ β) : (sets6 X β a b c d e f).heap[g]? = X.heap[g]? := by
  unfold sets6
  rw [Below.heap_setCell _ _ _ _ h, Below.heap_setCell _ _ _ _ h, Below.heap_setCell _ _ _ _ h, Below.heap_setCell _ _ _ _ h, Below.heap_setCell _ _ _ _ h, Below.heap_setCell _ _ _ _ h]
theorem sets6_big {X : World} {β lo hi : Nat} {g : Nat → Value} {v : Value} {r : Big} (h : X.rowIs β 31 6 g) (hr : BigR X lo hi v r) (a b c d e f : Value) : BigR (sets6 X β a b c d e f) lo hi v r := by
  obtain ⟨P, rfl, ha, h1, h2, h4, h5⟩ := hr
  have no : ∀ {t sz A n c' M}, RowR X lo hi t sz A n c' M → t ≠ 31 → RowR (sets6 X β a b c d e f) lo hi t sz A n c' M := fun hR ht => by
    rcases hR with h0 | ⟨g2, f2, e2, k1, k2, k3, k4, k5⟩
    · exact .inl h0
    · exact .inr ⟨g2, f2, e2, k1, k2, k3, k4.of_block (sets6_block _ _ _ _ _ _ (fun e => by subst e; exact ht (rowIs_uniq k4 h).1)), k5⟩
  exact ⟨P, rfl, ha, ⟨no h1.1 (by decide), fun k hk => no (h1.2 k hk) (by decide)⟩, no h2 (by decide), no h4 (by decide), no h5 (by decide)⟩
theorem sets6_below {X w2 : World} {β B : Nat} (hb : Below B w2 X) (hβ : B ≤ β) (a b c d e f : Value) : Below B w2 (sets6 X β a b c d e f) :=
  (((((hb.setCell (p := ⟨β, 0, none⟩) hβ a).setCell (p := ⟨β, 1, none⟩) hβ b).setCell (p := ⟨β, 2, none⟩) hβ c).setCell (p := ⟨β, 3, none⟩) hβ d).setCell (p := ⟨β, 4, none⟩) hβ e).setCell (p := ⟨β, 5, none⟩) hβ f
theorem sets6_size (X : World) (β : Nat) (a b c d e f : Value) : (sets6 X β a b c d e f).heap.size = X.heap.size := by simp [sets6, World.setCell]
/-- what a variable holds that a result was put into -/
def GotBox (w2 : World) (q : Bool) (r : Big) (s6 s7 : Value) (wx : World) : Prop :=
  ∃ β B1 d1 B2 d2 B4 d4 B5 d5, s6 = .pointer (some ⟨β, 0, none⟩) ∧ s7 = .bool q ∧ w2.heap.size ≤ β ∧ BoxAt wx β 31 (.int .i64 r.roots) (.slice B1 r.nodes.length d1) (.slice B2 r.sites.length d2) (.int .i64 r.edges) (.slice B4 r.outer.length d4) (.slice B5 r.inner.length d5) ∧
    BigR wx w2.heap.size wx.heap.size (.agg #[.int .i64 r.roots, .slice B1 r.nodes.length d1, .slice B2 r.sites.length d2, .int .i64 r.edges, .slice B4 r.outer.length d4, .slice B5 r.inner.length d5]) r ∧ Below w2.heap.size w2 wx
theorem got_early {w2 X : World} {β : Nat} {g : Nat → Value} {r : Big} {B1 B2 B4 B5 : Option Addr} {d1 d2 d4 d5 lo hi : Nat} (q : Bool) (h : X.rowIs β 31 6 g) (hβ : w2.heap.size ≤ β)
    (hr : BigR X lo hi (.agg #[.int .i64 r.roots, .slice B1 r.nodes.length d1, .slice B2 r.sites.length d2, .int .i64 r.edges, .slice B4 r.outer.length d4, .slice B5 r.inner.length d5]) r) (hlo : w2.heap.size ≤ lo) (hk : Below w2.heap.size w2 X) :
    GotBox w2 q r (.pointer (some ⟨β, 0, none⟩)) (.bool q) ((((((X.setCell ⟨β, 0, none⟩ (.int .i64 r.roots)).setCell ⟨β, 1, none⟩ (.slice B1 r.nodes.length d1)).setCell ⟨β, 2, none⟩ (.slice B2 r.sites.length d2)).setCell ⟨β, 3, none⟩ (.int .i64 r.edges)).setCell ⟨β, 4, none⟩ (.slice B4 r.outer.length d4)).setCell ⟨β, 5, none⟩ (.slice B5 r.inner.length d5)) :=
  show GotBox w2 q r (.pointer (some ⟨β, 0, none⟩)) (.bool q) (sets6 X β (.int .i64 r.roots) (.slice B1 r.nodes.length d1) (.slice B2 r.sites.length d2) (.int .i64 r.edges) (.slice B4 r.outer.length d4) (.slice B5 r.inner.length d5)) from
  ⟨β, B1, d1, B2, d2, B4, d4, B5, d5, rfl, rfl, hβ, sets6_box h _ _ _ _ _ _, ((sets6_big h hr _ _ _ _ _ _).here).wide hlo (Nat.le_refl _), sets6_below hk hβ _ _ _ _ _ _⟩
theorem got_late {w2 X : World} {r : Big} {B1 B2 B4 B5 : Option Addr} {d1 d2 d4 d5 lo hi : Nat} (q : Bool)
    (hr : BigR X lo hi (.agg #[.int .i64 r.roots, .slice B1 r.nodes.length d1, .slice B2 r.sites.length d2, .int .i64 r.edges, .slice B4 r.outer.length d4, .slice B5 r.inner.length d5]) r) (hlo : w2.heap.size ≤ lo) (hk : Below w2.heap.size w2 X) :
    GotBox w2 q r (.pointer (some ⟨X.heap.size, 0, none⟩)) (.bool q) (X.alloc (.cells #[.int .i64 r.roots, .slice B1 r.nodes.length d1, .slice B2 r.sites.length d2, .int .i64 r.edges, .slice B4 r.outer.length d4, .slice B5 r.inner.length d5] 31)) :=
  ⟨X.heap.size, B1, d1, B2, d2, B4, d4, B5, d5, rfl, rfl, hk.size, six_new X _ _ _ _ _ _ _, ((hr.on ((Below.refl _ _).alloc (Nat.le_refl _) _)).here).wide hlo (Nat.le_refl _), hk.alloc hk.size _⟩
end Go.Proofs.YtlpgldejmdiceabGreat.lw
end

section
namespace Go.Proofs.YtlpgldejmdiceabGreat.cl
open kit bg opn strs only hb sig inn ht marks eqs hc hi hw hn rs br bm bw
open Go.RowKit
set_option linter.unusedVariables false

theorem rowR_owns {w : World} {lo sz n : Nat} {e : TypeId} {v : Value} {xs : List Value} (h : w.ownsRow lo e sz v n xs) : ∃ A c, v = .slice A n c ∧ RowR w lo w.heap.size e sz A n c (fun x => (xs[x]?).getD undef) := by
  obtain ⟨h1, ⟨rfl, rfl⟩ | ⟨g, cap, cur, rfl, hb, hh, hc, hm, hs, ht⟩⟩ := h
  · exact ⟨_, _, rfl, RowR.nil⟩
  · have hrow : w.rowIs g e (cap * sz) (fun i => (cur[i]?).getD undef) := ⟨cur, hh, hs, fun i hi => by
      show cur[i]? = some ((cur[i]?).getD undef)
      rw [Array.getElem?_eq_getElem (show i < cur.size by omega)]; rfl⟩
    refine ⟨_, _, rfl, RowR.mk hb hrow.lt hc hrow (fun x hx => ?_)⟩
    show (cur[x]?).getD undef = (xs[x]?).getD undef
    rw [← ht, List.getElem?_take_of_lt hx]
    simp
theorem ownsRow_nil_new (w : World) (e : TypeId) (sz : Nat) (B : Nat) (hB : B ≤ w.heap.size) : (w.alloc (.cells #[] e)).ownsRow B e sz (.slice (some ⟨w.heap.size, 0, none⟩) 0 0) 0 [] :=
  World.ownsRow_made (base := B) (e := e) (size := sz) w #[] 0 hB (by unfold maxLen; omega) (by simp)
/-- the cells of Wires, in a list -/
def wcs (ws : List Wr) : List Value := ws.flatMap fun y => [.string y.name, .int .i64 y.link]
theorem wcs_len (ws : List Wr) : (wcs ws).length = ws.length * 2 := by
  induction ws with
  | nil => rfl
  | cons y ws ih =>
    have e : wcs (y :: ws) = .string y.name :: .int .i64 y.link :: wcs ws := rfl
    rw [e]; simp; omega
theorem wcs_snoc (ws : List Wr) (y : Wr) : wcs (ws ++ [y]) = wcs ws ++ [.string y.name, .int .i64 y.link] := by unfold wcs; rw [List.flatMap_append]; simp
theorem wcs_get : ∀ {ws : List Wr} {k : Nat} {y : Wr}, ws[k]? = some y → (wcs ws)[k * 2]? = some (.string y.name) ∧ (wcs ws)[k * 2 + 1]? = some (.int .i64 y.link)
  | [], k, y, h => by simp at h
  | q :: ws, 0, y, h => by
    simp at h
    subst h
    exact ⟨rfl, rfl⟩
  | q :: ws, k + 1, y, h => by
    have ih := wcs_get (ws := ws) (k := k) (y := y) (by simpa using h)
    have e : wcs (q :: ws) = .string q.name :: .int .i64 q.link :: wcs ws := rfl
    rw [e, show (k + 1) * 2 = k * 2 + 1 + 1 by omega]
    exact ⟨by simpa using ih.1, by simpa using ih.2⟩
theorem wcs_wic {ws : List Wr} {x : Nat} (h : x < ws.length * 2) : ((wcs ws)[x]?).getD undef = wic ws x := by
  have hk : ws[x / 2]? = some (ws[x / 2]'(by omega)) := List.getElem?_eq_getElem _
  obtain ⟨a, b⟩ := wcs_get hk
  obtain ⟨c, d⟩ := wic_at hk
  have hm : x % 2 = 0 ∨ x % 2 = 1 := by omega
  rcases hm with e | e
  · rw [show x / 2 * 2 = x by omega] at a c; rw [a, c]; rfl
  · rw [show x / 2 * 2 + 1 = x by omega] at b d; rw [b, d]; rfl
theorem add_none (b off j : Nat) : (⟨b, off, none⟩ : Addr).add j = ⟨b, off + j, none⟩ := by unfold Addr.add; split <;> simp_all
theorem wcs_cells {w : World} {B n : Nat} {A : Addr} {ws : List Wr} (h : WrsAt w B (some A) n ws) : ∀ (j : Nat) u, (wcs ws)[j]? = some u → w.cell? (A.add j) = some u := by
  intro j u hu
  have hj : j < ws.length * 2 := by have := (List.getElem?_eq_some_iff.1 hu).1; rw [wcs_len] at this; exact this
  obtain ⟨b, off, e, hb, hc⟩ := h.2 (by have := h.1; omega)
  injection e with e
  subst e
  have hk : ws[j / 2]? = some (ws[j / 2]'(by omega)) := List.getElem?_eq_getElem _
  obtain ⟨a1, a2⟩ := wcs_get hk
  obtain ⟨c1, c2⟩ := hc _ _ hk
  rw [add_none]
  have hm : j % 2 = 0 ∨ j % 2 = 1 := by omega
  rcases hm with e | e
  · rw [show j / 2 * 2 = j by omega] at a1 c1; rw [c1, ← hu, a1]
  · rw [show j / 2 * 2 + 1 = j by omega] at a2; rw [show off + j / 2 * 2 + 1 = off + j by omega] at c2; rw [c2, ← hu, a2]
theorem wcs_one (ws : List Wr) : ∀ u ∈ wcs ws, u.oneCell' = true := by
  intro u hu
  unfold wcs at hu
  obtain ⟨y, hy, h⟩ := List.mem_flatMap.1 hu
  simp at h
  rcases h with rfl | rfl <;> rfl
theorem sr_cells {w : World} {B n : Nat} {A : Addr} {xs : List Value} (h : SR w B (some A) n xs) : ∀ (j : Nat) u, xs[j]? = some u → w.cell? (A.add j) = some u := by
  intro j u hu
  have hj := (List.getElem?_eq_some_iff.1 hu).1
  obtain ⟨b, off, e, hb, hc⟩ := h.2 (by have := h.1; omega)
  injection e with e
  subst e
  rw [add_none]
  exact hc j u hu

set_option maxRecDepth 20000 in
set_option maxHeartbeats 800000 in
theorem cloneS_any (A : Option Addr) (n c : Nat) (xs : List ByteArray) (w : World) (h : SR w w.heap.size A n (xs.map Value.string)) (hn : n ≤ 1048576) (h0 : A = none → c = 0) :
    Calls Tryz.prog 114 #[.slice A n c] w fun e w' => ∃ A' c', e = .returned (.slice A' n c') ∧ RowR w' w.heap.size w'.heap.size 9 1 A' n c' (at_ xs) ∧ (A' = none → c' = 0) ∧ Below w.heap.size w w' := by
  obtain ⟨i0, hi, hz0, hz1, hz2⟩ := info_parts str_info
  have hln : xs.length = n := h.strlen
  have hq0 := fun w => Lib.run_eql_slice_nil (P := Tryz.prog) w 28 9 A n c 0 0 Tryz.underlying28
  cases A with
  | none =>
    simp only [Option.isNone_none] at hq0
    obtain rfl : c = 0 := h0 rfl
    obtain rfl : n = 0 := by
      by_cases e : n = 0
      · exact e
      · obtain ⟨b, off, e2, _⟩ := h.2 (by omega)
        cases e2
    go_enter Tryz.func114, Tryz.ntmps114
    go_wp2_with fail
    go_ret
    exact ⟨none, 0, rfl, RowR.nil, fun _ => rfl, Below.refl _ _⟩
  | some A =>
    simp only [Option.isNone_some] at hq0
    have hown := ownsRow_nil_new w 9 1 w.heap.size (Nat.le_refl _)
    have hB := (Below.refl w.heap.size w).alloc (Nat.le_refl _) (.cells #[] 9)
    have hce : ∀ (j : Nat) u, (xs.map Value.string)[j]? = some u → (w.alloc (.cells #[] 9)).cell? (A.add j) = some u := fun j u hu => (hB.cell (p := A.add j) (by
      obtain ⟨b, off, e, hb, _⟩ := h.2 (by have := (List.getElem?_eq_some_iff.1 hu).1; have := h.1; omega)
      injection e with e; subst e; rw [add_none]; exact hb)).trans (sr_cells h j u hu)
    go_enter Tryz.func114, Tryz.ntmps114
    go_wp2_with (at_builtin; refine wpList_append_own _ rfl _ _ 28 rfl w.heap.size 9 i0 (.string ⟨#[]⟩) 1 16 Tryz.underlying28 hi hz0 hz1 hz2 rfl (by decide) _ _ _ rfl hown A n c (xs.map Value.string) rfl (by simp [hln]) hce (fun u hu => by obtain ⟨s, _, rfl⟩ := List.mem_map.1 hu; rfl) (by unfold maxLen; omega) (by omega) (by simp) ?_; intro v1 w3 hown1 hgrow1 hnil1)
    rw [Nat.zero_add, List.nil_append] at hown1
    have hb3 : Below w.heap.size w w3 := hB.grown hgrow1 (by simp) (fun j hj => (hown.lt j hj).1)
    obtain ⟨A', c', rfl, hR⟩ := rowR_owns hown1
    have HR := Lib.hid (hR.congr (M' := at_ xs) (fun x hx => by
      have hx2 : x < xs.length := by omega
      have : xs[x]? = some xs[x] := List.getElem?_eq_getElem hx2
      rw [List.getElem?_map, this, at_of this]; rfl))
    have HN : Hid (A' = none → c' = 0) := Lib.hid (by
      rintro rfl
      rcases hown1.2 with ⟨e, _⟩ | ⟨g, cap, cur, e, _⟩
      · injection e
      · injection e with e; cases e)
    clear hown1 hgrow1 hnil1 hR hce hown
    go_wp2_with fail
    go_ret
    exact ⟨A', c', rfl, HR.out, HN.out, hb3⟩

set_option maxRecDepth 20000 in
set_option maxHeartbeats 800000 in
theorem cloneI_any (A : Option Addr) (n c : Nat) (xs : List Int) (w : World) (h : IntsAt w w.heap.size A n xs) (hn : n ≤ 1048576) (h0 : A = none → c = 0) :
    Calls Tryz.prog 130 #[.slice A n c] w fun e w' => ∃ A' c', e = .returned (.slice A' n c') ∧ RowR w' w.heap.size w'.heap.size 3 1 A' n c' (iat xs) ∧ (A' = none → c' = 0) ∧ Below w.heap.size w w' := by
  obtain ⟨i0, hi, hz0, hz1, hz2⟩ := info_parts int_info
  have hln : xs.length = n := h.len
  have hq0 := fun w => Lib.run_eql_slice_nil (P := Tryz.prog) w 27 3 A n c 0 0 Tryz.underlying27
  cases A with
  | none =>
    simp only [Option.isNone_none] at hq0
    obtain rfl : c = 0 := h0 rfl
    obtain rfl : n = 0 := by
      by_cases e : n = 0
      · exact e
      · obtain ⟨b, off, e2, _⟩ := h.2 (by omega)
        cases e2
    go_enter Tryz.func130, Tryz.ntmps130
    go_wp2_with fail
    go_ret
    exact ⟨none, 0, rfl, RowR.nil, fun _ => rfl, Below.refl _ _⟩
  | some A =>
    simp only [Option.isNone_some] at hq0
    have hown := ownsRow_nil_new w 3 1 w.heap.size (Nat.le_refl _)
    have hB := (Below.refl w.heap.size w).alloc (Nat.le_refl _) (.cells #[] 3)
    have hce : ∀ (j : Nat) u, (xs.map (Value.int .i64))[j]? = some u → (w.alloc (.cells #[] 3)).cell? (A.add j) = some u := fun j u hu => (hB.cell (p := A.add j) (by
      obtain ⟨b, off, e, hb, _⟩ := h.2 (by have := (List.getElem?_eq_some_iff.1 hu).1; have := h.1; omega)
      injection e with e; subst e; rw [add_none]; exact hb)).trans (sr_cells h j u hu)
    go_enter Tryz.func130, Tryz.ntmps130
    go_wp2_with (at_builtin; refine wpList_append_own _ rfl _ _ 27 rfl w.heap.size 3 i0 (.int .i64 0) 1 8 Tryz.underlying27 hi hz0 hz1 hz2 rfl (by decide) _ _ _ rfl hown A n c (xs.map (Value.int .i64)) rfl (by simp [hln]) hce (fun u hu => by obtain ⟨s, _, rfl⟩ := List.mem_map.1 hu; rfl) (by unfold maxLen; omega) (by omega) (by simp) ?_; intro v1 w3 hown1 hgrow1 hnil1)
    rw [Nat.zero_add, List.nil_append] at hown1
    have hb3 : Below w.heap.size w w3 := hB.grown hgrow1 (by simp) (fun j hj => (hown.lt j hj).1)
    obtain ⟨A', c', rfl, hR⟩ := rowR_owns hown1
    have HR := Lib.hid (hR.congr (M' := iat xs) (fun x hx => by
      have hx2 : x < xs.length := by omega
      have : xs[x]? = some xs[x] := List.getElem?_eq_getElem hx2
      rw [List.getElem?_map, this, iat_of this]; rfl))
    have HN : Hid (A' = none → c' = 0) := Lib.hid (by
      rintro rfl
      rcases hown1.2 with ⟨e, _⟩ | ⟨g, cap, cur, e, _⟩
      · injection e
      · injection e with e; cases e)
    clear hown1 hgrow1 hnil1 hR hce hown
    go_wp2_with fail
    go_ret
    exact ⟨A', c', rfl, HR.out, HN.out, hb3⟩

set_option maxRecDepth 20000 in
set_option maxHeartbeats 800000 in
theorem cloneW_any (A : Option Addr) (n c : Nat) (xs : List Wr) (w : World) (h : WrsAt w w.heap.size A n xs) (hn : n ≤ 1048576) (h0 : A = none → c = 0) :
    Calls Tryz.prog 131 #[.slice A n c] w fun e w' => ∃ A' c', e = .returned (.slice A' n c') ∧ RowR w' w.heap.size w'.heap.size 80 2 A' n c' (wic xs) ∧ (A' = none → c' = 0) ∧ Below w.heap.size w w' := by
  obtain ⟨i0, hi, hz0, hz1, hz2⟩ := info_parts wire_info
  have hln : xs.length = n := h.1
  have hq0 := fun w => Lib.run_eql_slice_nil (P := Tryz.prog) w 29 80 A n c 0 0 Tryz.underlying29
  cases A with
  | none =>
    simp only [Option.isNone_none] at hq0
    obtain rfl : c = 0 := h0 rfl
    obtain rfl : n = 0 := by
      by_cases e : n = 0
      · exact e
      · obtain ⟨b, off, e2, _⟩ := h.2 (by omega)
        cases e2
    go_enter Tryz.func131, Tryz.ntmps131
    go_wp2_with fail
    go_ret
    exact ⟨none, 0, rfl, RowR.nil, fun _ => rfl, Below.refl _ _⟩
  | some A =>
    simp only [Option.isNone_some] at hq0
    have hown := ownsRow_nil_new w 80 2 w.heap.size (Nat.le_refl _)
    have hB := (Below.refl w.heap.size w).alloc (Nat.le_refl _) (.cells #[] 80)
    have hce : ∀ (j : Nat) u, (wcs xs)[j]? = some u → (w.alloc (.cells #[] 80)).cell? (A.add j) = some u := fun j u hu => (hB.cell (p := A.add j) (by
      obtain ⟨b, off, e, hb, _⟩ := h.2 (by have := (List.getElem?_eq_some_iff.1 hu).1; rw [wcs_len] at this; omega)
      injection e with e; subst e; rw [add_none]; exact hb)).trans (wcs_cells h j u hu)
    go_enter Tryz.func131, Tryz.ntmps131
    go_wp2_with (at_builtin; refine wpList_append_own _ rfl _ _ 29 rfl w.heap.size 80 i0 (.agg #[.string ⟨#[]⟩, .int .i64 0]) 2 24 Tryz.underlying29 hi hz0 hz1 hz2 rfl (by decide) _ _ _ rfl hown A n c (wcs xs) rfl (by rw [wcs_len, hln]) hce (wcs_one xs) (by unfold maxLen; omega) (by omega) (by simp) ?_; intro v1 w3 hown1 hgrow1 hnil1)
    rw [Nat.zero_add, List.nil_append] at hown1
    have hb3 : Below w.heap.size w w3 := hB.grown hgrow1 (by simp) (fun j hj => (hown.lt j hj).1)
    obtain ⟨A', c', rfl, hR⟩ := rowR_owns hown1
    have HR := Lib.hid (hR.congr (M' := wic xs) (fun x hx => wcs_wic (by omega)))
    have HN : Hid (A' = none → c' = 0) := Lib.hid (by
      rintro rfl
      rcases hown1.2 with ⟨e, _⟩ | ⟨g, cap, cur, e, _⟩
      · injection e
      · injection e with e; cases e)
    clear hown1 hgrow1 hnil1 hR hce hown
    go_wp2_with fail
    go_ret
    exact ⟨A', c', rfl, HR.out, HN.out, hb3⟩

end Go.Proofs.YtlpgldejmdiceabGreat.cl
end

section
namespace Go.Proofs.YtlpgldejmdiceabGreat.facts
theorem heard : Tryz.checked.prog.stopsHeard = true := by kernel_rfl
theorem enter : Tryz.checked.prog.mayEnter = true := by kernel_rfl
theorem lifts : Tryz.checked.prog.liftsFinal = false := by kernel_rfl
theorem laid : laidOutB Tryz.checked.prog = true := by kernel_rfl
theorem maps : mapsRowed Tryz.checked.prog = true := by kernel_rfl
theorem make : Tryz.checked.prog.make = some .cut := by kernel_rfl
theorem keys : Tryz.checked.prog.plainKeys = true := by kernel_rfl
end Go.Proofs.YtlpgldejmdiceabGreat.facts
end

section
namespace Go.Proofs.YtlpgldejmdiceabGreat.has
open kit bg hi sig
open Go.RowKit
set_option linter.unusedVariables false

/-- whether a number is in a list -/
def hasB (zs : List Int) (z : Int) : Bool := decide (z ∈ zs)
theorem has_yes {zs : List Int} {z : Int} {k : Nat} (h : zs[k]? = some z) : hasB zs z = true := decide_eq_true (List.mem_of_getElem? h)
theorem has_no {zs : List Int} {z : Int} {n : Nat} (hn : zs.length = n) (h : ∀ (j : Nat) u, j < n → zs[j]? = some u → u ≠ z) : hasB zs z = false := decide_eq_false fun hm => by
  obtain ⟨j, hj⟩ := List.getElem?_of_mem hm
  exact h j z (by have := (List.getElem?_eq_some_iff.1 hj).1; omega) hj rfl

/-- what Index gives -/
def IxPost (zs : List Int) (z : Int) (w : World) (e : Ending) (w' : World) : Prop := ∃ r : Int, e = .returned (.int .i64 r) ∧ (decide (r ≥ 0)) = hasB zs z ∧ w = w'
end Go.Proofs.YtlpgldejmdiceabGreat.has
end

section
namespace Go.Proofs.YtlpgldejmdiceabGreat.abv
open kit bg opn strs only hb sig isig gd inn ht hi cf ib rs
open Go.RowKit
set_option linter.unusedVariables false

/-- the parents from a node up, at most so many -/
def abv (ns : List Nd) : Nat → Int → List Int
  | 0, _ => []
  | f + 1, k => if k < 0 then [] else match ns[k.toNat]? with
    | some x => x.parent :: abv ns f x.parent
    | none => []
theorem abv_neg {ns : List Nd} {f : Nat} {k : Int} (h : k < 0) : abv ns f k = [] := by
  cases f with
  | zero => rfl
  | succ f => unfold abv; rw [if_pos h]
theorem abv_step {ns : List Nd} {f k : Nat} {x : Nd} (h : ns[k]? = some x) : abv ns (f + 1) (k : Int) = x.parent :: abv ns f x.parent := by
  rw [abv, if_neg (by omega)]
  simp only [Int.toNat_natCast, h]
theorem abv_len (ns : List Nd) : ∀ (f : Nat) (k : Int), (abv ns f k).length ≤ f
  | 0, _ => Nat.le_refl _
  | f + 1, k => by
    unfold abv
    split
    · simp
    · split
      · have := abv_len ns f ‹Nd›.parent; simp only [List.length_cons]; omega
      · simp
/-- a node's parent comes before it, and is no root but one of the few -/
def Up (ns : List Nd) : Prop := ∀ (j : Nat) x, ns[j]? = some x → x.parent < j
theorem up_of {cs : List Ctl} {b : Big} (h : bigB cs b = true) : Up b.nodes := fun j x hx => by
  have h1 := ((big_of h).2.2.2.2.1 j x hx).1
  unfold seatB underB at h1
  simp only [Bool.and_eq_true] at h1
  have h2 := h1.2
  by_cases hn : x.parent < 0
  · omega
  · rw [if_neg hn] at h2
    simp only [Bool.and_eq_true, decide_eq_true_eq] at h2
    exact h2.1
theorem size_nodes {cs : List Ctl} {b : Big} (h : bigB cs b = true) : b.nodes.length ≤ 8 := (sizes_of (big_of h).2.1).2.2.1

end Go.Proofs.YtlpgldejmdiceabGreat.abv
end

section
namespace Go.Proofs.YtlpgldejmdiceabGreat.tp
open kit bg opn strs only hb sig isig gd inn ht hi cf ib rs abv br
open Go.RowKit
set_option linter.unusedVariables false

/-- the root over a place, at most so many steps up -/
def topF (ns : List Nd) : Nat → Int → Int
  | 0, z => z
  | f + 1, z => if z < 0 then z else match ns[z.toNat]? with
    | some x => topF ns f x.parent
    | none => z
theorem topF_neg {ns : List Nd} {f : Nat} {z : Int} (h : z < 0) : topF ns f z = z := by
  cases f with
  | zero => rfl
  | succ f => unfold topF; rw [if_pos h]
theorem topF_step {ns : List Nd} {f k : Nat} {x : Nd} (h : ns[k]? = some x) : topF ns (f + 1) (k : Int) = topF ns f x.parent := by
  rw [topF, if_neg (by omega)]
  simp only [Int.toNat_natCast, h]
/-- no place is below the roots -/
def Dn (ns : List Nd) (R : Int) : Prop := ∀ (j : Nat) x, ns[j]? = some x → -R ≤ x.parent
theorem under_dn {cs : List Ctl} {b : Big} {p below : Int} (hR : 0 ≤ b.roots) (h : underB cs b p below = true) : -b.roots ≤ p ∧ (p < below ∨ p < 0) := by
  unfold underB at h
  by_cases hn : p < 0
  · rw [if_pos hn] at h
    have := inb_true h
    omega
  · rw [if_neg hn] at h
    simp only [Bool.and_eq_true, decide_eq_true_eq] at h
    exact ⟨by omega, .inl h.1⟩
theorem topF_dn {ns : List Nd} {R : Int} (hd : Dn ns R) : ∀ (f : Nat) (z : Int), -R ≤ z → -R ≤ topF ns f z
  | 0, z, h => h
  | f + 1, z, h => by
    unfold topF
    split
    · exact h
    · split
      · rename_i x hx
        exact topF_dn hd f _ (hd _ _ hx)
      · exact h
theorem topF_root {ns : List Nd} (hu : Up ns) : ∀ (f : Nat) (z : Int), z < f → z < ns.length → topF ns f z < 0
  | 0, z, h, _ => by unfold topF; omega
  | f + 1, z, h, hl => by
    unfold topF
    split
    · assumption
    · split
      · rename_i x hx
        have := hu _ _ hx
        exact topF_root hu f _ (by omega) (by omega)
      · rename_i hx
        have := List.getElem?_eq_none_iff.1 hx
        omega
/-- the roots over the sites -/
def tops (b : Big) : List Int := b.sites.map (topF b.nodes b.nodes.length)
theorem tops_at {b : Big} {i : Nat} {z : Int} (h : b.sites[i]? = some z) : (tops b)[i]? = some (topF b.nodes b.nodes.length z) := by unfold tops; rw [List.getElem?_map, h]; rfl
theorem good_sites {cs : List Ctl} {b : Big} (h : bigB cs b = true) : Up b.nodes ∧ Dn b.nodes b.roots ∧ (∀ (i : Nat) z, b.sites[i]? = some z → -b.roots ≤ z ∧ z < b.nodes.length) ∧ 0 ≤ b.roots ∧ b.roots ≤ 4 ∧ b.nodes.length ≤ 8 ∧ b.sites.length ≤ 4 := by
  have hb := big_of h
  have hz := sizes_of hb.2.1
  have hz' := hz
  refine ⟨up_of h, fun j x hx => ?_, fun i z hz => ?_, hz.1.1, hz.1.2, hz.2.2.1, hz.2.2.2.1⟩
  · have h1 := (hb.2.2.2.2.1 j x hx).1
    unfold seatB at h1
    simp only [Bool.and_eq_true] at h1
    exact (under_dn hz.1.1 h1.2).1
  · have := under_dn hz'.1.1 (hb.2.2.2.2.2.1 i z hz)
    exact ⟨this.1, by omega⟩
theorem tops_in {cs : List Ctl} {b : Big} (h : bigB cs b = true) {i : Nat} {z : Int} (hz : b.sites[i]? = some z) : -4 ≤ topF b.nodes b.nodes.length z ∧ topF b.nodes b.nodes.length z < 0 := by
  obtain ⟨h1, h2, h3, h4, h5, h6, h7⟩ := good_sites h
  obtain ⟨a1, a2⟩ := h3 i z hz
  have := topF_dn h2 b.nodes.length z a1
  exact ⟨by omega, topF_root h1 _ _ a2 a2⟩

end Go.Proofs.YtlpgldejmdiceabGreat.tp
end

section
namespace Go.Proofs.YtlpgldejmdiceabGreat.pl
open kit bg opn strs only hb sig inn ht marks eqs hc hi hw hn rs br bm bw cf lawb lw cl
open Go.RowKit
set_option linter.unusedVariables false

/-- a Bigraph of roots and sites alone -/
def placing (R : Int) (zs : List Int) : Big := ⟨R, [], zs, 0, [], []⟩
theorem placing_len {R : Int} {zs : List Int} (h : zs.length ≤ 8) : bigMk (placing R zs) ≤ 1048576 := by
  unfold placing bigMk ndMk
  simp [sumBy]
  omega
/-- a Bigraph of roots and sites, its sites in a row -/
theorem placing_big {w : World} {lo hi c : Nat} {A : Option Addr} {R : Int} {zs : List Int} (h : RowR w lo hi 3 1 A zs.length c (iat zs)) : BigR w lo hi (.agg #[.int .i64 R, .slice none 0 0, .slice A zs.length c, .int .i64 0, .slice none 0 0, .slice none 0 0]) (placing R zs) :=
  ⟨⟨none, 0, A, c, none, 0, none, 0, fun _ => none, fun _ => 0⟩, rfl, fun k hk => absurd hk (Nat.not_lt_zero k), ⟨RowR.nil, fun k hk => absurd hk (Nat.not_lt_zero k)⟩, h, RowR.nil, RowR.nil⟩

theorem por_any (z : Int) (w : World) (h : -9 ≤ z ∧ z ≤ 9) : Calls Tryz.prog 81 #[.int .i64 z] w fun e w' => e = .returned (.int .i64 (-1 - z)) ∧ w = w' := by
  obtain ⟨h1, h2⟩ := h
  go_enter Tryz.func81, Tryz.ntmps81
  go_wp2_with fail
  go_ret
  exact ⟨rfl, rfl⟩

set_option maxRecDepth 20000 in
set_option maxHeartbeats 1600000 in
theorem placing_any (A : Option Addr) (n c : Nat) (zs : List Int) (R : Int) (w : World) (h : IntsAt w w.heap.size A n zs) (hn : n ≤ 8) (hz : ∀ z ∈ zs, -9 ≤ z ∧ z ≤ 9) :
    Calls Tryz.prog 61 #[.int .i64 R, .slice A n c] w fun e w' => ∃ v, e = .returned v ∧ BigR w' w.heap.size w'.heap.size v (placing R (zs.map fun z => -1 - z)) ∧ Below w.heap.size w w' := by
  have hmk := fun W => run_make_row' (P := Tryz.prog) 27 3 (.int .i64 0) 8 Tryz.underlying27 int_info rfl .i64 .i64 n (by omega) (by omega) W
  have HZ := Lib.hid hz
  have HL := Lib.hid h.len
  have hb0 := (Below.refl w.heap.size w).alloc (Nat.le_refl _) (.cells #[.int .i64 0, .slice none 0 0, .slice none 0 0, .int .i64 0, .slice none 0 0, .slice none 0 0] 31)
  have HBx0 : Hid (BoxAt (w.alloc (.cells #[.int .i64 0, .slice none 0 0, .slice none 0 0, .int .i64 0, .slice none 0 0, .slice none 0 0] 31)) w.heap.size 31 (.int .i64 0) (.slice none 0 0) (.slice none 0 0) (.int .i64 0) (.slice none 0 0) (.slice none 0 0)) := Lib.hid (six_new w _ _ _ _ _ _ _)
  obtain ⟨W, hW⟩ : ∃ W, w.alloc (.cells #[.int .i64 0, .slice none 0 0, .slice none 0 0, .int .i64 0, .slice none 0 0, .slice none 0 0] 31) = W := ⟨_, rfl⟩
  have hWz : W.heap.size = w.heap.size + 1 := by rw [← hW]; simp
  rw [hW] at hb0 HBx0
  have HWq := Lib.hid hW
  have HB0 := Lib.hid hb0
  have HWz := Lib.hid hWz
  have hmade := World.rowIs_made W (.int .i64 0) n 3
  rw [hWz] at hmade
  have HMade := Lib.hid hmade
  clear hz hW hb0 hWz hmade
  go_enter Tryz.func61, Tryz.ntmps61
  go_wp2_with fail
  rw [HWq.out]
  clear hmk
  go_loopw [13] (fun i wr => ∃ k : Nat, k ≤ n ∧ i = .int .i64 k ∧ wr.rowIs (w.heap.size + 1) 3 n (fun j => if j < k then iat (zs.map fun z => -1 - z) j else .int .i64 0) ∧ Below W.heap.size W wr) (fun i _ => n - (intOf i).toNat)
  case atStart => exact ⟨0, Nat.zero_le _, rfl, (HMade.out).congr (fun _ _ => by simp), (Below.refl _ _).alloc (Nat.le_refl _) _⟩
  case round =>
    obtain ⟨k, hk, rfl, hrow, hbel⟩ := hrel
    have hbw := HB0.out.trans (hbel.mono HB0.out.size)
    by_cases hlt : k < n
    · obtain ⟨b, off, z, rfl, hbb, hx, c0'⟩ := h.get hlt
      have d0 := (hbw.cell (p := ⟨b, off + k, none⟩) hbb).trans c0'
      have hz := HZ.out z (List.mem_of_getElem? hx)
      have HA : Hid (iat (zs.map fun z => -1 - z) k = .int .i64 (-1 - z)) := Lib.hid (iat_of (by rw [List.getElem?_map, hx]; rfl))
      have hcell := hrow.cell hlt
      have hfz := hrow.frozen k
      have HRow := Lib.hid (hrow.set k (.int .i64 (-1 - z)))
      have HB := Lib.hid (hbel.setCell (p := ⟨w.heap.size + 1, k, none⟩) (by rw [HWz.out]; exact Nat.le_refl _) (.int .i64 (-1 - z)))
      clear hx c0' hrow hbel hbw
      obtain ⟨y, hy⟩ : ∃ y, -1 - z = y := ⟨_, rfl⟩
      have CP := fun w2 => hy ▸ por_any z w2 hz
      rw [hy] at HA HRow HB
      clear hy hz
      go_wp2_with fail
      refine (CP _).mono ?_
      rintro e w2 ⟨rfl, rfl⟩
      clear CP
      go_wp2_with fail
      go_roundw
      case rel =>
        refine ⟨k + 1, by omega, by go_num, HRow.out.congr (fun j hj => ?_), HB.out⟩
        show (if j = k then _ else if j < k then _ else _) = if j < k + 1 then _ else _
        by_cases e : j = k
        · subst e; rw [if_pos rfl, if_pos (by omega), HA.out]
        · rw [if_neg e]
          by_cases e2 : j < k
          · rw [if_pos e2, if_pos (by omega)]
          · rw [if_neg e2, if_neg (by omega)]
      case measure => simp [intOf]; omega
    · obtain rfl : k = n := by omega
      have hbx := HBx0.out.on hbel
      obtain ⟨z0, z1, z2, z3, z4, z5⟩ := hbx.get
      have f0 := World.rowIs.frozen hbx 0
      have f1 := World.rowIs.frozen hbx 1
      have f2 := World.rowIs.frozen hbx 2
      have f3 := World.rowIs.frozen hbx 3
      have f4 := World.rowIs.frozen hbx 4
      have f5 := World.rowIs.frozen hbx 5
      have hlen : (zs.map fun z => -1 - z).length = k := by rw [List.length_map]; exact HL.out
      have HR := Lib.hid (show RowR wr w.heap.size wr.heap.size 3 1 (some ⟨w.heap.size + 1, 0, none⟩) k k (iat (zs.map fun z => -1 - z)) from RowR.mk (by omega) hrow.lt (Nat.le_refl _) (by rw [Nat.mul_one]; exact hrow) (fun x hx => if_pos (by omega)))
      have HBx := Lib.hid hbx
      have HB := Lib.hid hbw
      clear hbx hrow hbel hbw
      go_wp2_with fail
      have hp := placing_big (R := R) (zs := zs.map fun z => -1 - z) (by rw [hlen]; exact HR.out)
      rw [hlen] at hp
      refine bodyPost_ret (v := .agg #[.int .i64 R, .slice none 0 0, .slice (some ⟨w.heap.size + 1, 0, none⟩) k k, .int .i64 0, .slice none 0 0, .slice none 0 0]) (by simp [results, Tryz.results61, go_sem, z0, z1, z2, z3, z4, z5]) rfl ⟨_, rfl, ?_, ?_⟩
      · have := sets6_big HBx.out hp (.int .i64 R) (.slice none 0 0) (.slice (some ⟨w.heap.size + 1, 0, none⟩) k k) (.int .i64 0) (.slice none 0 0) (.slice none 0 0)
        exact this.here
      · exact sets6_below HB.out (Nat.le_refl _) _ _ _ _ _ _
end Go.Proofs.YtlpgldejmdiceabGreat.pl
end

section
namespace Go.Proofs.YtlpgldejmdiceabGreat.mb
open kit bg sg opn strs only hb sig inn ht marks eqs hc hi hw hn rs br bm bw cf lawb lw cl pl
open Go.RowKit
set_option linter.unusedVariables false

def mrgR (z : Int) : Big := if inb z 0 4 = true then placing 1 (List.replicate z.toNat (-1)) else zeroBig
theorem mrgR_no {z : Int} (h : inb z 0 4 = false) : mrgR z = zeroBig := by unfold mrgR; rw [h]; rfl
theorem mrgR_yes {z : Int} (h : inb z 0 4 = true) : mrgR z = placing 1 (List.replicate z.toNat (-1)) := by unfold mrgR; rw [if_pos h]
theorem zero_len : bigMk zeroBig ≤ 1048576 := by decide
theorem mrgR_len (z : Int) : bigMk (mrgR z) ≤ 1048576 := by
  cases h : inb z 0 4 with
  | false => rw [mrgR_no h]; exact zero_len
  | true => rw [mrgR_yes h]; exact placing_len (by rw [List.length_replicate]; have := inb_true h; omega)
def barR (z : Int) : Big := if inb z 0 4 = true then placing z [] else zeroBig
theorem barR_no {z : Int} (h : inb z 0 4 = false) : barR z = zeroBig := by unfold barR; rw [h]; rfl
theorem barR_yes {z : Int} (h : inb z 0 4 = true) : barR z = placing z [] := by unfold barR; rw [if_pos h]
theorem barR_len (z : Int) : bigMk (barR z) ≤ 1048576 := by
  cases h : inb z 0 4 with
  | false => rw [barR_no h]; exact zero_len
  | true => rw [barR_yes h]; exact placing_len (by simp)
theorem made_ints (w : World) (m : Nat) : IntsAt (w.alloc (.cells (madeCells #[.int .i64 0] m) 3)) (w.alloc (.cells (madeCells #[.int .i64 0] m) 3)).heap.size (some ⟨w.heap.size, 0, none⟩) m (List.replicate m 0) :=
  ints_row (World.rowIs_made w (.int .i64 0) m 3) (Nat.le_refl _) (by simp) (by simp) (fun k hk => (iat_of (by rw [List.getElem?_replicate, if_pos hk])).symm)
theorem _root_.Go.Proofs.YtlpgldejmdiceabGreat.cf.BoxAt.kept {w w' : World} {β : Nat} {t : TypeId} {v0 v1 v2 v3 v4 v5 : Value} {row : Option Nat} (h : BoxAt w β t v0 v1 v2 v3 v4 v5) (hg : w.grownBy w' row) (hne : some β ≠ row) : BoxAt w' β t v0 v1 v2 v3 v4 v5 := World.rowIs.of_block h (hg.block β (World.rowIs.lt h) hne)
theorem _root_.Go.Proofs.YtlpgldejmdiceabGreat.cf.BoxAt.put2 {w : World} {β : Nat} {t : TypeId} {v0 v1 v2 v3 v4 v5 : Value} (h : BoxAt w β t v0 v1 v2 v3 v4 v5) (u : Value) : BoxAt (w.setCell ⟨β, 2, none⟩ u) β t v0 v1 u v3 v4 v5 := by
  have h6 : (w.setCell ⟨β, 2, none⟩ u).rowIs β t 6 _ := World.rowIs.set h 2 u
  unfold BoxAt
  refine h6.congr ?_
  intro i hi
  match i, hi with
  | 0, _ => rfl
  | 1, _ => rfl
  | 2, _ => rfl
  | 3, _ => rfl
  | 4, _ => rfl
  | 5, _ => rfl
theorem _root_.Go.Proofs.YtlpgldejmdiceabGreat.cf.BoxAt.else_ {w : World} {β γ k : Nat} {t : TypeId} {v0 v1 v2 v3 v4 v5 : Value} (h : BoxAt w β t v0 v1 v2 v3 v4 v5) (hne : β ≠ γ) (u : Value) : BoxAt (w.setCell ⟨γ, k, none⟩ u) β t v0 v1 v2 v3 v4 v5 := World.rowIs.setOther h (a := ⟨γ, k, none⟩) hne u
theorem owns_set {w : World} {base sz n γ k : Nat} {e : TypeId} {v u : Value} {xs : List Value} (h : w.ownsRow base e sz v n xs) (hne : γ < base) : (w.setCell ⟨γ, k, none⟩ u).ownsRow base e sz v n xs := by
  obtain ⟨h1, h2⟩ := h
  refine ⟨h1, h2.imp id ?_⟩
  rintro ⟨g, cap, cur, e1, hb, hh, r⟩
  exact ⟨g, cap, cur, e1, hb, (Below.heap_setCell _ _ _ _ (by dsimp only; omega)).trans hh, r⟩
theorem app_keep {w wA w3 : World} {base sz n β γ B : Nat} {e t : TypeId} {v : Value} {xs : List Value} {a0 a1 a2 a3 a4 a5 b0 b1 b2 b3 b4 b5 : Value} (hg : wA.grownBy w3 v.ownBlock) (hown : wA.ownsRow base e sz v n xs) (hbo : BoxAt wA β t a0 a1 a2 a3 a4 a5) (hbx : BoxAt wA γ t b0 b1 b2 b3 b4 b5)
    (hB : Below B w wA) (h1 : β < base) (h2 : γ < base) (h3 : B ≤ base) (h4 : B ≤ wA.heap.size) : BoxAt w3 β t a0 a1 a2 a3 a4 a5 ∧ BoxAt w3 γ t b0 b1 b2 b3 b4 b5 ∧ Below B w w3 ∧ wA.heap.size ≤ w3.heap.size :=
  ⟨hbo.kept hg (fun e => by have := (hown.lt _ e.symm).1; omega), hbx.kept hg (fun e => by have := (hown.lt _ e.symm).1; omega), hB.grown hg h4 (fun j hj => by have := (hown.lt j hj).1; omega), hg.size⟩
theorem ints_owned {w : World} {lo n : Nat} {v : Value} {zs : List Int} (h : w.ownsRow lo 3 1 v n (zs.map (Value.int .i64))) : ∃ A c, v = .slice A zs.length c ∧ RowR w lo w.heap.size 3 1 A zs.length c (iat zs) := by
  have hl : zs.length = n := by have := h.1; rw [List.length_map] at this; omega
  obtain ⟨A, c, rfl, hR⟩ := rowR_owns h
  rw [← hl] at hR ⊢
  exact ⟨A, c, rfl, hR.congr (fun x hx => by
    have hx2 : x < zs.length := by omega
    have e : zs[x]? = some zs[x] := List.getElem?_eq_getElem hx2
    rw [List.getElem?_map, e, iat_of e]; rfl)⟩

end Go.Proofs.YtlpgldejmdiceabGreat.mb
end

section
namespace Go.Proofs.YtlpgldejmdiceabGreat.sb
variable {P : Program}
theorem step_append_own {w : World} {ops : Array Oper} {o : Oper} {a : Act} {K : Act → World → Prop} {Q : Exit → Act → World → Prop} {E : Prop} (hgd : o.guard = none) (s x : Operand) (t : TypeId)
    (ho : o.op = .call { callee := .builtin .append, args := #[s, x], argTypes := #[t, t] })
    (base : Nat) (e : TypeId) (i : TypeInfo) (z : Value) (size bytes : Nat) (ht : P.underlying t = some (.slice e)) (hi : P.info? e = some i) (hz : i.zero = some z)
    (hsize : i.size = size) (hby : i.bytes = bytes) (hzs : z.cells.size = size) (hsz : 0 < size)
    (v : Value) (n : Nat) (xs : List Value) (hs : a.eval s = v) (hown : w.ownsRow base e size v n xs)
    (ad : Addr) (m c : Nat) (news : List Value) (hx : a.eval x = .slice (some ad) m c) (hl : news.length = m * size) (hnews : ∀ j u, news[j]? = some u → w.cell? (ad.add j) = some u) (h1 : ∀ u ∈ news, u.oneCell' = true)
    (h63 : n + m ≤ maxLen) (hbytes : (n + m) * bytes ≤ 140737488355328) (hbase : base ≤ w.heap.size)
    (h : ∀ v' w', w'.ownsRow base e size v' (n + m) (xs ++ news) → w.grownBy w' v.ownBlock → (v' = .slice none 0 0 ↔ v = .slice none 0 0 ∧ m = 0) → K (a.put o.dst v') w') :
    if Region.wanted o (yielded ops a.tmps) = true then Oper.wp P o a w K Q else E := by
  have hw : Region.wanted o (yielded ops a.tmps) = true := by simp [Region.wanted, hgd]
  rw [if_pos hw]
  exact wp_append_own w s x t ho base e i z size bytes ht hi hz hsize hby hzs hsz v n xs hs hown ad m c news hx hl hnews h1 h63 hbytes hbase h
/-- the source may be nil -/
theorem step_append_src {w : World} {ops : Array Oper} {o : Oper} {a : Act} {K : Act → World → Prop} {Q : Exit → Act → World → Prop} {E : Prop} (hgd : o.guard = none) (s x : Operand) (t : TypeId)
    (ho : o.op = .call { callee := .builtin .append, args := #[s, x], argTypes := #[t, t] })
    (base : Nat) (e : TypeId) (i : TypeInfo) (z : Value) (size bytes : Nat) (ht : P.underlying t = some (.slice e)) (hi : P.info? e = some i) (hz : i.zero = some z)
    (hsize : i.size = size) (hby : i.bytes = bytes) (hzs : z.cells.size = size) (hsz : 0 < size)
    (v : Value) (n : Nat) (xs : List Value) (hs : a.eval s = v) (hown : w.ownsRow base e size v n xs)
    (A : Option Addr) (m c : Nat) (news : List Value) (hx : a.eval x = .slice A m c) (hnil : A = none → m = 0 ∧ c = 0) (hl : news.length = m * size) (hnews : ∀ ad, A = some ad → ∀ j u, news[j]? = some u → w.cell? (ad.add j) = some u) (h1 : ∀ u ∈ news, u.oneCell' = true)
    (h63 : n + m ≤ maxLen) (hbytes : (n + m) * bytes ≤ 140737488355328) (hbase : base ≤ w.heap.size)
    (h : ∀ v' w', w'.ownsRow base e size v' (n + m) (xs ++ news) → w.grownBy w' v.ownBlock → K (a.put o.dst v') w') :
    if Region.wanted o (yielded ops a.tmps) = true then Oper.wp P o a w K Q else E := by
  cases A with
  | some ad => exact step_append_own hgd s x t ho base e i z size bytes ht hi hz hsize hby hzs hsz v n xs hs hown ad m c news hx hl (hnews ad rfl) h1 h63 hbytes hbase (fun v' w' a b _ => h v' w' a b)
  | none =>
    obtain ⟨rfl, rfl⟩ := hnil rfl
    have hw : Region.wanted o (yielded ops a.tmps) = true := by simp [Region.wanted, hgd]
    rw [if_pos hw]
    have hrun := run_append_owned_none (P := P) (w := w) base t o.type e i size ht hi v n xs hown
    have hne : news = [] := List.eq_nil_of_length_eq_zero (by rw [hl]; omega)
    subst hne
    unfold Oper.wp
    simp [execOp, ho, resolve, invoke, builtin, hs, hx, hrun, Result.andThen]
    exact h v w (by simpa using hown) (World.grownBy.refl w _)
end Go.Proofs.YtlpgldejmdiceabGreat.sb
end

section
namespace Go.Proofs.YtlpgldejmdiceabGreat.wb
open kit bg sg opn strs only hb sig isig un over gn nm inn ht gd im pt marks eqs hc hi hw hn rs br bm bw cf lf ib lawb lw cl pl mb sb
open Go.RowKit
set_option linter.unusedVariables false
/-- a Bigraph of edges and names alone -/
def wiring (E : Int) (outer : List ByteArray) (inner : List Wr) : Big := ⟨0, [], [], E, outer, inner⟩
theorem wiring_big {w : World} {lo hi c4 c5 : Nat} {A4 A5 : Option Addr} {E : Int} {outer : List ByteArray} {inner : List Wr} (h4 : RowR w lo hi 9 1 A4 outer.length c4 (at_ outer)) (h5 : RowR w lo hi 80 2 A5 inner.length c5 (wic inner)) :
    BigR w lo hi (.agg #[.int .i64 0, .slice none 0 0, .slice none 0 0, .int .i64 E, .slice A4 outer.length c4, .slice A5 inner.length c5]) (wiring E outer inner) :=
  ⟨⟨none, 0, none, 0, A4, c4, A5, c5, fun _ => none, fun _ => 0⟩, rfl, fun k hk => absurd hk (Nat.not_lt_zero k), ⟨RowR.nil, fun k hk => absurd hk (Nat.not_lt_zero k)⟩, RowR.nil, h4, h5⟩
theorem wiring_len {E : Int} {outer : List ByteArray} {inner : List Wr} (h4 : outer.length ≤ 16) (h5 : inner.length ≤ 16) : bigMk (wiring E outer inner) ≤ 1048576 := by
  unfold wiring bigMk ndMk
  simp [sumBy]
  omega
theorem strs_row {w : World} {lo hi c : Nat} {A : Option Addr} {n : Nat} {ss : List ByteArray} (hl : ss.length = n) (h : RowR w lo hi 9 1 A n c (at_ ss)) : RowR w lo hi 9 1 A ss.length c (at_ ss) := by rw [hl]; exact h
theorem wrs_row {w : World} {lo hi c : Nat} {A : Option Addr} {n : Nat} {ws : List Wr} (hl : ws.length = n) (h : RowR w lo hi 80 2 A n c (wic ws)) : RowR w lo hi 80 2 A ws.length c (wic ws) := by rw [hl]; exact h
theorem strs_owned {w : World} {lo n : Nat} {v : Value} {ss : List ByteArray} (h : w.ownsRow lo 9 1 v n (ss.map Value.string)) : ∃ A c, v = .slice A ss.length c ∧ RowR w lo w.heap.size 9 1 A ss.length c (at_ ss) := by
  have hl : ss.length = n := by have := h.1; rw [List.length_map] at this; omega
  obtain ⟨A, c, rfl, hR⟩ := rowR_owns h
  rw [← hl] at hR ⊢
  exact ⟨A, c, rfl, hR.congr (fun x hx => by
    have hx2 : x < ss.length := by omega
    have e : ss[x]? = some ss[x] := List.getElem?_eq_getElem hx2
    rw [List.getElem?_map, e, at_of e]; rfl)⟩
theorem wrs_owned {w : World} {lo n : Nat} {v : Value} {ws : List Wr} (h : w.ownsRow lo 80 2 v n (wcs ws)) : ∃ A c, v = .slice A ws.length c ∧ RowR w lo w.heap.size 80 2 A ws.length c (wic ws) := by
  have hl : ws.length = n := by have := h.1; rw [wcs_len] at this; omega
  obtain ⟨A, c, rfl, hR⟩ := rowR_owns h
  rw [← hl] at hR ⊢
  exact ⟨A, c, rfl, hR.congr (fun x hx => wcs_wic hx)⟩
theorem sr_src {w : World} {B n : Nat} {A : Option Addr} {xs : List Value} (h : SR w B A n xs) : ∀ ad, A = some ad → ∀ j u, xs[j]? = some u → w.cell? (ad.add j) = some u := fun ad e => by subst e; exact sr_cells h
theorem wrs_src {w : World} {B n : Nat} {A : Option Addr} {ws : List Wr} (h : WrsAt w B A n ws) : ∀ ad, A = some ad → ∀ j u, (wcs ws)[j]? = some u → w.cell? (ad.add j) = some u := fun ad e => by subst e; exact wcs_cells h
theorem sr_zero {w : World} {B n : Nat} {A : Option Addr} {xs : List Value} (h : SR w B A n xs) (e : A = none) : n = 0 := by
  by_cases h0 : n = 0
  · exact h0
  · obtain ⟨b, off, e2, _⟩ := h.2 (by omega)
    rw [e] at e2; cases e2
theorem wrs_zero {w : World} {B n : Nat} {A : Option Addr} {ws : List Wr} (h : WrsAt w B A n ws) (e : A = none) : n = 0 := by
  by_cases h0 : n = 0
  · exact h0
  · obtain ⟨b, off, e2, _⟩ := h.2 (by omega)
    rw [e] at e2; cases e2

theorem wpList_append_src {P : Program} (w : World) {ops : Array Oper} {rest : List Oper} {o : Oper} {a : Act} {Q : Exit → Act → World → Prop} (hgd : o.guard = none) (s x : Operand) (t : TypeId)
    (ho : o.op = .call { callee := .builtin .append, args := #[s, x], argTypes := #[t, t] })
    (base : Nat) (e : TypeId) (i : TypeInfo) (z : Value) (size bytes : Nat) (ht : P.underlying t = some (.slice e)) (hi : P.info? e = some i) (hz : i.zero = some z)
    (hsize : i.size = size) (hby : i.bytes = bytes) (hzs : z.cells.size = size) (hsz : 0 < size)
    (v : Value) (n : Nat) (xs : List Value) (hs : a.eval s = v) (hown : w.ownsRow base e size v n xs)
    (A : Option Addr) (m c : Nat) (news : List Value) (hx : a.eval x = .slice A m c) (hnil : A = none → m = 0 ∧ c = 0) (hl : news.length = m * size) (hnews : ∀ ad, A = some ad → ∀ j u, news[j]? = some u → w.cell? (ad.add j) = some u) (h1 : ∀ u ∈ news, u.oneCell' = true)
    (h63 : n + m ≤ maxLen) (hbytes : (n + m) * bytes ≤ 140737488355328) (hbase : base ≤ w.heap.size)
    (h : ∀ v' w', w'.ownsRow base e size v' (n + m) (xs ++ news) → w.grownBy w' v.ownBlock → wpList P ops Q rest (a.put o.dst v') w') : wpList P ops Q (o :: rest) a w := by
  cases A with
  | some ad => exact wpList_append_own w hgd s x t ho base e i z size bytes ht hi hz hsize hby hzs hsz v n xs hs hown ad m c news hx hl (hnews ad rfl) h1 h63 hbytes hbase (fun v' w' a b _ => h v' w' a b)
  | none =>
    obtain ⟨rfl, rfl⟩ := hnil rfl
    have hne : news = [] := List.eq_nil_of_length_eq_zero (by rw [hl]; omega)
    subst hne
    exact wpList_append_own_none hgd s x t ho base e i size ht hi v n xs hs hown hx (h v w (by simpa using hown) (World.grownBy.refl w _))
end Go.Proofs.YtlpgldejmdiceabGreat.wb
end

section
namespace Go.Proofs.YtlpgldejmdiceabGreat.pm
open kit bg sg opn strs only hb sig inn ht marks eqs hc hi hw hn rs br bm bw cf lawb lw has
open Go.RowKit
set_option linter.unusedVariables false

theorem cover_le : ∀ (n : Nat) (zs : List Int), (∀ i : Nat, i < n → (i : Int) ∈ zs) → n ≤ zs.length
  | 0, _, _ => Nat.zero_le _
  | n + 1, zs, h => by
    have hn : (n : Int) ∈ zs := h n (Nat.lt_succ_self n)
    have ih := cover_le n (zs.erase (n : Int)) (fun i hi => (List.mem_erase_of_ne (by omega)).2 (h i (by omega)))
    rw [List.length_erase_of_mem hn] at ih
    have : 0 < zs.length := List.length_pos_of_mem hn
    omega
theorem nodup_le : ∀ (n : Nat) (zs : List Int), zs.Nodup → (∀ z ∈ zs, 0 ≤ z ∧ z < n) → zs.length ≤ n
  | 0, zs, _, h => by
    cases zs with
    | nil => exact Nat.le_refl _
    | cons a r => have := h a (List.mem_cons_self ..); omega
  | n + 1, zs, hd, h => by
    by_cases hn : (n : Int) ∈ zs
    · have ih := nodup_le n (zs.erase (n : Int)) (hd.erase _) (fun z hz => by
        have h1 := h z (List.mem_of_mem_erase hz)
        have h2 : z ≠ (n : Int) := fun e => by rw [e] at hz; exact hd.not_mem_erase hz
        omega)
      rw [List.length_erase_of_mem hn] at ih
      omega
    · have ih := nodup_le n zs hd (fun z hz => by
        have h1 := h z hz
        have h2 : z ≠ (n : Int) := fun e => by rw [e] at hz; exact hn hz
        omega)
      omega
/-- each of the numbers is in the list, and it is no longer -/
def EachP (zs : List Int) (n : Nat) : Prop := (∀ i : Nat, i < n → (i : Int) ∈ zs) ∧ zs.length = n
open Classical in
noncomputable def eachB (zs : List Int) (n : Nat) : Bool := decide (EachP zs n)
open Classical in
theorem each_true {zs : List Int} {n : Nat} (h : EachP zs n) : eachB zs n = true := by unfold eachB; exact decide_eq_true h
open Classical in
theorem each_false {zs : List Int} {n : Nat} (h : ¬ EachP zs n) : eachB zs n = false := by unfold eachB; exact decide_eq_false h
open Classical in
theorem each_of {zs : List Int} {n : Nat} (h : eachB zs n = true) : EachP zs n := by unfold eachB at h; exact of_decide_eq_true h
/-- the first k numbers are in bounds and differ -/
def PermK (zs : List Int) (n k : Nat) : Prop := (zs.take k).Nodup ∧ ∀ z ∈ zs.take k, 0 ≤ z ∧ z < n
theorem permK_zero (zs : List Int) (n : Nat) : PermK zs n 0 := ⟨by simp, by simp⟩
theorem permK_next {zs : List Int} {n k : Nat} {z : Int} (h : PermK zs n k) (hz : zs[k]? = some z) (h0 : 0 ≤ z ∧ z < n) (hno : z ∉ zs.take k) : PermK zs n (k + 1) := by
  rw [PermK, take_snoc hz]
  refine ⟨List.nodup_append.2 ⟨h.1, by simp, fun a ha b hb => ?_⟩, fun y hy => ?_⟩
  · rw [List.mem_singleton.1 hb]
    intro e
    rw [e] at ha
    exact hno ha
  · rcases List.mem_append.1 hy with hy | hy
    · exact h.2 y hy
    · rw [List.mem_singleton.1 hy]; exact h0
theorem permK_all {zs : List Int} {n : Nat} (h : PermK zs n n) (hl : zs.length = n) : eachB zs n = true := by
  rw [PermK, List.take_of_length_le (by omega)] at h
  refine each_true ⟨fun i hi => ?_, hl⟩
  by_cases hm : (i : Int) ∈ zs
  · exact hm
  · have := nodup_le n ((i : Int) :: zs) (List.nodup_cons.2 ⟨hm, h.1⟩) (fun z hz => by
      rcases List.mem_cons.1 hz with rfl | hz
      · omega
      · exact h.2 z hz)
    simp at this
    omega
theorem perm_bad {zs : List Int} {n k : Nat} {z : Int} (hz : zs[k]? = some z) (hl : zs.length = n) (h : ¬ (0 ≤ z ∧ z < n) ∨ z ∈ zs.take k) : eachB zs n = false := by
  have hk : k < zs.length := (List.getElem?_eq_some_iff.1 hz).1
  refine each_false (fun he => ?_)
  have := cover_le n (zs.eraseIdx k) (fun i hi => by
    obtain ⟨j, hj⟩ := List.getElem?_of_mem (he.1 i hi)
    refine List.mem_eraseIdx_iff_getElem?.2 ?_
    by_cases e : j = k
    · subst e
      rw [hz] at hj
      injection hj with hj
      rcases h with h | h
      · omega
      · obtain ⟨m, hm⟩ := List.getElem?_of_mem h
        have hmk : m < j := by have := (List.getElem?_eq_some_iff.1 hm).1; rw [List.length_take] at this; omega
        rw [List.getElem?_take_of_lt hmk] at hm
        exact ⟨m, by omega, by rw [hm, hj]⟩
    · exact ⟨j, e, hj⟩)
  rw [List.length_eraseIdx_of_lt hk] at this
  omega

theorem bool_info : (Tryz.prog.info? 4).map (fun i => (i.zero, i.size, i.bytes)) = some (some (.bool false), 1, 1) := by kernel_rfl
open Classical in
/-- what has been seen of the numbers -/
noncomputable def seenAt (zs : List Int) (k j : Nat) : Value := .bool (decide ((j : Int) ∈ zs.take k))
open Classical in
theorem seenAt_yes {zs : List Int} {k j : Nat} (h : (j : Int) ∈ zs.take k) : seenAt zs k j = .bool true := by unfold seenAt; rw [decide_eq_true h]
open Classical in
theorem seenAt_no {zs : List Int} {k j : Nat} (h : (j : Int) ∉ zs.take k) : seenAt zs k j = .bool false := by unfold seenAt; rw [decide_eq_false h]
end Go.Proofs.YtlpgldejmdiceabGreat.pm
end
