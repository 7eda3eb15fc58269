/- A Bigraph that a function gives back: how the laws compare, mark and look at it. -/
import Derived.Test.YtifialdkjnmfoabBr
namespace Go.Proofs.Ytifialdkjnmfoab.bm
open kit bg opn strs only hb sig inn ht marks eqs hc hi hw hn rs br
open Go.RowKit
set_option linter.unusedVariables false

section
variable {w : World} {lo hi : Nat}
theorem markIR_any (A : Option Addr) (n c : Nat) (M : Nat → Value) (k : Int) (w : World) (lo hi : Nat) (h : RowR w lo hi 3 1 A n c M) (h0 : 0 < k) (h1 : k ≤ 8000000) (hn : n ≤ 1048576) :
    Calls Try.prog 52 #[.slice A n c, .int .i64 k] w fun e w' => e = .returned (.int .i64 (k + n)) ∧ RowR w' lo hi 3 1 A n c (mki k) ∧ Chg (blk A) w w' := by
  rcases h with ⟨rfl, rfl, rfl⟩ | ⟨g, f, rfl, a1, a2, hc, hr, -⟩
  · refine (markI_nil k w h0 h1).mono ?_
    rintro e w1 ⟨rfl, rfl⟩
    exact ⟨by simp, RowR.nil, Chg.refl _ _⟩
  · rw [Nat.mul_one] at hr
    refine (markI_any g n c f k w hr hc h0 h1 (by omega)).mono ?_
    rintro e w1 ⟨rfl, hr1, hg⟩
    exact ⟨rfl, RowR.mk a1 a2 hc (by rw [Nat.mul_one]; exact hr1) (fun x hx => if_pos (by omega)), Chg.of_grown hg hr hr1 rfl⟩
theorem heldIR_any (A : Option Addr) (n c : Nat) (k : Int) (w : World) (lo hi : Nat) (h : RowR w lo hi 3 1 A n c (mki k)) (h0 : 0 < k) (h1 : k ≤ 8000000) (hn : n ≤ 1048576) :
    Calls Try.prog 56 #[.slice A n c, .int .i64 k] w fun e w' => e = .returned (.int .i64 (k + n)) ∧ Below w.heap.size w w' := by
  rcases h with ⟨rfl, rfl, rfl⟩ | ⟨g, f, rfl, a1, a2, hc, hr, hf⟩
  · refine (heldI_nil k w h0 h1).mono ?_
    rintro e w1 ⟨rfl, rfl⟩
    exact ⟨by simp, Below.refl _ _⟩
  · rw [Nat.mul_one] at hr
    exact heldI_any g n c k w f hr (fun x hx => hf x (by omega)) hc h0 h1 (by omega)
theorem markSR_any (A : Option Addr) (n c : Nat) (M : Nat → Value) (k : Int) (w : World) (lo hi : Nat) (h : RowR w lo hi 9 1 A n c M) (h0 : 0 < k) (h1 : k ≤ 8000000) (hn : n ≤ 1048576) :
    Calls Try.prog 53 #[.slice A n c, .int .i64 k] w fun e w' => e = .returned (.int .i64 (k + n)) ∧ RowR w' lo hi 9 1 A n c (mks k) ∧ Chg (blk A) w w' := by
  rcases h with ⟨rfl, rfl, rfl⟩ | ⟨g, f, rfl, a1, a2, hc, hr, -⟩
  · refine (markS_nil k w h0 h1).mono ?_
    rintro e w1 ⟨rfl, rfl⟩
    exact ⟨by simp, RowR.nil, Chg.refl _ _⟩
  · rw [Nat.mul_one] at hr
    refine (markS_any g n c f k w hr hc h0 h1 (by omega)).mono ?_
    rintro e w1 ⟨rfl, hr1, hg⟩
    exact ⟨rfl, RowR.mk a1 a2 hc (by rw [Nat.mul_one]; exact hr1) (fun x hx => if_pos (by omega)), Chg.of_grown hg hr hr1 rfl⟩
theorem heldSR_any (A : Option Addr) (n c : Nat) (k : Int) (w : World) (lo hi : Nat) (h : RowR w lo hi 9 1 A n c (mks k)) (h0 : 0 < k) (h1 : k ≤ 8000000) (hn : n ≤ 1048576) :
    Calls Try.prog 57 #[.slice A n c, .int .i64 k] w fun e w' => e = .returned (.int .i64 (k + n)) ∧ Below w.heap.size w w' := by
  rcases h with ⟨rfl, rfl, rfl⟩ | ⟨g, f, rfl, a1, a2, hc, hr, hf⟩
  · refine (heldS_nil k w h0 h1).mono ?_
    rintro e w1 ⟨rfl, rfl⟩
    exact ⟨by simp, Below.refl _ _⟩
  · rw [Nat.mul_one] at hr
    exact heldS_any g n c k w f hr (fun x hx => hf x (by omega)) hc h0 h1 (by omega)
end

/-! ### Wires -/
theorem markW_nil (k : Int) (w : World) (h0 : 0 < k) (h1 : k ≤ 8000000) : Calls Try.prog 54 #[.slice none 0 0, .int .i64 k] w fun e w' => e = .returned (.int .i64 k) ∧ w = w' := by
  go_enter Try.func54, Try.ntmps54
  go_wp2_with fail
  go_loopw [1, 5] (fun q i wr => i = .int .i64 0 ∧ q = .int .i64 k ∧ w = wr) (fun _ i _ => 0)
  case atStart => exact ⟨rfl, rfl, rfl⟩
  case round =>
    obtain ⟨rfl, rfl, rfl⟩ := hrel
    go_wp2_with fail
    go_ret
    exact ⟨rfl, rfl⟩
theorem heldW_nil (k : Int) (w : World) (h0 : 0 < k) (h1 : k ≤ 8000000) : Calls Try.prog 58 #[.slice none 0 0, .int .i64 k] w fun e w' => e = .returned (.int .i64 k) ∧ w = w' := by
  go_enter Try.func58, Try.ntmps58
  go_wp2_with fail
  go_loopw [1, 5] (fun q i wr => i = .int .i64 0 ∧ q = .int .i64 k ∧ w = wr) (fun _ i _ => 0)
  case atStart => exact ⟨rfl, rfl, rfl⟩
  case round =>
    obtain ⟨rfl, rfl, rfl⟩ := hrel
    go_wp2_with fail
    go_ret
    exact ⟨rfl, rfl⟩

theorem put2_marks {f f0 : Nat → Value} {k : Int} {j : Nat} (h : ∀ x, x < j * 2 → f x = mkw k x) : ∀ x, x < (j + 1) * 2 → put2 f j (.string (mt (k + 2 * j))) (.int .i64 (k + 2 * j + 1)) x = mkw k x := by
  intro x hx
  obtain ⟨e0, e1⟩ := mkw_at k j
  unfold put2
  by_cases h1 : x = j * 2 + 1
  · subst h1; rw [if_pos rfl, e1]
  · by_cases h2 : x = j * 2
    · subst h2; rw [if_neg (by omega), if_pos rfl, e0]
    · rw [if_neg h1, if_neg h2]; exact h x (by omega)
set_option maxHeartbeats 1600000 in
theorem markWc_any (g n c : Nat) (f0 : Nat → Value) (k : Int) (w : World) (hr : w.rowIs g 60 (c * 2) f0) (hc : n ≤ c) (h0 : 0 < k) (h1 : k ≤ 8000000) (hn : n ≤ 1048576) :
    Calls Try.prog 54 #[.slice (some ⟨g, 0, none⟩) n c, .int .i64 k] w fun e w' => e = .returned (.int .i64 (k + 2 * n)) ∧ (∃ f, w'.rowIs g 60 (c * 2) f ∧ ∀ x, x < n * 2 → f x = mkw k x) ∧ w.grownBy w' (some g) := by
  go_enter Try.func54, Try.ntmps54
  go_wp2_with fail
  go_loopw [1, 5] (fun q i wr => ∃ j : Nat, j ≤ n ∧ i = .int .i64 j ∧ q = .int .i64 (k + 2 * j) ∧ (∃ f, wr.rowIs g 60 (c * 2) f ∧ ∀ x, x < j * 2 → f x = mkw k x) ∧ w.grownBy wr (some g)) (fun _ i _ => n - (intOf i).toNat)
  case atStart => exact ⟨0, Nat.zero_le _, rfl, by simp, ⟨f0, hr, fun x hx => by omega⟩, World.grownBy.refl w _⟩
  case round =>
    obtain ⟨j, hj, rfl, rfl, ⟨f, hrow, hf⟩, hgr⟩ := hrel
    have HF := Lib.hid hf
    clear hf
    by_cases hlt : j < n
    · go_wp2_with fail
      refine (mark_any (k + 2 * j) _ (by omega) (by omega)).mono ?_
      rintro e w1 ⟨rfl, hb⟩
      have hrow1 := hrow.of_block (hb.block g hrow.lt)
      have z0 := hrow1.cell (show j * 2 < c * 2 by omega)
      have z1 := hrow1.cell (show j * 2 + 1 < c * 2 by omega)
      have f0 := hrow1.frozen (j * 2)
      have f1 := hrow1.frozen (j * 2 + 1)
      have HRow := Lib.hid (put2_row hrow1 j (.string (mt (k + 2 * j))) (.int .i64 (k + 2 * j + 1)))
      have HG := Lib.hid (only_set (only_set (only_below hgr hb) (j * 2) (.string (mt (k + 2 * j)))) (j * 2 + 1) (.int .i64 (k + 2 * j + 1)))
      clear hrow hrow1 hgr hb
      go_wp2_with fail
      go_roundw
      case rel => exact ⟨j + 1, by omega, by go_num, by go_num, ⟨_, HRow.out, put2_marks (f0 := f) HF.out⟩, HG.out⟩
      case measure => simp [intOf]; omega
    · obtain rfl : j = n := by omega
      go_wp2_with fail
      go_ret
      exact ⟨rfl, ⟨f, hrow, HF.out⟩, hgr⟩
theorem markWR_any (A : Option Addr) (n c : Nat) (M : Nat → Value) (k : Int) (w : World) (lo hi : Nat) (h : RowR w lo hi 60 2 A n c M) (h0 : 0 < k) (h1 : k ≤ 8000000) (hn : n ≤ 1048576) :
    Calls Try.prog 54 #[.slice A n c, .int .i64 k] w fun e w' => e = .returned (.int .i64 (k + 2 * n)) ∧ RowR w' lo hi 60 2 A n c (mkw k) ∧ Chg (blk A) w w' := by
  rcases h with ⟨rfl, rfl, rfl⟩ | ⟨g, f, rfl, a1, a2, hc, hr, -⟩
  · refine (markW_nil k w h0 h1).mono ?_
    rintro e w1 ⟨rfl, rfl⟩
    exact ⟨by simp, RowR.nil, Chg.refl _ _⟩
  · refine (markWc_any g n c f k w hr hc h0 h1 hn).mono ?_
    rintro e w1 ⟨rfl, ⟨f1, hr1, hf1⟩, hg⟩
    exact ⟨rfl, RowR.mk a1 a2 hc hr1 hf1, Chg.of_grown hg hr hr1 rfl⟩

set_option maxRecDepth 20000 in
set_option maxHeartbeats 1600000 in
theorem heldWc_any (g n c : Nat) (k : Int) (w : World) (f : Nat → Value) (hr : w.rowIs g 60 (c * 2) f) (hf : ∀ x, x < n * 2 → f x = mkw k x) (hc : n ≤ c) (h0 : 0 < k) (h1 : k ≤ 8000000) (hn : n ≤ 1048576) :
    Calls Try.prog 58 #[.slice (some ⟨g, 0, none⟩) n c, .int .i64 k] w fun e w' => e = .returned (.int .i64 (k + 2 * n)) ∧ Below w.heap.size w w' := by
  have hgw := hr.lt
  have HF := Lib.hid hf
  clear hf
  go_enter Try.func58, Try.ntmps58
  go_wp2_with fail
  go_loopw [1, 5] (fun q i wr => ∃ j : Nat, j ≤ n ∧ i = .int .i64 j ∧ q = .int .i64 (k + 2 * j) ∧ Below w.heap.size w wr) (fun _ i _ => n - (intOf i).toNat)
  case atStart => exact ⟨0, Nat.zero_le _, rfl, by simp, Below.refl _ _⟩
  case round =>
    obtain ⟨j, hj, rfl, rfl, hb⟩ := hrel
    have hbs := hb.size
    by_cases hlt : j < n
    · have hcell2 : wr.cell? ⟨g, j * 2, none⟩ = some (.string (mt (k + 2 * j))) := (hb.cell (p := ⟨g, j * 2, none⟩) hgw).trans ((hr.cell (show j * 2 < c * 2 by omega)).trans (by rw [HF.out (j * 2) (by omega), (mkw_at k j).1]))
      have hcell3 : wr.cell? ⟨g, j * 2 + 1, none⟩ = some (.int .i64 (k + 2 * j + 1)) := (hb.cell (p := ⟨g, j * 2 + 1, none⟩) hgw).trans ((hr.cell (show j * 2 + 1 < c * 2 by omega)).trans (by rw [HF.out (j * 2 + 1) (by omega), (mkw_at k j).2]))
      have p1 : 0 < k + 2 * j := by omega
      have p2 : k + 2 * j ≤ 16000000 := by omega
      go_wp2_with fail
      have hj0 : (0 : Int) ≤ (j : Int) := Int.natCast_nonneg _
      have hj1 : (j : Int) < (n : Int) := by omega
      have hgr : g < wr.heap.size := by omega
      go_region_held3 (fun w' => w'.cell? ⟨g, j * 2, none⟩ = some (.string (mt (k + 2 * j)))) (first | go_keep | (rw [hb1.cell (by simp; omega)]; assumption)) ((go_at_call 50; refine (mark_any (k + 2 * j) _ p1 p2).mono ?_; rintro e w1 ⟨rfl, hb1⟩))
      have HB := Lib.hid ((hb.drew).trans (hb1.mono (show w.heap.size ≤ wr.drew.heap.size from hbs)))
      have hd1 : w1.cell? ⟨g, j * 2 + 1, none⟩ = some (.int .i64 (k + 2 * j + 1)) := (hb1.cell (p := ⟨g, j * 2 + 1, none⟩) (show g < wr.drew.heap.size from hgr)).trans hcell3
      clear hb1 hcell2 hcell3
      go_wp2_with fail
      try go_quiet (fail)
      go_wp2_with fail
      go_roundw
      case rel => exact ⟨j + 1, by omega, by go_num, by go_num, by first | exact HB.out | exact HB.out.drew⟩
      case measure => simp [intOf]; omega
    · obtain rfl : j = n := by omega
      go_wp2_with fail
      go_ret
      exact ⟨rfl, hb⟩
theorem heldWR_any (A : Option Addr) (n c : Nat) (k : Int) (w : World) (lo hi : Nat) (h : RowR w lo hi 60 2 A n c (mkw k)) (h0 : 0 < k) (h1 : k ≤ 8000000) (hn : n ≤ 1048576) :
    Calls Try.prog 58 #[.slice A n c, .int .i64 k] w fun e w' => e = .returned (.int .i64 (k + 2 * n)) ∧ Below w.heap.size w w' := by
  rcases h with ⟨rfl, rfl, rfl⟩ | ⟨g, f, rfl, a1, a2, hc, hr, hf⟩
  · refine (heldW_nil k w h0 h1).mono ?_
    rintro e w1 ⟨rfl, rfl⟩
    exact ⟨by simp, Below.refl _ _⟩
  · exact heldWc_any g n c k w f hr hf hc h0 h1 hn

/-! ### nodes -/
theorem markN_nil (k : Int) (w : World) (h0 : 0 < k) (h1 : k ≤ 8000000) : Calls Try.prog 51 #[.slice none 0 0, .int .i64 k] w fun e w' => e = .returned (.int .i64 k) ∧ w = w' := by
  go_enter Try.func51, Try.ntmps51
  go_wp2_with fail
  go_loopw [1, 5] (fun q i wr => i = .int .i64 0 ∧ q = .int .i64 k ∧ w = wr) (fun _ i _ => 0)
  case atStart => exact ⟨rfl, rfl, rfl⟩
  case round =>
    obtain ⟨rfl, rfl, rfl⟩ := hrel
    go_wp2_with fail
    go_ret
    exact ⟨rfl, rfl⟩
theorem heldN_nil (k : Int) (w : World) (h0 : 0 < k) (h1 : k ≤ 8000000) : Calls Try.prog 55 #[.slice none 0 0, .int .i64 k] w fun e w' => e = .returned (.int .i64 k) ∧ w = w' := by
  go_enter Try.func55, Try.ntmps55
  go_wp2_with fail
  go_loopw [1, 5] (fun q i wr => i = .int .i64 0 ∧ q = .int .i64 k ∧ w = wr) (fun _ i _ => 0)
  case atStart => exact ⟨rfl, rfl, rfl⟩
  case round =>
    obtain ⟨rfl, rfl, rfl⟩ := hrel
    go_wp2_with fail
    go_ret
    exact ⟨rfl, rfl⟩

theorem ndT_succ {ns : List Nd} {j : Nat} {x : Nd} (h : ns[j]? = some x) : ndT ns (j + 1) = ndT ns j + 2 + x.links.length := by
  unfold ndT
  rw [sumBy_snoc (fun c : Nd => c.links.length) h]
  omega
theorem ndT_le (ns : List Nd) {j : Nat} (hj : j ≤ ns.length) : ndT ns j ≤ ndMk ns := by
  unfold ndT ndMk
  have := sumBy_take (fun c : Nd => c.links.length) ns j
  omega
theorem ndT_all (ns : List Nd) : ndT ns ns.length = ndMk ns := by unfold ndT ndMk; rw [List.take_length]

/-- the first j nodes bear their marks -/
def NdMid (w : World) (lo hi : Nat) (P : Plan) (g n : Nat) (ns : List Nd) (k : Int) (ml : Nat → Nat → Value) (j : Nat) : Prop :=
  (∃ f, w.rowIs g 103 (P.c1 * 3) f ∧ (∀ x, x < n → f (x * 3 + 2) = .slice (P.LA x) (lnOf ns x) (P.LC x)) ∧ ∀ x, x < j → f (x * 3) = mkc k ns x ∧ f (x * 3 + 1) = mkp k ns x) ∧
    (∀ x, x < j → RowR w lo hi 3 1 (P.LA x) (lnOf ns x) (P.LC x) (mkl k ns x)) ∧ ∀ x, j ≤ x → x < n → RowR w lo hi 3 1 (P.LA x) (lnOf ns x) (P.LC x) (ml x)
def put2n (w : World) (g j : Nat) (a b : Value) : World := (w.setCell ⟨g, j * 3, none⟩ a).setCell ⟨g, j * 3 + 1, none⟩ b
theorem put2n_row {w : World} {g j m : Nat} {a b : Value} {f : Nat → Value} {t : TypeId} (h : w.rowIs g t m f) : (put2n w g j a b).rowIs g t m (fun i => if i = j * 3 + 1 then b else if i = j * 3 then a else f i) := (h.set (j * 3) a).set (j * 3 + 1) b
theorem put2n_chg (w : World) (g j : Nat) (a b : Value) {S : Nat → Prop} (hS : S g) : Chg S w (put2n w g j a b) := (Chg.set w hS _ _).trans (Chg.set _ hS _ _)
theorem links_put {w : World} {lo hi g m j n c : Nat} {f : Nat → Value} {A : Option Addr} {M : Nat → Value} {a b : Value} (hg : w.rowIs g 103 m f) (h : RowR w lo hi 3 1 A n c M) : RowR (put2n w g j a b) lo hi 3 1 A n c M :=
  h.chg (put2n_chg w g j a b (S := fun x => x = g) rfl) (fun g2 e2 hr2 e3 => by
    subst e3
    rcases h with ⟨e, _⟩ | ⟨g3, f3, e, -, -, -, hr3, -⟩
    · rw [blk, e] at e2; cases e2
    · rw [blk, e] at e2
      injection e2 with e2
      injection e2 with e2
      subst e2
      have := (rowIs_uniq hg hr3).1
      revert this
      decide)
theorem ndMid_next {w w3 : World} {lo hi g n j : Nat} {P : Plan} {ns : List Nd} {k : Int} {ml : Nat → Nat → Value} (h : NdMid w lo hi P g n ns k ml j) (hj : j < n) (hap : P.Apart n)
    (hc : Chg (blk (P.LA j)) (put2n w g j (mkc k ns j) (mkp k ns j)) w3) (hr : RowR w3 lo hi 3 1 (P.LA j) (lnOf ns j) (P.LC j) (mkl k ns j)) : NdMid w3 lo hi P g n ns k ml (j + 1) := by
  obtain ⟨⟨f, hrow, hs, hm⟩, h1, h2⟩ := h
  have hrow2 := put2n_row (j := j) (a := mkc k ns j) (b := mkp k ns j) hrow
  have hne : ¬ blk (P.LA j) g := fun e => by
    rcases h2 j (Nat.le_refl _) hj with ⟨e2, _⟩ | ⟨g3, f3, e2, -, -, -, hr3, -⟩
    · rw [blk, e2] at e; cases e
    · rw [blk, e2] at e
      injection e with e
      injection e with e
      subst e
      have := (rowIs_uniq hrow hr3).1
      revert this
      decide
  have other : ∀ x, x < n → x ≠ j → ∀ M, RowR w lo hi 3 1 (P.LA x) (lnOf ns x) (P.LC x) M → RowR w3 lo hi 3 1 (P.LA x) (lnOf ns x) (P.LC x) M := fun x hx hxj M hM =>
    (links_put hrow hM).chg hc (fun g2 e2 _ e3 => by
      have hne2 : P.LA x ≠ none := by rw [e2]; simp
      have := (hap x hx hne2).2 j hj (fun e => hxj e.symm)
      exact this (by rw [e2, e3]))
  refine ⟨⟨_, hrow2.of_block (hc.block g hrow2.lt hne), fun x hx => ?_, fun x hx => ?_⟩, fun x hx => ?_, fun x hx hxn => ?_⟩
  · show (if _ then _ else if _ then _ else _) = _
    rw [if_neg (by omega), if_neg (by omega)]
    exact hs x hx
  · by_cases e : x = j
    · subst e
      exact ⟨by show (if _ then _ else if _ then _ else _) = _; rw [if_neg (by omega), if_pos rfl], by show (if _ then _ else if _ then _ else _) = _; rw [if_pos rfl]⟩
    · refine ⟨?_, ?_⟩
      · show (if _ then _ else if _ then _ else _) = _
        rw [if_neg (by omega), if_neg (by omega)]
        exact (hm x (by omega)).1
      · show (if _ then _ else if _ then _ else _) = _
        rw [if_neg (by omega), if_neg (by omega)]
        exact (hm x (by omega)).2
  · by_cases e : x = j
    · subst e; exact hr
    · exact other x (by omega) e _ (h1 x (by omega))
  · exact other x hxn (by omega) _ (h2 x (by omega) hxn)

set_option maxRecDepth 20000 in
set_option maxHeartbeats 1600000 in
theorem markNc_any (P : Plan) (g n lo hi : Nat) (ns : List Nd) (ml : Nat → Nat → Value) (f : Nat → Value) (k : Int) (w : World) (hl : ns.length = n) (hr : w.rowIs g 103 (P.c1 * 3) f) (hc : n ≤ P.c1) (hs : ∀ x, x < n → f (x * 3 + 2) = .slice (P.LA x) (lnOf ns x) (P.LC x))
    (hlk : ∀ x, x < n → RowR w lo hi 3 1 (P.LA x) (lnOf ns x) (P.LC x) (ml x)) (hap : P.Apart n) (h0 : 0 < k) (h1 : k ≤ 3200000) (hwt : ndMk ns ≤ 1048576) :
    Calls Try.prog 51 #[.slice (some ⟨g, 0, none⟩) n P.c1, .int .i64 k] w fun e w' => e = .returned (.int .i64 (k + ndMk ns)) ∧ NdMid w' lo hi P g n ns k ml n ∧ Chg (fun x => x = g ∨ ∃ j, j < n ∧ blk (P.LA j) x) w w' := by
  obtain ⟨cp, hcp⟩ : ∃ cp, P.c1 = cp := ⟨_, rfl⟩
  have HM0 := Lib.hid (show NdMid w lo hi P g n ns k ml 0 from ⟨⟨f, hr, hs, fun x hx => absurd hx (Nat.not_lt_zero x)⟩, fun x hx => absurd hx (Nat.not_lt_zero x), fun x _ hx => hlk x hx⟩)
  have HL := Lib.hid hl
  have HAp := Lib.hid hap
  have HCp := Lib.hid hcp
  have hn : n ≤ 1048576 := by unfold ndMk at hwt; omega
  rw [hcp] at hc ⊢
  clear hl hr hs hlk hap hcp
  go_enter Try.func51, Try.ntmps51
  go_wp2_with fail
  go_loopw [1, 5] (fun q i wr => ∃ j : Nat, j ≤ n ∧ i = .int .i64 j ∧ q = .int .i64 (k + ndT ns j) ∧ NdMid wr lo hi P g n ns k ml j ∧ Chg (fun x => x = g ∨ ∃ j, j < n ∧ blk (P.LA j) x) w wr) (fun _ i _ => n - (intOf i).toNat)
  case atStart => exact ⟨0, Nat.zero_le _, rfl, by simp [ndT, sumBy], HM0.out, Chg.refl _ _⟩
  case round =>
    obtain ⟨j, hj, rfl, rfl, hmid, hch⟩ := hrel
    by_cases hlt : j < n
    · have hx : ns[j]? = some (ns[j]'(by rw [HL.out]; exact hlt)) := List.getElem?_eq_getElem _
      have hT := ndT_succ hx
      have hTl := ndT_le ns (show j + 1 ≤ ns.length by rw [HL.out]; omega)
      have hln : lnOf ns j = (ns[j]'(by rw [HL.out]; exact hlt)).links.length := by unfold lnOf; rw [linksOf_at hx]
      rw [← hln] at hT
      obtain ⟨T, hTe⟩ : ∃ T, ndT ns j = T := ⟨_, rfl⟩
      obtain ⟨m, hm⟩ : ∃ m, lnOf ns j = m := ⟨_, rfl⟩
      rw [hTe, hm] at hT
      have HT := Lib.hid hT
      have HTe := Lib.hid hTe
      have HTl : T + 2 + m ≤ 1048576 := by omega
      have HMid := Lib.hid hmid
      have HCh := Lib.hid hch
      obtain ⟨⟨f', hrow', hs', -⟩, -, h2⟩ := hmid
      have hlk := h2 j (Nat.le_refl _) hlt
      have z0 := hrow'.cell (show j * 3 < P.c1 * 3 by rw [HCp.out]; omega)
      have z1 := hrow'.cell (show j * 3 + 1 < P.c1 * 3 by rw [HCp.out]; omega)
      have z2 := (hrow'.cell (show j * 3 + 2 < P.c1 * 3 by rw [HCp.out]; omega)).trans (by rw [hs' j hlt])
      have f0 := hrow'.frozen (j * 3)
      have f1 := hrow'.frozen (j * 3 + 1)
      have hrow2 := put2n_row (j := j) (a := .int .i64 (k + T)) (b := .int .i64 (k + T + 1)) hrow'
      have hlk2 := links_put (j := j) (a := .int .i64 (k + T)) (b := .int .i64 (k + T + 1)) hrow' hlk
      have hch2 := put2n_chg wr g j (.int .i64 (k + T)) (.int .i64 (k + T + 1)) (S := fun x => x = g ∨ ∃ j, j < n ∧ blk (P.LA j) x) (.inl rfl)
      obtain ⟨LA, hLA⟩ : ∃ LA, P.LA j = LA := ⟨_, rfl⟩
      obtain ⟨LC, hLC⟩ : ∃ LC, P.LC j = LC := ⟨_, rfl⟩
      have HLA := Lib.hid (And.intro hLA (And.intro hLC hm))
      rw [hm] at hlk2 z2
      rw [hLA, hLC] at hlk2 z2
      unfold put2n at hlk2 hch2
      have HLk2 := Lib.hid hlk2
      have HCh2 := Lib.hid hch2
      have HC1 : Hid (mkc k ns j = .int .i64 (k + T)) := Lib.hid (by unfold mkc; rw [HTe.out])
      have HC2 : Hid (mkp k ns j = .int .i64 (k + T + 1)) := Lib.hid (by unfold mkp; rw [HTe.out])
      have HC3 : Hid (mkl k ns j = mki (k + T + 1 + 1)) := Lib.hid (by unfold mkl; rw [HTe.out]; congr 1; omega)
      rw [hTe]
      clear hx hT hTl hln hTe hm hch hrow' hs' h2 hlk hrow2 hlk2 hch2 hLA hLC
      go_wp2_with fail
      refine (markIR_any LA m LC _ (k + T + 1 + 1) _ lo hi HLk2.out (by omega) (by omega) (by omega)).mono ?_
      rintro e w2 ⟨rfl, hrm, hgm⟩
      have HN := Lib.hid (ndMid_next HMid.out hlt HAp.out (w3 := w2) (by rw [HC1.out, HC2.out, HLA.out.1]; exact hgm) (by rw [HC3.out, HLA.out.1, HLA.out.2.1, HLA.out.2.2]; exact hrm))
      have HCn := Lib.hid ((HCh.out.trans HCh2.out).trans (hgm.more (fun x hx => .inr ⟨j, hlt, by rw [HLA.out.1]; exact hx⟩)))
      clear hrm hgm z0 z1 z2 f0 f1
      go_wp2_with fail
      go_roundw
      case rel => exact ⟨j + 1, by omega, by go_num, by rw [HT.out]; go_num, HN.out, HCn.out⟩
      case measure => simp [intOf]; omega
    · obtain rfl : j = n := by omega
      have HE : Hid (ndT ns j = ndMk ns) := Lib.hid (by rw [← HL.out]; exact ndT_all ns)
      have HMid := Lib.hid hmid
      have HCh := Lib.hid hch
      clear hmid hch
      go_wp2_with fail
      go_ret
      exact ⟨by rw [HE.out]; rfl, HMid.out, HCh.out⟩

theorem markNR_any (P : Plan) (n lo hi : Nat) (ns : List Nd) (mc mp : Nat → Value) (ml : Nat → Nat → Value) (k : Int) (w : World) (hl : ns.length = n) (h : Nodes w lo hi P n (lnOf ns) mc mp ml) (hap : P.Apart n) (h0 : 0 < k) (h1 : k ≤ 3200000) (hwt : ndMk ns ≤ 1048576) :
    Calls Try.prog 51 #[.slice P.A1 n P.c1, .int .i64 k] w fun e w' => e = .returned (.int .i64 (k + ndMk ns)) ∧ Nodes w' lo hi P n (lnOf ns) (mkc k ns) (mkp k ns) (mkl k ns) ∧ Chg (P.S1 n) w w' := by
  obtain ⟨h2, h3⟩ := h
  rcases h2 with ⟨e1, e2, rfl⟩ | ⟨g, f, e1, a1, a2, hc, hr, hf⟩
  · rw [e1, e2]
    refine (markN_nil k w h0 (by omega)).mono ?_
    rintro e w1 ⟨rfl, rfl⟩
    have : ndMk ns = 0 := by
      cases ns with
      | nil => rfl
      | cons a r => simp at hl
    exact ⟨by rw [this]; simp, ⟨.inl ⟨e1, e2, rfl⟩, fun k hk => absurd hk (Nat.not_lt_zero k)⟩, Chg.refl _ _⟩
  · rw [e1]
    refine (markNc_any P g n lo hi ns ml f k w hl hr hc (fun x hx => (hf _ (by omega)).trans (ndc_at P _ _ _ x).2.2) h3 hap h0 h1 hwt).mono ?_
    rintro e w1 ⟨rfl, ⟨⟨f1, hr1, hs1, hm1⟩, hl1, -⟩, hch⟩
    exact ⟨rfl, ⟨.inr ⟨g, f1, e1, a1, a2, hc, hr1, ndc_of (fun x hx => ⟨(hm1 x hx).1, (hm1 x hx).2, hs1 x hx⟩)⟩, hl1⟩, hch.more (fun x hx => hx.imp (fun e => by rw [blk, e1, e]) id)⟩

set_option maxRecDepth 20000 in
set_option maxHeartbeats 1600000 in
theorem heldNc_any (P : Plan) (g n lo hi : Nat) (ns : List Nd) (f : Nat → Value) (k : Int) (w : World) (hl : ns.length = n) (hr : w.rowIs g 103 (P.c1 * 3) f) (hc : n ≤ P.c1) (hs : ∀ x, x < n → f (x * 3) = mkc k ns x ∧ f (x * 3 + 1) = mkp k ns x ∧ f (x * 3 + 2) = .slice (P.LA x) (lnOf ns x) (P.LC x))
    (hlk : ∀ x, x < n → RowR w lo hi 3 1 (P.LA x) (lnOf ns x) (P.LC x) (mkl k ns x)) (h0 : 0 < k) (h1 : k ≤ 3200000) (hwt : ndMk ns ≤ 1048576) :
    Calls Try.prog 55 #[.slice (some ⟨g, 0, none⟩) n P.c1, .int .i64 k] w fun e w' => e = .returned (.int .i64 (k + ndMk ns)) ∧ Below w.heap.size w w' := by
  obtain ⟨cp, hcp⟩ : ∃ cp, P.c1 = cp := ⟨_, rfl⟩
  have hgw := hr.lt
  have HL := Lib.hid hl
  have HCp := Lib.hid hcp
  have HR := Lib.hid hr
  have HS := Lib.hid hs
  have HLk := Lib.hid hlk
  have hn : n ≤ 1048576 := by unfold ndMk at hwt; omega
  rw [hcp] at hc ⊢
  clear hl hr hs hlk hcp
  go_enter Try.func55, Try.ntmps55
  go_wp2_with fail
  go_loopw [1, 5] (fun q i wr => ∃ j : Nat, j ≤ n ∧ i = .int .i64 j ∧ q = .int .i64 (k + ndT ns j) ∧ Below w.heap.size w wr) (fun _ i _ => n - (intOf i).toNat)
  case atStart => exact ⟨0, Nat.zero_le _, rfl, by simp [ndT, sumBy], Below.refl _ _⟩
  case round =>
    obtain ⟨j, hj, rfl, rfl, hb⟩ := hrel
    by_cases hlt : j < n
    · have hx : ns[j]? = some (ns[j]'(by rw [HL.out]; exact hlt)) := List.getElem?_eq_getElem _
      have hT := ndT_succ hx
      have hTl := ndT_le ns (show j + 1 ≤ ns.length by rw [HL.out]; omega)
      have hln : lnOf ns j = (ns[j]'(by rw [HL.out]; exact hlt)).links.length := by unfold lnOf; rw [linksOf_at hx]
      rw [← hln] at hT
      obtain ⟨T, hTe⟩ : ∃ T, ndT ns j = T := ⟨_, rfl⟩
      obtain ⟨m, hm⟩ : ∃ m, lnOf ns j = m := ⟨_, rfl⟩
      rw [hTe, hm] at hT
      have HT := Lib.hid hT
      have HTe := Lib.hid hTe
      have HTl : T + 2 + m ≤ 1048576 := by omega
      obtain ⟨s0, s1, s2⟩ := HS.out j hlt
      have z0 : wr.cell? ⟨g, j * 3, none⟩ = some (.int .i64 (k + T)) := (hb.cell (p := ⟨g, j * 3, none⟩) hgw).trans ((HR.out.cell (show j * 3 < P.c1 * 3 by rw [HCp.out]; omega)).trans (by rw [s0, mkc, HTe.out]))
      have z1 : wr.cell? ⟨g, j * 3 + 1, none⟩ = some (.int .i64 (k + T + 1)) := (hb.cell (p := ⟨g, j * 3 + 1, none⟩) hgw).trans ((HR.out.cell (show j * 3 + 1 < P.c1 * 3 by rw [HCp.out]; omega)).trans (by rw [s1, mkp, HTe.out]))
      obtain ⟨LA, hLA⟩ : ∃ LA, P.LA j = LA := ⟨_, rfl⟩
      obtain ⟨LC, hLC⟩ : ∃ LC, P.LC j = LC := ⟨_, rfl⟩
      have z2 : wr.cell? ⟨g, j * 3 + 2, none⟩ = some (.slice LA m LC) := (hb.cell (p := ⟨g, j * 3 + 2, none⟩) hgw).trans ((HR.out.cell (show j * 3 + 2 < P.c1 * 3 by rw [HCp.out]; omega)).trans (by rw [s2, hLA, hLC, hm]))
      have hlk := HLk.out j hlt
      rw [hLA, hLC, hm] at hlk
      have HC3 : Hid (mkl k ns j = mki (k + T + 1 + 1)) := Lib.hid (by unfold mkl; rw [HTe.out]; congr 1; omega)
      rw [HC3.out] at hlk
      have HLk2 := Lib.hid hlk
      have HB := Lib.hid hb
      rw [hTe]
      clear hx hT hTl hln hTe hm hb s0 s1 s2 hlk hLA hLC
      go_wp2_with fail
      try go_quiet (fail)
      go_wp2_with fail
      try go_quiet (fail)
      go_wp2_with fail
      refine (heldIR_any LA m LC (k + T + 1 + 1) _ lo hi (HLk2.out.on ?_) (by omega) (by omega) (by omega)).mono ?_
      · exact (by first | exact HB.out | exact HB.out.drew | exact HB.out.drew.drew)
      rintro e w2 ⟨rfl, hb2⟩
      have HB2 : Hid (Below w.heap.size w w2) := Lib.hid (by first | exact HB.out.trans (hb2.mono HB.out.size) | exact HB.out.drew.trans (hb2.mono HB.out.drew.size) | exact HB.out.drew.drew.trans (hb2.mono HB.out.drew.drew.size))
      clear hb2 z0 z1 z2
      go_wp2_with fail
      go_roundw
      case rel => exact ⟨j + 1, by omega, by go_num, by rw [HT.out]; go_num, HB2.out⟩
      case measure => simp [intOf]; omega
    · obtain rfl : j = n := by omega
      have HE : Hid (ndT ns j = ndMk ns) := Lib.hid (by rw [← HL.out]; exact ndT_all ns)
      go_wp2_with fail
      go_ret
      exact ⟨by rw [HE.out]; rfl, hb⟩
theorem heldNR_any (P : Plan) (n lo hi : Nat) (ns : List Nd) (k : Int) (w : World) (hl : ns.length = n) (h : Nodes w lo hi P n (lnOf ns) (mkc k ns) (mkp k ns) (mkl k ns)) (h0 : 0 < k) (h1 : k ≤ 3200000) (hwt : ndMk ns ≤ 1048576) :
    Calls Try.prog 55 #[.slice P.A1 n P.c1, .int .i64 k] w fun e w' => e = .returned (.int .i64 (k + ndMk ns)) ∧ Below w.heap.size w w' := by
  obtain ⟨h2, h3⟩ := h
  rcases h2 with ⟨e1, e2, rfl⟩ | ⟨g, f, e1, a1, a2, hc, hr, hf⟩
  · rw [e1, e2]
    refine (heldN_nil k w h0 (by omega)).mono ?_
    rintro e w1 ⟨rfl, rfl⟩
    have : ndMk ns = 0 := by
      cases ns with
      | nil => rfl
      | cons a r => simp at hl
    exact ⟨by rw [this]; simp, Below.refl _ _⟩
  · rw [e1]
    exact heldNc_any P g n lo hi ns f k w hl hr hc (fun x hx => by
      obtain ⟨g0, g1, g2⟩ := ndc_at P (lnOf ns) (mkc k ns) (mkp k ns) x
      exact ⟨(hf _ (by omega)).trans g0, (hf _ (by omega)).trans g1, (hf _ (by omega)).trans g2⟩) h3 h0 h1 hwt
end Go.Proofs.Ytifialdkjnmfoab.bm
