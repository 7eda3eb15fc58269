/- The places above a node: spec.l2Above, impl.ancestorsOf. -/
import Derived.Test.YtdejbacfgcahlaaRs
import Derived.Maps.AppendAt
namespace Go.Proofs.Ytdejbacfgcahlaa.abv
open kit bg opn strs only hb sig isig gd inn ht hi cf ib rs
open Go.RowKit
set_option linter.unusedVariables false

/-- the parents from a node up, at most so many -/
def abv (ns : List Nd) : Nat → Int → List Int
  | 0, _ => []
  | f + 1, k => if k < 0 then [] else match ns[k.toNat]? with
    | some x => x.parent :: abv ns f x.parent
    | none => []
theorem abv_neg {ns : List Nd} {f : Nat} {k : Int} (h : k < 0) : abv ns f k = [] := by
  cases f with
  | zero => rfl
  | succ f => unfold abv; rw [if_pos h]
theorem abv_step {ns : List Nd} {f k : Nat} {x : Nd} (h : ns[k]? = some x) : abv ns (f + 1) (k : Int) = x.parent :: abv ns f x.parent := by
  rw [abv, if_neg (by omega)]
  simp only [Int.toNat_natCast, h]
theorem abv_len (ns : List Nd) : ∀ (f : Nat) (k : Int), (abv ns f k).length ≤ f
  | 0, _ => Nat.le_refl _
  | f + 1, k => by
    unfold abv
    split
    · simp
    · split
      · have := abv_len ns f ‹Nd›.parent; simp only [List.length_cons]; omega
      · simp
/-- a node's parent comes before it, and is no root but one of the few -/
def Up (ns : List Nd) : Prop := ∀ (j : Nat) x, ns[j]? = some x → x.parent < j
theorem up_of {cs : List Ctl} {b : Big} (h : bigB cs b = true) : Up b.nodes := fun j x hx => by
  have h1 := ((big_of h).2.2.2.2.1 j x hx).1
  unfold seatB underB at h1
  simp only [Bool.and_eq_true] at h1
  have h2 := h1.2
  by_cases hn : x.parent < 0
  · omega
  · rw [if_neg hn] at h2
    simp only [Bool.and_eq_true, decide_eq_true_eq] at h2
    exact h2.1
theorem size_nodes {cs : List Ctl} {b : Big} (h : bigB cs b = true) : b.nodes.length ≤ 8 := (sizes_of (big_of h).2.1).2.2.1

set_option maxRecDepth 20000 in
set_option maxHeartbeats 1600000 in
theorem l2Above_any (v0 v2 v3 v4 v5 : Value) (A1 : Option Addr) (n1 c1 : Nat) (ns : List Nd) (z0 : Int) (w0 w : World) (h : NdsAt w0 w0.heap.size A1 n1 ns) (hb0 : Below w0.heap.size w0 w) (hn : n1 ≤ 8) (hu : Up ns) (hz : z0 < n1) :
    Calls Try.prog 99 #[.agg #[v0, .slice A1 n1 c1, v2, v3, v4, v5], .int .i64 z0] w (ColPost 3 ((abv ns n1 z0).map (Value.int .i64)) w) := by
  obtain ⟨i0, hi, hz0, hz1, hz2⟩ := info_parts int_info
  have HI := Lib.hid (And.intro hi (And.intro hz0 (And.intro hz1 hz2)))
  have HL := Lib.hid h.1
  have HU := Lib.hid hu
  have HBox := Lib.hid (six_new w v0 (.slice A1 n1 c1) v2 v3 v4 v5 40)
  clear hi hz0 hz1 hz2 hu
  go_enter Try.func99, Try.ntmps99
  go_wp2_with fail
  go_loopw [1, 5] (fun p v wr => ∃ (f : Nat) (z : Int) (ys : List Int), p = .int .i64 z ∧ z < f ∧ f ≤ n1 ∧ ys.length + f = n1 ∧ ys ++ abv ns f z = abv ns n1 z0 ∧ Owns wr (w.heap.size + 1) 3 v (ys.map (Value.int .i64)) ∧ Below (w.heap.size + 1) (w.alloc (.cells #[v0, .slice A1 n1 c1, v2, v3, v4, v5] 40)) wr) (fun p _ _ => (intOf p + 1).toNat)
  case atStart =>
    exact ⟨n1, z0, [], rfl, hz, Nat.le_refl _, by simp, by simp, ⟨by
      have := World.ownsRow_made (base := w.heap.size + 1) (e := 3) (size := 1) (w.alloc (.cells #[v0, .slice A1 n1 c1, v2, v3, v4, v5] 40)) #[] 0 (by simp) (by unfold maxLen; omega) (by simp)
      simpa using this, by simp⟩, (Below.refl _ _).alloc (by simp) _⟩
  case round =>
    obtain ⟨f, z, ys, rfl, hzf, hfn, hlen, hys, ⟨hown, hnn⟩, hbel⟩ := hrel
    have hsz := hbel.size
    simp at hsz
    have hrow := HBox.out.of_block (hbel.block w.heap.size (by omega))
    obtain ⟨x0, x1, x2, x3, x4, x5⟩ := row6 hrow
    simp only [six] at x0 x1 x2 x3 x4 x5
    simp at x0 x1 x2 x3 x4 x5
    have hbw : Below w0.heap.size w0 wr := hb0.trans (((Below.refl w0.heap.size w).alloc hb0.size _).trans (hbel.mono (by have := hb0.size; omega)))
    clear hrow
    by_cases hlt : z < 0
    · have hfull : ys = abv ns n1 z0 := by rw [← hys, abv_neg hlt, List.append_nil]
      rw [hfull] at hown
      have HOwn := Lib.hid (show Owns wr w.heap.size 3 _ _ from (Owns.mono ⟨hown, hnn⟩ (Nat.le_succ _)))
      clear hown hfull hys x0 x1 x2 x3 x4 x5
      go_wp2_with fail
      go_ret
      exact ⟨_, rfl, HOwn.out, ((Below.refl w.heap.size w).alloc (Nat.le_refl _) _).trans (hbel.mono (Nat.le_succ _))⟩
    · obtain ⟨k, rfl⟩ : ∃ k : Nat, z = k := ⟨z.toNat, by omega⟩
      have hkn : k < n1 := by omega
      obtain ⟨b, off, x, rfl, hbb, hx, c0, c1', -⟩ := h.get hkn
      have d1 := (hbw.cell (p := ⟨b, off + k * 3 + 1, none⟩) hbb).trans c1'
      obtain ⟨f', rfl⟩ : ∃ f', f = f' + 1 := ⟨f - 1, by omega⟩
      have hxp := HU.out k x hx
      have HT := Lib.hid (show (ys ++ [x.parent]) ++ abv ns f' x.parent = abv ns n1 z0 by rw [← hys, abv_step hx]; simp)
      have HP := Lib.hid (And.intro hxp (And.intro hzf (And.intro hfn hlen)))
      obtain ⟨pp, hpp⟩ : ∃ pp, x.parent = pp := ⟨_, rfl⟩
      rw [hpp] at d1 HT HP
      have hln : (ys.map (Value.int .i64)).length = ys.length := List.length_map _
      rw [hln] at hown
      have HLn := Lib.hid hln
      have HN := Lib.hid hnn
      have hyl : ys.length ≤ 8 := by omega
      obtain ⟨D, hD⟩ : ∃ D, ys.map (Value.int .i64) = D := ⟨_, rfl⟩
      rw [hD] at hown HLn
      obtain ⟨N, hN⟩ : ∃ N, ys.length = N := ⟨_, rfl⟩
      rw [hN] at hown HLn hyl
      have HD := Lib.hid hD
      clear hx c0 c1' hln hnn hD hys hxp hpp hzf hlen hN
      go_wp2_with (at_builtin; refine wpList_append_own _ rfl _ _ 30 rfl (w.heap.size + 1) 3 i0 (.int .i64 0) 1 8 Try.underlying30 HI.out.1 HI.out.2.1 HI.out.2.2.1 HI.out.2.2.2 rfl (by decide) _ _ _ rfl (hown.alloc _) ⟨wr.heap.size, 0, none⟩ 1 1 [.int .i64 pp] rfl rfl (cell_one_new _ _ _) (fun x hx => by simp at hx; subst hx; rfl) (by unfold maxLen; omega) (by omega) (by simp; omega) ?_; intro v1 w1 hown1 hgrow1 hnil1)
      have hb1 := Lib.hid ((hbel.alloc (by omega) (.cells #[.int .i64 pp] 3)).grown hgrow1 (by simp; omega) (fun j hj => (hown.lt j hj).1))
      have HOwn := Lib.hid hown1
      have HN1 : Hid (v1 ≠ .slice none 0 0) := fun h => HN.out (hnil1.1 h).1
      clear hown1 hgrow1 hnil1 hown x0 x1 x2 x3 x4 x5
      go_wp2_with fail
      go_roundw
      case rel => exact ⟨f', pp, ys ++ [pp], rfl, by have := HP.out; omega, by have := HP.out; omega, by have := HP.out; simp; omega, HT.out, ⟨by
        have := HOwn.out
        rw [List.map_append, HD.out, List.map_cons, List.map_nil, List.length_append, List.length_singleton, HLn.out]
        exact this, HN1.out⟩, hb1.out⟩
      case measure => have := HP.out; simp [intOf]; omega

set_option maxRecDepth 20000 in
set_option maxHeartbeats 1600000 in
theorem anc_any (v0 v2 v3 v4 v5 : Value) (A1 : Option Addr) (n1 c1 : Nat) (ns : List Nd) (z0 : Int) (w0 w : World) (h : NdsAt w0 w0.heap.size A1 n1 ns) (hb0 : Below w0.heap.size w0 w) (hn : n1 ≤ 8) (hu : Up ns) (hz : z0 < n1) :
    Calls Try.prog 100 #[.agg #[v0, .slice A1 n1 c1, v2, v3, v4, v5], .int .i64 z0] w (ColPost 3 ((abv ns n1 z0).map (Value.int .i64)) w) := by
  obtain ⟨i0, hi, hz0, hz1, hz2⟩ := info_parts int_info
  have HI := Lib.hid (And.intro hi (And.intro hz0 (And.intro hz1 hz2)))
  have HL := Lib.hid h.1
  have HU := Lib.hid hu
  have HBox := Lib.hid (six_new w v0 (.slice A1 n1 c1) v2 v3 v4 v5 40)
  clear hi hz0 hz1 hz2 hu
  go_enter Try.func100, Try.ntmps100
  go_wp2_with fail
  go_loopw [5, 6] (fun v p wr => ∃ (f : Nat) (z : Int) (ys : List Int), p = .int .i64 z ∧ z < f ∧ f ≤ n1 ∧ ys.length + f = n1 ∧ ys ++ abv ns f z = abv ns n1 z0 ∧ Owns wr (w.heap.size + 1) 3 v (ys.map (Value.int .i64)) ∧ Below (w.heap.size + 1) (w.alloc (.cells #[v0, .slice A1 n1 c1, v2, v3, v4, v5] 40)) wr) (fun _ p _ => (intOf p + 1).toNat)
  case atStart =>
    exact ⟨n1, z0, [], rfl, hz, Nat.le_refl _, by simp, by simp, ⟨by
      have := World.ownsRow_made (base := w.heap.size + 1) (e := 3) (size := 1) (w.alloc (.cells #[v0, .slice A1 n1 c1, v2, v3, v4, v5] 40)) #[] 0 (by simp) (by unfold maxLen; omega) (by simp)
      simpa using this, by simp⟩, (Below.refl _ _).alloc (by simp) _⟩
  case round =>
    obtain ⟨f, z, ys, rfl, hzf, hfn, hlen, hys, ⟨hown, hnn⟩, hbel⟩ := hrel
    have hsz := hbel.size
    simp at hsz
    have hrow := HBox.out.of_block (hbel.block w.heap.size (by omega))
    obtain ⟨x0, x1, x2, x3, x4, x5⟩ := row6 hrow
    simp only [six] at x0 x1 x2 x3 x4 x5
    simp at x0 x1 x2 x3 x4 x5
    have hbw : Below w0.heap.size w0 wr := hb0.trans (((Below.refl w0.heap.size w).alloc hb0.size _).trans (hbel.mono (by have := hb0.size; omega)))
    clear hrow
    by_cases hlt : z < 0
    · have hfull : ys = abv ns n1 z0 := by rw [← hys, abv_neg hlt, List.append_nil]
      rw [hfull] at hown
      have HOwn := Lib.hid (show Owns wr w.heap.size 3 _ _ from (Owns.mono ⟨hown, hnn⟩ (Nat.le_succ _)))
      clear hown hfull hys x0 x1 x2 x3 x4 x5
      go_wp2_with fail
      go_ret
      exact ⟨_, rfl, HOwn.out, ((Below.refl w.heap.size w).alloc (Nat.le_refl _) _).trans (hbel.mono (Nat.le_succ _))⟩
    · obtain ⟨k, rfl⟩ : ∃ k : Nat, z = k := ⟨z.toNat, by omega⟩
      have hkn : k < n1 := by omega
      obtain ⟨b, off, x, rfl, hbb, hx, c0, c1', -⟩ := h.get hkn
      have d1 := (hbw.cell (p := ⟨b, off + k * 3 + 1, none⟩) hbb).trans c1'
      obtain ⟨f', rfl⟩ : ∃ f', f = f' + 1 := ⟨f - 1, by omega⟩
      have hxp := HU.out k x hx
      have HT := Lib.hid (show (ys ++ [x.parent]) ++ abv ns f' x.parent = abv ns n1 z0 by rw [← hys, abv_step hx]; simp)
      have HP := Lib.hid (And.intro hxp (And.intro hzf (And.intro hfn hlen)))
      obtain ⟨pp, hpp⟩ : ∃ pp, x.parent = pp := ⟨_, rfl⟩
      rw [hpp] at d1 HT HP
      have hln : (ys.map (Value.int .i64)).length = ys.length := List.length_map _
      rw [hln] at hown
      have HLn := Lib.hid hln
      have HN := Lib.hid hnn
      have hyl : ys.length ≤ 8 := by omega
      obtain ⟨D, hD⟩ : ∃ D, ys.map (Value.int .i64) = D := ⟨_, rfl⟩
      rw [hD] at hown HLn
      obtain ⟨N, hN⟩ : ∃ N, ys.length = N := ⟨_, rfl⟩
      rw [hN] at hown HLn hyl
      have HD := Lib.hid hD
      clear hx c0 c1' hln hnn hD hys hxp hpp hzf hlen hN
      go_wp2_with (at_builtin; refine wpList_append_own _ rfl _ _ 30 rfl (w.heap.size + 1) 3 i0 (.int .i64 0) 1 8 Try.underlying30 HI.out.1 HI.out.2.1 HI.out.2.2.1 HI.out.2.2.2 rfl (by decide) _ _ _ rfl (hown.alloc _) ⟨wr.heap.size, 0, none⟩ 1 1 [.int .i64 pp] rfl rfl (cell_one_new _ _ _) (fun x hx => by simp at hx; subst hx; rfl) (by unfold maxLen; omega) (by omega) (by simp; omega) ?_; intro v1 w1 hown1 hgrow1 hnil1)
      have hb1 := Lib.hid ((hbel.alloc (by omega) (.cells #[.int .i64 pp] 3)).grown hgrow1 (by simp; omega) (fun j hj => (hown.lt j hj).1))
      have HOwn := Lib.hid hown1
      have HN1 : Hid (v1 ≠ .slice none 0 0) := fun h => HN.out (hnil1.1 h).1
      clear hown1 hgrow1 hnil1 hown x0 x1 x2 x3 x4 x5
      go_wp2_with fail
      go_roundw
      case rel => exact ⟨f', pp, ys ++ [pp], rfl, by have := HP.out; omega, by have := HP.out; omega, by have := HP.out; simp; omega, HT.out, ⟨by
        have := HOwn.out
        rw [List.map_append, HD.out, List.map_cons, List.map_nil, List.length_append, List.length_singleton, HLn.out]
        exact this, HN1.out⟩, hb1.out⟩
      case measure => have := HP.out; simp [intOf]; omega
end Go.Proofs.Ytdejbacfgcahlaa.abv
