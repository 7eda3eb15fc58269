/- The children of a place: spec.ChildrenOf, impl.ChildrenOf. -/
import Derived.Test.YtifialdkjnmfoaaRt
import Derived.Test.YtifialdkjnmfoaaAnc
import Derived.Maps.AppendAt
import Derived.Deep.RegionHeld3
namespace Go.Proofs.Ytifialdkjnmfoaa.chd
open kit bg opn strs only hb sg sig isig un gd inn ht hi cf ib rs rt abv anc
open Go.RowKit
set_option linter.unusedVariables false

/-- the numbers below k that a test takes, in ascending order -/
def sel (P : Nat → Bool) : Nat → List Int
  | 0 => []
  | k + 1 => if P k = true then sel P k ++ [(k : Int)] else sel P k
theorem sel_yes {P : Nat → Bool} {k : Nat} (h : P k = true) : sel P (k + 1) = sel P k ++ [(k : Int)] := by rw [sel, if_pos h]
theorem sel_no {P : Nat → Bool} {k : Nat} (h : P k = false) : sel P (k + 1) = sel P k := by rw [sel, if_neg (by simp [h])]
theorem sel_len (P : Nat → Bool) : ∀ k, (sel P k).length ≤ k
  | 0 => Nat.le_refl _
  | k + 1 => by
    have := sel_len P k
    cases h : P k with
    | true => rw [sel_yes h, List.length_append, List.length_singleton]; omega
    | false => rw [sel_no h]; omega
def kidP (ns : List Nd) (p : Int) (i : Nat) : Bool := match ns[i]? with
  | some x => decide (x.parent = p)
  | none => false
def siteP (zs : List Int) (p : Int) (i : Nat) : Bool := match zs[i]? with
  | some u => decide (u = p)
  | none => false
theorem kid_at {ns : List Nd} {p : Int} {i : Nat} {x : Nd} (h : ns[i]? = some x) : kidP ns p i = decide (x.parent = p) := by unfold kidP; rw [h]
theorem site_at {zs : List Int} {p : Int} {i : Nat} {u : Int} (h : zs[i]? = some u) : siteP zs p i = decide (u = p) := by unfold siteP; rw [h]

noncomputable def chQ (cs : List Ctl) (b : Big) (p : Int) : Bool := bigB cs b && (inb p (-b.roots) (-1) || inb p 0 (b.nodes.length - 1))
noncomputable def chA (cs : List Ctl) (b : Big) (p : Int) : List Int := if chQ cs b p = true then sel (kidP b.nodes p) b.nodes.length else []
noncomputable def chB (cs : List Ctl) (b : Big) (p : Int) : List Int := if chQ cs b p = true then sel (siteP b.sites p) b.sites.length else []
theorem chA_no {cs : List Ctl} {b : Big} {p : Int} (h : chQ cs b p = false) : chA cs b p = [] := by unfold chA; rw [h]; rfl
theorem chA_yes {cs : List Ctl} {b : Big} {p : Int} (h : chQ cs b p = true) : chA cs b p = sel (kidP b.nodes p) b.nodes.length := by unfold chA; rw [if_pos h]
theorem chB_no {cs : List Ctl} {b : Big} {p : Int} (h : chQ cs b p = false) : chB cs b p = [] := by unfold chB; rw [h]; rfl
theorem chB_yes {cs : List Ctl} {b : Big} {p : Int} (h : chQ cs b p = true) : chB cs b p = sel (siteP b.sites p) b.sites.length := by unfold chB; rw [if_pos h]
theorem chA_len {cs : List Ctl} {b : Big} {p : Int} (h : BigS b) : (chA cs b p).length ≤ 1048576 := by
  cases hq : chQ cs b p with
  | false => rw [chA_no hq]; simp
  | true => rw [chA_yes hq]; exact Nat.le_trans (sel_len _ _) h.1
theorem chB_len {cs : List Ctl} {b : Big} {p : Int} (h : BigS b) : (chB cs b p).length ≤ 1048576 := by
  cases hq : chQ cs b p with
  | false => rw [chB_no hq]; simp
  | true => rw [chB_yes hq]; exact Nat.le_trans (sel_len _ _) h.2.2.1
theorem place_eq (p R : Int) (m : Nat) (hR : 0 ≤ R) : inb p (-R) ((m : Int) - 1) = (inb p (-R) (-1) || inb p 0 ((m : Int) - 1)) := by
  unfold inb
  rw [← Bool.decide_or]
  congr 1
  exact propext ⟨fun h => by omega, fun h => by omega⟩
theorem roots_of {cs : List Ctl} {b : Big} (h : bigB cs b = true) : 0 ≤ b.roots ∧ b.roots ≤ 4 := (sizes_of (big_of h).2.1).1
theorem sites_of {cs : List Ctl} {b : Big} (h : bigB cs b = true) : b.sites.length ≤ 4 := (sizes_of (big_of h).2.1).2.2.2.1

set_option maxRecDepth 20000 in
set_option maxHeartbeats 1600000 in
theorem holes_any (v0 v1 v3 v4 v5 : Value) (A2 : Option Addr) (n2 c2 : Nat) (zs : List Int) (p : Int) (w0 w : World) (h : IntsAt w0 w0.heap.size A2 n2 zs) (hb0 : Below w0.heap.size w0 w) (hn : n2 ≤ 8) :
    Calls Try.prog 176 #[.agg #[v0, v1, .slice A2 n2 c2, v3, v4, v5], .int .i64 p] w (ColPost 3 ((sel (siteP zs p) n2).map (Value.int .i64)) w) := by
  obtain ⟨i0, hi, hz0, hz1, hz2⟩ := info_parts int_info
  have HI := Lib.hid (And.intro hi (And.intro hz0 (And.intro hz1 hz2)))
  have HBox := Lib.hid (six_new w v0 v1 (.slice A2 n2 c2) v3 v4 v5 39)
  clear hi hz0 hz1 hz2
  go_enter Try.func176, Try.ntmps176
  go_wp2_with fail
  go_loopw [5, 6] (fun v i wr => ∃ k : Nat, k ≤ n2 ∧ i = .int .i64 k ∧ Owns wr (w.heap.size + 1) 3 v ((sel (siteP zs p) k).map (Value.int .i64)) ∧ Below (w.heap.size + 1) (w.alloc (.cells #[v0, v1, .slice A2 n2 c2, v3, v4, v5] 39)) wr) (fun _ i _ => n2 - (intOf i).toNat)
  case atStart =>
    exact ⟨0, Nat.zero_le _, rfl, ⟨by
      have := World.ownsRow_made (base := w.heap.size + 1) (e := 3) (size := 1) (w.alloc (.cells #[v0, v1, .slice A2 n2 c2, v3, v4, v5] 39)) #[] 0 (by simp) (by unfold maxLen; omega) (by simp)
      simpa [sel] using this, by simp⟩, (Below.refl _ _).alloc (by simp) _⟩
  case round =>
    obtain ⟨k, hk, rfl, ⟨hown, hnn⟩, hbel⟩ := hrel
    have hsz := hbel.size
    simp at hsz
    have hrow := HBox.out.of_block (hbel.block w.heap.size (by omega))
    obtain ⟨x0, x1, x2, x3, x4, x5⟩ := row6 hrow
    simp only [six] at x0 x1 x2 x3 x4 x5
    simp at x0 x1 x2 x3 x4 x5
    have hbw : Below w0.heap.size w0 wr := hb0.trans (((Below.refl w0.heap.size w).alloc hb0.size _).trans (hbel.mono (by have := hb0.size; omega)))
    clear hrow
    by_cases hlt : k < n2
    · obtain ⟨b, off, u, rfl, hbb, hx, c0⟩ := IntsAt.get h hlt
      have d1 := (hbw.cell (p := ⟨b, off + k, none⟩) hbb).trans c0
      by_cases heq : u = p
      · have hsel := sel_yes (P := siteP zs p) (k := k) ((site_at hx).trans (decide_eq_true heq))
        have hlen := sel_len (siteP zs p) k
        have hln : ((sel (siteP zs p) k).map (Value.int .i64)).length = (sel (siteP zs p) k).length := List.length_map _
        rw [hln] at hown
        have HN := Lib.hid hnn
        obtain ⟨L, hL⟩ : ∃ L, (sel (siteP zs p) k) = L := ⟨_, rfl⟩
        rw [hL] at hown hlen hsel
        have HS := Lib.hid hsel
        obtain ⟨m, hm⟩ : ∃ m, L.length = m := ⟨_, rfl⟩
        rw [hm] at hown hlen
        have HM := Lib.hid hm
        obtain ⟨D, hD⟩ : ∃ D, L.map (Value.int .i64) = D := ⟨_, rfl⟩
        rw [hD] at hown
        have HD := Lib.hid hD
        clear hx hln hnn hsel hL hm hD c0
        go_wp2_with (at_builtin; refine wpList_append_own _ rfl _ _ 24 rfl (w.heap.size + 1) 3 i0 (.int .i64 0) 1 8 Try.underlying24 HI.out.1 HI.out.2.1 HI.out.2.2.1 HI.out.2.2.2 rfl (by decide) _ _ _ rfl (hown.alloc _) ⟨wr.heap.size, 0, none⟩ 1 1 [.int .i64 (k : Int)] rfl rfl (cell_one_new _ _ _) (fun x hx => by simp at hx; subst hx; rfl) (by unfold maxLen; omega) (by omega) (by simp; omega) ?_; intro v1 w1 hown1 hgrow1 hnil1)
        have hb1 := Lib.hid ((hbel.alloc (by omega) (.cells #[.int .i64 (k : Int)] 3)).grown hgrow1 (by simp; omega) (fun j hj => (hown.lt j hj).1))
        have HOwn := Lib.hid hown1
        have HN1 : Hid (v1 ≠ .slice none 0 0) := fun h => HN.out (hnil1.1 h).1
        clear hown1 hgrow1 hnil1 hown
        go_wp2_with fail
        go_roundw
        case rel => exact ⟨k + 1, by omega, by go_num, ⟨by
          have := HOwn.out
          rw [HS.out, List.map_append, HD.out, List.map_cons, List.map_nil, List.length_append, List.length_singleton]
          have e : D.length = m := by rw [← HD.out, List.length_map]; exact HM.out
          rw [e]
          exact this, HN1.out⟩, hb1.out⟩
        case measure => simp [intOf]; omega
      · have hsel := sel_no (P := siteP zs p) (k := k) ((site_at hx).trans (decide_eq_false heq))
        have HOwn := Lib.hid (show Owns wr (w.heap.size + 1) 3 _ _ from ⟨hown, hnn⟩)
        rw [← hsel] at HOwn
        have HB := Lib.hid hbel
        clear hx hown hnn hsel c0
        go_wp2_with fail
        go_roundw
        case rel => exact ⟨k + 1, by omega, by go_num, HOwn.out, HB.out⟩
        case measure => simp [intOf]; omega
    · obtain rfl : k = n2 := by omega
      have HOwn := Lib.hid (show Owns wr w.heap.size 3 _ _ from (Owns.mono ⟨hown, hnn⟩ (Nat.le_succ _)))
      clear hown
      go_wp2_with fail
      go_ret
      exact ⟨_, rfl, HOwn.out, ((Below.refl w.heap.size w).alloc (Nat.le_refl _) _).trans (hbel.mono (Nat.le_succ _))⟩

end Go.Proofs.Ytifialdkjnmfoaa.chd

