/- The laws' marks in a System of one's own. -/
import Derived.Test.YtlpgldejmdiceaaSyi
import Derived.Test.YtlpgldejmdiceaaBgm
namespace Go.Proofs.Ytlpgldejmdiceaa.sys
open kit bg sg opn strs only hb sig isig un over gn nm inn ht gd im pt marks eqs hc hi hw hn rs br bm bw cf lf ib isa lawb lw cl bgs bgm cz syx sya syh syi rt
open Go.RowKit
set_option linter.unusedVariables false
set_option linter.unusedSimpArgs false
/-- a System in the blocks from lo to hi -/
def SysIn (w : World) (lo hi : Nat) (v : Value) (x : Sysm) : Prop :=
  hi ≤ w.heap.size ∧ ∃ g1 g2, v = .agg #[.slice (some ⟨g1, 0, none⟩) x.states.length x.states.length, .slice (some ⟨g2, 0, none⟩) x.steps.length x.steps.length] ∧ lo ≤ g1 ∧ g1 < g2 ∧ g2 < hi ∧
    (∃ (f : Nat → Value) (L : Nat → Nat), w.rowIs g1 116 (x.states.length * 6) f ∧ (∀ j, j ≤ x.states.length → g1 < L j ∧ L j ≤ g2) ∧ ∀ (j : Nat) b, j < x.states.length → x.states[j]? = some b → BigOwn w (L j) (L (j + 1)) (aggAt f j) b) ∧ w.rowIs g2 76 (x.steps.length * 3) (trc x.steps)
theorem SysIn.of_own {w : World} {lo : Nat} {v : Value} {x : Sysm} (h : SysOwn w lo v x) : SysIn w lo w.heap.size v x := by
  obtain ⟨g1, g2, rfl, h1, h2, h3, h4, h5⟩ := h
  exact ⟨Nat.le_refl _, g1, g2, rfl, h1, h2, h3, h4, h5⟩
theorem SysIn.own {w : World} {lo hi : Nat} {v : Value} {x : Sysm} (h : SysIn w lo hi v x) : SysOwn w lo v x := by
  obtain ⟨h0, g1, g2, rfl, h1, h2, h3, h4, h5⟩ := h
  exact ⟨g1, g2, rfl, h1, h2, by omega, h4, h5⟩
theorem SysIn.on {w w' : World} {lo hi : Nat} {v : Value} {x : Sysm} (h : SysIn w lo hi v x) (hb : Below w.heap.size w w') : SysIn w' lo hi v x := by
  obtain ⟨h0, g1, g2, rfl, h1, h2, h3, ⟨f, L, hf, hL, hbb⟩, hr⟩ := h
  exact ⟨Nat.le_trans h0 hb.size, g1, g2, rfl, h1, h2, h3, ⟨f, L, hf.of_block (hb.block g1 (by omega)), hL, fun j b hj hjb => (hbb j b hj hjb).blocks (fun i _ hi => hb.block i (by have := (hL (j + 1) (by omega)).2; omega))⟩, hr.of_block (hb.block g2 (by omega))⟩

set_option maxRecDepth 20000 in
set_option maxHeartbeats 3200000 in
theorem markA3S_any (g n cap : Nat) (f : Nat → Value) (k : Int) (w : World) (hr : w.rowIs g 76 (cap * 3) f) (hc : n ≤ cap) (h0 : 0 < k) (h1 : k ≤ 8000000) (hn : n ≤ 1048576) :
    Calls Try.prog 29 #[.slice (some ⟨g, 0, none⟩) n cap, .int .i64 k] w fun e w' => e = .returned (.int .i64 (k + 3 * n)) ∧ w'.rowIs g 76 (cap * 3) (fun x => if x < n * 3 then mki k x else f x) ∧ w.grownBy w' (some g) := by
  go_enter Try.func29, Try.ntmps29
  go_wp2_with fail
  go_loopw [1, 5] (fun q i wr => ∃ j : Nat, j ≤ n ∧ i = .int .i64 j ∧ q = .int .i64 (k + 3 * j) ∧ wr.rowIs g 76 (cap * 3) (fun x => if x < j * 3 then mki k x else f x) ∧ w.grownBy wr (some g)) (fun _ i _ => n - (intOf i).toNat)
  case atStart => exact ⟨0, Nat.zero_le _, rfl, by simp, hr.congr (fun _ _ => by simp), World.grownBy.refl w _⟩
  case round =>
    obtain ⟨j, hj, rfl, rfl, hrow, hgr⟩ := hrel
    by_cases hlt : j < n
    · have HR0 := Lib.hid hrow
      have HG0 := Lib.hid hgr
      clear hrow hgr
      go_wp2_with fail
      go_loopw [1, 6] (fun q i wr => ∃ m : Nat, m ≤ 3 ∧ i = .int .i64 m ∧ q = .int .i64 (k + 3 * j + m) ∧ wr.rowIs g 76 (cap * 3) (fun x => if x < j * 3 + m then mki k x else f x) ∧ w.grownBy wr (some g)) (fun _ i _ => 3 - (intOf i).toNat)
      case atStart => exact ⟨0, Nat.zero_le _, rfl, by simp, HR0.out.congr (fun _ _ => by simp), HG0.out⟩
      case round =>
        obtain ⟨m, hm, rfl, rfl, hrow, hgr⟩ := hrel
        by_cases hlt2 : m < 3
        · have hcell := hrow.cell (show j * 3 + m < cap * 3 by omega)
          have hfz := hrow.frozen (j * 3 + m)
          have HRow := Lib.hid (hrow.set (j * 3 + m) (.int .i64 (k + 3 * j + m)))
          have HG := Lib.hid (only_set hgr (j * 3 + m) (.int .i64 (k + 3 * j + m)))
          clear hrow hgr
          go_wp2_with fail
          go_roundw
          case rel =>
            refine ⟨m + 1, by omega, by go_num, by go_num, HRow.out.congr (fun x hx => ?_), HG.out⟩
            show (if x = j * 3 + m then _ else if x < j * 3 + m then _ else _) = if x < j * 3 + (m + 1) then _ else _
            by_cases e : x = j * 3 + m
            · subst e
              rw [if_pos rfl, if_pos (by omega)]
              unfold mki
              congr 1
              simp
              omega
            · rw [if_neg e]
              by_cases e2 : x < j * 3 + m
              · rw [if_pos e2, if_pos (by omega)]
              · rw [if_neg e2, if_neg (by omega)]
          case measure => simp [intOf]; omega
        · obtain rfl : m = 3 := by omega
          have HR2 := Lib.hid (hrow.congr (g := fun x => if x < (j + 1) * 3 then mki k x else f x) (fun x _ => by rw [Nat.succ_mul]))
          have HG2 := Lib.hid hgr
          clear hrow hgr
          go_wp2_with fail
          go_roundw
          case rel => exact ⟨j + 1, by omega, by go_num, by go_num, HR2.out, HG2.out⟩
          case measure => simp [intOf]; omega
    · obtain rfl : j = n := by omega
      go_wp2_with fail
      go_ret
      exact ⟨rfl, hrow, hgr⟩

set_option maxRecDepth 20000 in
set_option maxHeartbeats 3200000 in
theorem markSys_any (v : Value) (x : Sysm) (k : Int) (w : World) (lo hi : Nat) (h : SysIn w lo hi v x) (hs : sysWt x ≤ 1048576) (h0 : 0 < k) (h1 : k ≤ 1000) :
    Calls Try.prog 27 #[v, .int .i64 k] w fun e w' => ∃ r : Int, e = .returned (.int .i64 r) ∧ 0 < r ∧ r ≤ 6400000 ∧ Only lo hi w w' := by
  obtain ⟨hh, g1, g2, rfl, a1, a2, a3, ⟨f, L, hf, hL, hbb⟩, hr⟩ := h
  unfold sysWt at hs
  have hl2 : w.heap.size < (w.alloc (.cells #[.slice (some ⟨g1, 0, none⟩) x.states.length x.states.length, .slice (some ⟨g2, 0, none⟩) x.steps.length x.steps.length] 32)).heap.size := by simp
  have hb0 := (Below.refl w.heap.size w).alloc (Nat.le_refl _) (.cells #[.slice (some ⟨g1, 0, none⟩) x.states.length x.states.length, .slice (some ⟨g2, 0, none⟩) x.steps.length x.steps.length] 32)
  have hBx := BoxN.new w #[.slice (some ⟨g1, 0, none⟩) x.states.length x.states.length, .slice (some ⟨g2, 0, none⟩) x.steps.length x.steps.length] 32
  obtain ⟨W, hW⟩ : ∃ W, w.alloc (.cells #[.slice (some ⟨g1, 0, none⟩) x.states.length x.states.length, .slice (some ⟨g2, 0, none⟩) x.steps.length x.steps.length] 32) = W := ⟨_, rfl⟩
  rw [hW] at hBx hb0 hl2
  have HWq := Lib.hid hW
  have HBx := Lib.hid hBx
  have HB0 := Lib.hid hb0
  have hfW := hf.of_block (hb0.block g1 (by omega))
  have hrW := hr.of_block (hb0.block g2 (by omega))
  have hk : BgsK W g1 x.states.length x.states.length x.states := ⟨f, L, hfW, fun j hj => ⟨(hL j hj).1, by have := (hL j hj).2; omega⟩, fun j b hj hjb => (hbb j b hj hjb).blocks (fun i _ hi => hb0.block i (by have := (hL (j + 1) (by omega)).2; omega))⟩
  have C := markBS_any2 g1 g2 x.states.length x.states k W hfW hL (by omega) (fun j b hj hjb => (hbb j b hj hjb).blocks (fun i _ hi => hb0.block i (by have := (hL (j + 1) (by omega)).2; omega))) rfl h0 (by omega) (by omega)
  have HR := Lib.hid hrW
  have HK := Lib.hid (And.intro hh (And.intro a1 (And.intro a2 (And.intro a3 (And.intro hl2 hs)))))
  obtain ⟨x0, x1⟩ := box2 hBx
  clear hW hf hr hbb hfW hrW hk hb0 hBx hl2
  go_enter Try.func27, Try.ntmps27
  go_wp2_with fail
  rw [HWq.out]
  go_wp2_with fail
  refine C.mono ?_
  rintro e w1 ⟨r, rfl, hr0, hr1, hon⟩
  have hw1 : W.heap.size ≤ w1.heap.size := hon.size
  obtain ⟨q1, q2, q3, q4, q5, q6⟩ := HK.out
  have hrow1 := HR.out.of_block (hon.block g2 HR.out.lt (.inr (Nat.le_refl _)))
  have hbx1 : BoxN w1 w.heap.size 32 _ := World.rowIs.of_block HBx.out (hon.block _ HBx.out.lt (.inr (by omega)))
  have C2 := markA3S_any g2 x.steps.length x.steps.length _ r w1 hrow1 (Nat.le_refl _) hr0 (by omega) (by omega)
  have HOn := Lib.hid hon
  have HR1 := Lib.hid (And.intro hr0 hr1)
  have HRow1 := Lib.hid hrow1
  clear x0 x1 C hon hr0 hr1
  obtain ⟨x0, x1⟩ := box2 hbx1
  clear hbx1 hrow1
  go_wp2_with fail
  refine C2.mono ?_
  rintro e w2 ⟨rfl, hrow2, hgr⟩
  have a1' : lo ≤ g1 := q2
  have a2' : g2 ≤ hi := by omega
  have a3' : lo ≤ g2 := by omega
  have a4' : g2 + 1 ≤ hi := by omega
  have hon2 := Only.of_grown hgr HRow1.out hrow2 (Nat.le_refl g2) (Nat.lt_succ_self g2)
  have HF : Hid (Only lo hi w w2) := Lib.hid (((Only.of_below HB0.out).trans (HOn.out.wide a1' a2')).trans (hon2.wide a3' a4'))
  clear C2 hrow2 hgr hon2 x0 x1
  have hrr : 0 < r + 3 * (x.steps.length : Int) ∧ r + 3 * (x.steps.length : Int) ≤ 6400000 := by have := HR1.out; omega
  obtain ⟨rr, hrr2⟩ : ∃ rr, r + 3 * (x.steps.length : Int) = rr := ⟨_, rfl⟩
  rw [hrr2] at hrr ⊢
  go_wp2_with fail
  go_ret
  exact ⟨rr, rfl, hrr.1, hrr.2, HF.out⟩
end Go.Proofs.Ytlpgldejmdiceaa.sys
