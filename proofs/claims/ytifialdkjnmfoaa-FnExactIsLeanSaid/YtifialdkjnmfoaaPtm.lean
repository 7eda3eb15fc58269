/- The iterator over the ports, where the body knows that it gets ports of the Bigraph. -/
import Derived.Test.YtifialdkjnmfoaaPt
import Derived.Test.YtifialdkjnmfoaaHb
import Derived.RangeFuncBox
import Derived.RangeFuncLeaves
import Derived.Shelf.Abstract
import Derived.OwnWalkIn
import Derived.TacticsInMore
import Derived.LoopNIn
import Derived.LoopIn
import Derived.Maps.AppendAt
namespace Go.Proofs.Ytifialdkjnmfoaa.ptm
open pt kit bg only hb
open Go.RowKit
set_option linter.unusedVariables false

attribute [local go_sem] Oper.semAt_some


theorem part_mem {ns : List Nd} {k m : Nat} {x : Nd} {l : Int} (h : ns[k]? = some x) (hl : x.links[m]? = some l) : (k, m, l) ∈ ports ns := by
  have hm : m < x.links.length := (List.getElem?_eq_some_iff.1 hl).1
  refine (part_prefix (m := m + 1) h (by omega)).subset ?_
  rw [prts_succ hl]
  simp
set_option maxRecDepth 100000 in
set_option maxHeartbeats 4000000 in
theorem ports_inM (F : Fence) (n : Nat) (h35 : F.fn 157) (hro : F.round = none) (hn : 1 ≤ n) (l β n₀ : Nat) (A1 : Option Addr) (n1 c1 : Nat) (ns : List Nd) (J Jx : List Port → World → Prop) (W : World)
    (hJ : AbidesFrom W.heap.size J)
    (hY : ∀ pre x W1, x ∈ ports ns → J pre W1 → pre.length < (ports ns).length → YieldAt F (n - 1) Try.prog l (encP x) W1 fun e W' =>
      (e = .returned (.bool true) ∧ J (pre ++ [x]) W' ∧ Below n₀ W1 W') ∨ (e = .returned (.bool false) ∧ Jx (pre ++ [x]) W'))
    (hc1 : W.cell? ⟨β, 1, none⟩ = some (.slice A1 n1 c1)) (hN : NdsAt W n₀ A1 n1 ns) (hn0 : n₀ ≤ W.heap.size) (hn1 : n1 ≤ 1048576) (hlk : ∀ x ∈ ns, x.links.length ≤ 1048576) (h0 : J [] W) :
    CallsIn F n Try.prog 157 #[.func (.yield l) #[] #[], .pointer (some ⟨β, 0, none⟩)] W fun e W' => (∃ v, e = .returned v) ∧
      ((∃ ys, ys = ports ns ∧ J ys W') ∨ (∃ pre, pre <+: ports ns ∧ Jx pre W')) := by
  have HL := Lib.hid hN.1
  have HLk := Lib.hid hlk
  clear hlk
  refine callsIn_of_wp Try.func157 rfl h35 ?_ hro
  simp only [Try.ntmps157, List.size_toArray, List.length_cons, List.length_nil, Nat.reduceAdd, Nat.reduceSub, Array.replicate_succ, Array.replicate_zero, List.push_toArray, List.append_toArray, List.nil_append, List.cons_append]
  gi_wp2
  gi_loopw [10] (fun i wr => ∃ k : Nat, k ≤ n1 ∧ i = .int .i64 k ∧ J (prtsTo ns k) wr ∧ Below n₀ W wr)
    (fun i _ => n1 - (intOf i).toNat)
  case atStart => exact ⟨0, Nat.zero_le _, rfl, h0, Below.refl _ _⟩
  case round =>
    obtain ⟨k, hk, rfl, hJs, hb⟩ := hrel
    obtain ⟨wo, rfl⟩ : ∃ wo : World, wo = wr := ⟨_, rfl⟩
    have hsz := hb.size
    by_cases hlt : k < n1
    · obtain ⟨b, off, x, rfl, hbb, hx, d0, d1, L, m, cap, d2, hi⟩ := hN.get hlt
      have g0 := (hb.cell (p := ⟨b, off + k * 3, none⟩) hbb).trans d0
      have g1 := (hb.cell (p := ⟨b, off + k * 3 + 1, none⟩) hbb).trans d1
      have g2 := (hb.cell (p := ⟨b, off + k * 3 + 2, none⟩) hbb).trans d2
      have hml : m ≤ 1048576 := by have := HLk.out x (List.mem_of_getElem? hx); have := hi.len; omega
      have hlen := hi.len
      have HX := Lib.hid hx
      have HI := Lib.hid hi
      have HLen := Lib.hid hlen
      have HJ1 := Lib.hid (hJ _ _ _ none hJs (World.grownBy_alloc wo (.cells #[.int .i64 x.control, .int .i64 x.parent, .slice L m cap] 101) none) (fun r e => by cases e))
      have HB1 := Lib.hid (hb.alloc (by omega) (.cells #[.int .i64 x.control, .int .i64 x.parent, .slice L m cap] 101))
      clear hx d0 d1 d2 hi hlen hJs hb
      gi_wp2
      gi_loopw [5, 6, 18] (fun _ _ i wi => ∃ j : Nat, j ≤ m ∧ i = .int .i64 j ∧ J (prtsTo ns k ++ prts k x.links j) wi ∧ Below n₀ W wi)
        (fun _ _ i _ => m - (intOf i).toNat)
      case atStart => exact ⟨0, Nat.zero_le _, rfl, by simpa [prts] using HJ1.out, HB1.out⟩
      case round =>
        obtain ⟨j, hj, rfl, hJi, hbi⟩ := hrel
        by_cases hjm : j < m
        · obtain ⟨bl, offl, z, rfl, hbl, hz, cz⟩ := HI.out.get hjm
          have cz2 := (hbi.cell (p := ⟨bl, offl + j, none⟩) hbl).trans cz
          obtain ⟨fn, tmps, assign, body, hy, hR⟩ := hY (prtsTo ns k ++ prts k x.links j) (k, j, z) wr (part_mem HX.out hz) hJi (part_lt HX.out hz)
          have HR := Lib.hid hR
          have HZ := Lib.hid hz
          have HBi := Lib.hid hbi
          dsimp only [encP] at hy
          clear hR hz cz hJi hbi
          gi_wp2
          refine HR.out.mono ?_
          rintro e W3 (⟨rfl, hJ3, hk3⟩ | ⟨rfl, hJx3⟩)
          · have HJ3 := Lib.hid (And.intro hJ3 (HBi.out.trans hk3))
            clear hJ3 hk3
            gi_wp2
            go_roundw
            case rel => exact ⟨j + 1, by omega, by go_num, by rw [prts_succ HZ.out, ← List.append_assoc]; exact HJ3.out.1, HJ3.out.2⟩
            case measure => simp [intOf]; omega
          · have HJx := Lib.hid hJx3
            clear hJx3
            gi_wp2
            refine bodyPost_ret (results_none rfl _ _ _) rfl ?_
            refine ⟨⟨_, rfl⟩, .inr ⟨_, ?_, HJx.out⟩⟩
            rw [List.append_assoc, ← prts_succ HZ.out]
            exact part_prefix HX.out (by have := (List.getElem?_eq_some_iff.1 HZ.out).1; omega)
        · obtain rfl : m = j := by omega
          have HJi := Lib.hid (And.intro hJi hbi)
          clear hJi hbi
          gi_wp2
          go_roundw
          case rel => exact ⟨k + 1, by omega, by go_num, by rw [prtsTo_succ HX.out, HLen.out]; exact HJi.out.1, HJi.out.2⟩
          case measure => simp [intOf]; omega
    · obtain rfl : n1 = k := by omega
      have HJs := Lib.hid hJs
      clear hJs
      gi_wp2
      go_end0
      exact ⟨⟨_, rfl⟩, .inl ⟨_, rfl, by unfold ports; rw [HL.out]; exact HJs.out⟩⟩


/-- a port of these nodes -/
def PortOf (ns : List Nd) : Type := { p : Port // p ∈ ports ns }
def PortOf.val {ns : List Nd} (p : PortOf ns) : Port := p.1
theorem ports_stopsM (F : Fence) (n : Nat) (h35 : F.fn 157) (hro : F.round = none) (hn : 1 ≤ n) (β n₀ : Nat) (A1 : Option Addr) (n1 c1 : Nat) (ns : List Nd) (w : World) (hβ : β < w.heap.size) (hn0 : n₀ ≤ w.heap.size)
    (hc1 : w.cell? ⟨β, 1, none⟩ = some (.slice A1 n1 c1)) (hN : NdsAt w n₀ A1 n1 ns) (hn1 : n1 ≤ 1048576) (hlk : ∀ x ∈ ns, x.links.length ≤ 1048576) :
    SeqStopsK F n Try.prog 157 #[.pointer (some ⟨β, 0, none⟩)] (fun p : PortOf ns => encP p.val) (Below n₀) (fun ys => ys.map PortOf.val = ports ns) (fun _ => True) (ports ns).length w := fun l J Jx W hW hJ _ hY h0 => by
  refine (ports_inM F n h35 hro hn l β n₀ A1 n1 c1 ns (fun pre W' => ∃ ys : List (PortOf ns), ys.map PortOf.val = pre ∧ J ys W') (fun pre W' => ∃ ys : List (PortOf ns), Jx ys W') W ?_ ?_ ((hW.cell (p := ⟨β, 1, none⟩) hβ).trans hc1) (hN.below (hW.mono hn0)) (by have := hW.size; omega) hn1 hlk ⟨[], rfl, h0⟩).mono ?_
  · rintro s A B row ⟨ys, e, hs⟩ hg hr
    exact ⟨ys, e, hJ _ _ _ _ hs hg hr⟩
  · rintro pre x W1 hx ⟨ys, rfl, hs⟩ hlt
    obtain ⟨fn, tmps, assign, body, hy, hR⟩ := hY ys ⟨x, hx⟩ W1 hs (by simpa using hlt)
    refine ⟨fn, tmps, assign, body, hy, hR.mono ?_⟩
    rintro e W' (⟨a, b, c⟩ | ⟨a, b⟩)
    · exact .inl ⟨a, ⟨ys ++ [⟨x, hx⟩], by rw [List.map_append]; rfl, b⟩, c⟩
    · exact .inr ⟨a, _, b⟩
  · rintro e W' ⟨hv, h⟩
    refine ⟨hv, ?_⟩
    rcases h with ⟨ys, e1, zs, e2, hz⟩ | ⟨pre, -, ys, hz⟩
    · exact .inl ⟨zs, e2.trans e1, hz⟩
    · exact .inr ⟨ys, trivial, hz⟩
end Go.Proofs.Ytifialdkjnmfoaa.ptm
