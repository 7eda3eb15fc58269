/- impl.portsOf: the ports of a Bigraph, one after the other. -/
import Derived.Test.YtifialdkjnmfoabHb
import Derived.RangeFuncBox
import Derived.RangeFuncLeaves
import Derived.Shelf.Abstract
import Derived.OwnWalkIn
import Derived.TacticsInMore
import Derived.LoopNIn
import Derived.LoopIn
import Derived.Maps.AppendAt
namespace Go.Proofs.Ytifialdkjnmfoab.pt
open kit bg only hb
open Go.RowKit
set_option linter.unusedVariables false

attribute [local go_sem] Oper.semAt_some

/-- a port: node, index, link -/
abbrev Port := Nat × Nat × Int
def prts (k : Nat) (ls : List Int) (m : Nat) : List Port := (List.range m).map fun i => (k, i, ls.getD i 0)
theorem prts_succ {k m : Nat} {ls : List Int} {l : Int} (h : ls[m]? = some l) : prts k ls (m + 1) = prts k ls m ++ [(k, m, l)] := by
  unfold prts
  rw [List.range_succ, List.map_append]
  simp [List.getD, h]
def prtsTo (ns : List Nd) : Nat → List Port
  | 0 => []
  | k + 1 => prtsTo ns k ++ (match ns[k]? with | some x => prts k x.links x.links.length | none => [])
def ports (ns : List Nd) : List Port := prtsTo ns ns.length
theorem prtsTo_succ {ns : List Nd} {k : Nat} {x : Nd} (h : ns[k]? = some x) : prtsTo ns (k + 1) = prtsTo ns k ++ prts k x.links x.links.length := by
  show prtsTo ns k ++ _ = _
  rw [h]
theorem prtsTo_prefix (ns : List Nd) {k m : Nat} (h : k ≤ m) : prtsTo ns k <+: prtsTo ns m := by
  induction m with
  | zero => obtain rfl : k = 0 := by omega
            exact List.prefix_rfl
  | succ m ih =>
    by_cases e : k = m + 1
    · subst e; exact List.prefix_rfl
    · exact (ih (by omega)).trans (List.prefix_append _ _)
theorem prts_prefix (k : Nat) (ls : List Int) {a b : Nat} (h : a ≤ b) : prts k ls a <+: prts k ls b := by
  unfold prts
  induction b with
  | zero => obtain rfl : a = 0 := by omega
            exact List.prefix_rfl
  | succ b ih =>
    by_cases e : a = b + 1
    · subst e; exact List.prefix_rfl
    · refine (ih (by omega)).trans ?_
      rw [List.range_succ, List.map_append]
      exact List.prefix_append _ _
/-- what has come so far is the beginning of all -/
theorem part_prefix {ns : List Nd} {k m : Nat} {x : Nd} (h : ns[k]? = some x) (hm : m ≤ x.links.length) : prtsTo ns k ++ prts k x.links m <+: ports ns := by
  have hk : k < ns.length := (List.getElem?_eq_some_iff.1 h).1
  refine List.IsPrefix.trans ?_ (prtsTo_prefix ns (show k + 1 ≤ ns.length by omega))
  rw [prtsTo_succ h]
  exact (List.prefix_append_right_inj _).2 (prts_prefix k x.links hm)
theorem part_lt {ns : List Nd} {k m : Nat} {x : Nd} {l : Int} (h : ns[k]? = some x) (hl : x.links[m]? = some l) : (prtsTo ns k ++ prts k x.links m).length < (ports ns).length := by
  have hm : m < x.links.length := (List.getElem?_eq_some_iff.1 hl).1
  have h1 := (part_prefix (m := m + 1) h (by omega)).length_le
  rw [prts_succ hl, ← List.append_assoc, List.length_append] at h1
  simp only [List.length_singleton] at h1
  omega

/-- a port as the loop gets it -/
def encP (p : Port) : Array Value := #[.agg #[.int .i64 p.1, .int .i64 p.2.1], .int .i64 p.2.2]

set_option maxRecDepth 100000 in
set_option maxHeartbeats 4000000 in
theorem ports_in (F : Fence) (n : Nat) (h35 : F.fn 116) (hro : F.round = none) (hn : 1 ≤ n) (l β n₀ : Nat) (A1 : Option Addr) (n1 c1 : Nat) (ns : List Nd) (J Jx : List Port → World → Prop) (W : World)
    (hJ : AbidesFrom W.heap.size J)
    (hY : ∀ pre x W1, J pre W1 → pre.length < (ports ns).length → YieldAt F (n - 1) Try.prog l (encP x) W1 fun e W' =>
      (e = .returned (.bool true) ∧ J (pre ++ [x]) W' ∧ Below n₀ W1 W') ∨ (e = .returned (.bool false) ∧ Jx (pre ++ [x]) W'))
    (hc1 : W.cell? ⟨β, 1, none⟩ = some (.slice A1 n1 c1)) (hN : NdsAt W n₀ A1 n1 ns) (hn0 : n₀ ≤ W.heap.size) (hn1 : n1 ≤ 1048576) (hlk : ∀ x ∈ ns, x.links.length ≤ 1048576) (h0 : J [] W) :
    CallsIn F n Try.prog 116 #[.func (.yield l) #[] #[], .pointer (some ⟨β, 0, none⟩)] W fun e W' => (∃ v, e = .returned v) ∧
      ((∃ ys, ys = ports ns ∧ J ys W') ∨ (∃ pre, pre <+: ports ns ∧ Jx pre W')) := by
  have HL := Lib.hid hN.1
  have HLk := Lib.hid hlk
  clear hlk
  refine callsIn_of_wp Try.func116 rfl h35 ?_ hro
  simp only [Try.ntmps116, List.size_toArray, List.length_cons, List.length_nil, Nat.reduceAdd, Nat.reduceSub, Array.replicate_succ, Array.replicate_zero, List.push_toArray, List.append_toArray, List.nil_append, List.cons_append]
  gi_wp2
  gi_loopw [10] (fun i wr => ∃ k : Nat, k ≤ n1 ∧ i = .int .i64 k ∧ J (prtsTo ns k) wr ∧ Below n₀ W wr)
    (fun i _ => n1 - (intOf i).toNat)
  case atStart => exact ⟨0, Nat.zero_le _, rfl, h0, Below.refl _ _⟩
  case round =>
    obtain ⟨k, hk, rfl, hJs, hb⟩ := hrel
    obtain ⟨wo, rfl⟩ : ∃ wo : World, wo = wr := ⟨_, rfl⟩
    have hsz := hb.size
    by_cases hlt : k < n1
    · obtain ⟨b, off, x, rfl, hbb, hx, d0, d1, L, m, cap, d2, hi⟩ := hN.get hlt
      have g0 := (hb.cell (p := ⟨b, off + k * 3, none⟩) hbb).trans d0
      have g1 := (hb.cell (p := ⟨b, off + k * 3 + 1, none⟩) hbb).trans d1
      have g2 := (hb.cell (p := ⟨b, off + k * 3 + 2, none⟩) hbb).trans d2
      have hml : m ≤ 1048576 := by have := HLk.out x (List.mem_of_getElem? hx); have := hi.len; omega
      have hlen := hi.len
      have HX := Lib.hid hx
      have HI := Lib.hid hi
      have HLen := Lib.hid hlen
      have HJ1 := Lib.hid (hJ _ _ _ none hJs (World.grownBy_alloc wo (.cells #[.int .i64 x.control, .int .i64 x.parent, .slice L m cap] 103) none) (fun r e => by cases e))
      have HB1 := Lib.hid (hb.alloc (by omega) (.cells #[.int .i64 x.control, .int .i64 x.parent, .slice L m cap] 103))
      clear hx d0 d1 d2 hi hlen hJs hb
      gi_wp2
      gi_loopw [5, 6, 18] (fun _ _ i wi => ∃ j : Nat, j ≤ m ∧ i = .int .i64 j ∧ J (prtsTo ns k ++ prts k x.links j) wi ∧ Below n₀ W wi)
        (fun _ _ i _ => m - (intOf i).toNat)
      case atStart => exact ⟨0, Nat.zero_le _, rfl, by simpa [prts] using HJ1.out, HB1.out⟩
      case round =>
        obtain ⟨j, hj, rfl, hJi, hbi⟩ := hrel
        by_cases hjm : j < m
        · obtain ⟨bl, offl, z, rfl, hbl, hz, cz⟩ := HI.out.get hjm
          have cz2 := (hbi.cell (p := ⟨bl, offl + j, none⟩) hbl).trans cz
          obtain ⟨fn, tmps, assign, body, hy, hR⟩ := hY (prtsTo ns k ++ prts k x.links j) (k, j, z) wr hJi (part_lt HX.out hz)
          have HR := Lib.hid hR
          have HZ := Lib.hid hz
          have HBi := Lib.hid hbi
          dsimp only [encP] at hy
          clear hR hz cz hJi hbi
          gi_wp2
          refine HR.out.mono ?_
          rintro e W3 (⟨rfl, hJ3, hk3⟩ | ⟨rfl, hJx3⟩)
          · have HJ3 := Lib.hid (And.intro hJ3 (HBi.out.trans hk3))
            clear hJ3 hk3
            gi_wp2
            go_roundw
            case rel => exact ⟨j + 1, by omega, by go_num, by rw [prts_succ HZ.out, ← List.append_assoc]; exact HJ3.out.1, HJ3.out.2⟩
            case measure => simp [intOf]; omega
          · have HJx := Lib.hid hJx3
            clear hJx3
            gi_wp2
            refine bodyPost_ret (results_none rfl _ _ _) rfl ?_
            refine ⟨⟨_, rfl⟩, .inr ⟨_, ?_, HJx.out⟩⟩
            rw [List.append_assoc, ← prts_succ HZ.out]
            exact part_prefix HX.out (by have := (List.getElem?_eq_some_iff.1 HZ.out).1; omega)
        · obtain rfl : m = j := by omega
          have HJi := Lib.hid (And.intro hJi hbi)
          clear hJi hbi
          gi_wp2
          go_roundw
          case rel => exact ⟨k + 1, by omega, by go_num, by rw [prtsTo_succ HX.out, HLen.out]; exact HJi.out.1, HJi.out.2⟩
          case measure => simp [intOf]; omega
    · obtain rfl : n1 = k := by omega
      have HJs := Lib.hid hJs
      clear hJs
      gi_wp2
      go_end0
      exact ⟨⟨_, rfl⟩, .inl ⟨_, rfl, by unfold ports; rw [HL.out]; exact HJs.out⟩⟩

theorem ports_stops (F : Fence) (n : Nat) (h35 : F.fn 116) (hro : F.round = none) (hn : 1 ≤ n) (β n₀ : Nat) (A1 : Option Addr) (n1 c1 : Nat) (ns : List Nd) (w : World) (hβ : β < w.heap.size) (hn0 : n₀ ≤ w.heap.size)
    (hc1 : w.cell? ⟨β, 1, none⟩ = some (.slice A1 n1 c1)) (hN : NdsAt w n₀ A1 n1 ns) (hn1 : n1 ≤ 1048576) (hlk : ∀ x ∈ ns, x.links.length ≤ 1048576) :
    SeqStopsK F n Try.prog 116 #[.pointer (some ⟨β, 0, none⟩)] encP (Below n₀) (fun ys => ys = ports ns) (fun pre => pre <+: ports ns) (ports ns).length w := fun l J Jx W hW hJ _ hY h0 =>
  ports_in F n h35 hro hn l β n₀ A1 n1 c1 ns J Jx W hJ hY ((hW.cell (p := ⟨β, 1, none⟩) hβ).trans hc1) (hN.below (hW.mono hn0)) (by have := hW.size; omega) hn1 hlk h0

set_option maxHeartbeats 2000000 in
theorem portsOf_in (F : Fence) (n : Nat) (h27 : F.fn 90) (hro : F.round = none) (cs : Array Value) (hcs : cs.size = 6) (w : World) :
    CallsIn F n Try.prog 90 #[.agg cs] w fun e w' => e = .returned (.func (.func 116) #[] #[.pointer (some ⟨w.heap.size, 0, none⟩)]) ∧ w' = w.alloc (.cells cs 34) := by
  obtain ⟨l⟩ := cs
  match l, hcs with
  | [a, b, c, d, e, f], _ =>
    refine callsIn_of_wp Try.func90 rfl h27 ?_ hro
    simp only [Try.ntmps90, List.size_toArray, List.length_cons, List.length_nil, Nat.reduceAdd, Nat.reduceSub, Array.replicate_succ, Array.replicate_zero, List.push_toArray, List.append_toArray, List.nil_append, List.cons_append]
    gi_wp2
    go_ret
    exact ⟨rfl, rfl⟩
end Go.Proofs.Ytifialdkjnmfoab.pt
