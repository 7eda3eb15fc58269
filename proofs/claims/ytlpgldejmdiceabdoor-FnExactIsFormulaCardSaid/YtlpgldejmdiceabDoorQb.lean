/- Ht Sg Sig ISig Un Over Nm InN Gn Gd in one. -/
import Derived.Test.YtlpgldejmdiceabDoorQa
import Derived.Outline
import Derived.WalkLawsBesides
import Derived.Deep.QuietTactic
import Derived.BigQuiet
import Derived.Maps.AppendAt
set_option linter.unusedSimpArgs false
section
namespace Go.Proofs.YtlpgldejmdiceabDoor.ht
open kit bg opn only marks strs eqs hc hi hw hn hb
open Go.ChangeShapes Go.WideShapes Go.ChangeAt Go.RowKit
set_option linter.unusedVariables false

section
variable {w w' : World} {lo hi : Nat} {A : Option Addr} {n : Nat}
end

theorem sr_at {w : World} {g B : Nat} {ss : List ByteArray} (h : w.rowIs g 9 ss.length (at_ ss)) (hB : g < B) : SR w B (some ⟨g, 0, none⟩) ss.length (ss.map Value.string) :=
  SR.of_row h hB (fun k u hu => by
    rw [List.getElem?_map] at hu
    obtain ⟨s, hs, rfl⟩ := Option.map_eq_some_iff.1 hu
    exact ⟨(List.getElem?_eq_some_iff.1 hs).1, at_of hs⟩) (by simp)
section
variable {w w' : World} {lo hi : Nat} {v : Value} {b : Big}
end

/-- what is small enough to be copied -/
def BigS (b : Big) : Prop := b.nodes.length ≤ 1048576 ∧ (∀ x ∈ b.nodes, x.links.length ≤ 1048576) ∧ b.sites.length ≤ 1048576 ∧ b.outer.length ≤ 1048576 ∧ (∀ s ∈ b.outer, s.size ≤ 1048576) ∧ b.inner.length ≤ 1048576 ∧ ∀ x ∈ b.inner, x.name.size ≤ 1048576
theorem tot_mem {ss : List ByteArray} {s : ByteArray} (h : s ∈ ss) : s.size ≤ tot ss := by
  induction ss with
  | nil => cases h
  | cons y r ih =>
    simp only [tot]
    rcases List.mem_cons.1 h with rfl | h
    · omega
    · have := ih h; omega
theorem bigS_of {b : Big} (h : bigWt b ≤ 1048576) : BigS b := by
  unfold bigWt ndsWt wrsWt at h
  refine ⟨by omega, fun x hx => ?_, by omega, by omega, fun s hs => ?_, by omega, fun x hx => ?_⟩
  · have := sumBy_mem (fun c : Nd => c.links.length) hx; omega
  · have := tot_mem hs; omega
  · have := sumBy_mem (fun c : Wr => c.name.size) hx; omega

/-- a store into the variable, and six into the result -/
def put7 (N : Nat) (w : World) (k : Nat) (u a b c d e f : Value) : World :=
  ((((((w.setCell ⟨N + 1 + 1, k, none⟩ u).setCell ⟨N + 1, 0, none⟩ a).setCell ⟨N + 1, 1, none⟩ b).setCell ⟨N + 1, 2, none⟩ c).setCell ⟨N + 1, 3, none⟩ d).setCell ⟨N + 1, 4, none⟩ e).setCell ⟨N + 1, 5, none⟩ f
theorem last7 (N : Nat) (w : World) (k : Nat) (u a b c d e f : Value) : (∀ j, N + 3 ≤ j → (put7 N w k u a b c d e f).heap[j]? = w.heap[j]?) ∧ (put7 N w k u a b c d e f).heap.size = w.heap.size ∧ ∀ B x, Below B x w → B ≤ N → Below B x (put7 N w k u a b c d e f) := by
  refine ⟨fun j hj => ?_, by simp [put7, World.setCell], fun B x h hB => ?_⟩
  · unfold put7
    rw [Below.heap_setCell _ _ _ _ (by dsimp only; omega), Below.heap_setCell _ _ _ _ (by dsimp only; omega), Below.heap_setCell _ _ _ _ (by dsimp only; omega), Below.heap_setCell _ _ _ _ (by dsimp only; omega), Below.heap_setCell _ _ _ _ (by dsimp only; omega), Below.heap_setCell _ _ _ _ (by dsimp only; omega), Below.heap_setCell _ _ _ _ (by dsimp only; omega)]
  · unfold put7
    exact ((((((h.setCell (p := ⟨N + 1 + 1, k, none⟩) (by dsimp only; omega) u).setCell (p := ⟨N + 1, 0, none⟩) (by dsimp only; omega) a).setCell (p := ⟨N + 1, 1, none⟩) (by dsimp only; omega) b).setCell (p := ⟨N + 1, 2, none⟩) (by dsimp only; omega) c).setCell (p := ⟨N + 1, 3, none⟩) (by dsimp only; omega) d).setCell (p := ⟨N + 1, 4, none⟩) (by dsimp only; omega) e).setCell (p := ⟨N + 1, 5, none⟩) (by dsimp only; omega) f

theorem nodes_wt {b : Big} (h : bigWt b ≤ 1048576) : ndsWt b.nodes ≤ 1048576 ∧ b.nodes.length ≤ 1048576 ∧ sumBy (fun c : Nd => c.links.length) b.nodes ≤ 1048576 := by
  unfold bigWt at h
  unfold ndsWt at h ⊢
  omega

end Go.Proofs.YtlpgldejmdiceabDoor.ht
end

section
namespace Go.Proofs.YtlpgldejmdiceabDoor.sg
open kit bg
open Go.RowKit
set_option linter.unusedVariables false

theorem in_any (x a b : Int) (w : World) : Calls Tryd.prog 48 #[.int .i64 x, .int .i64 a, .int .i64 b] w fun e w' => e = .returned (.bool (inb x a b)) ∧ w = w' := by
  by_cases h1 : a ≤ x
  · by_cases h2 : x ≤ b
    · go_enter Tryd.func48, Tryd.ntmps48
      go_wp2
      go_ret
      exact ⟨by rw [inb_mk ⟨h1, h2⟩]; rfl, rfl⟩
    · have h2' : b < x := by omega
      go_enter Tryd.func48, Tryd.ntmps48
      go_wp2
      go_ret
      exact ⟨by rw [inb_not (fun h => absurd h.2 (by omega))]; rfl, rfl⟩
  · have h1' : x < a := by omega
    go_enter Tryd.func48, Tryd.ntmps48
    go_wp2
    go_ret
    exact ⟨by rw [inb_not (fun h => absurd h.1 (by omega))]; rfl, rfl⟩
theorem win_any (x a b : Int) (w : World) : Calls Tryd.prog 95 #[.int .i64 x, .int .i64 a, .int .i64 b] w fun e w' => e = .returned (.bool (inb x a b)) ∧ w = w' := by
  by_cases h1 : a ≤ x
  · by_cases h2 : x ≤ b
    · go_enter Tryd.func95, Tryd.ntmps95
      go_wp2
      go_ret
      exact ⟨by rw [inb_mk ⟨h1, h2⟩]; rfl, rfl⟩
    · have h2' : b < x := by omega
      go_enter Tryd.func95, Tryd.ntmps95
      go_wp2
      go_ret
      exact ⟨by rw [inb_not (fun h => absurd h.2 (by omega))]; rfl, rfl⟩
  · have h1' : x < a := by omega
    go_enter Tryd.func95, Tryd.ntmps95
    go_wp2
    go_ret
    exact ⟨by rw [inb_not (fun h => absurd h.1 (by omega))]; rfl, rfl⟩

theorem let_of {c : UInt8} (h1 : ¬ (c.toNat : Int) < 97) (h2 : ¬ (122 : Int) < (c.toNat : Int)) : letB c = true := decide_eq_true ⟨by omega, by omega⟩
theorem all_take {s : ByteArray} {k : Nat} (hk : k < s.size) (h : (s.data.toList.take k).all letB = true) (hc : letB s[k] = true) : (s.data.toList.take (k + 1)).all letB = true := by
  have e : s.data.toList[k]? = some s[k] := by
    have : k < s.data.toList.length := by simpa using hk
    rw [List.getElem?_eq_getElem this]; rfl
  rw [take_snoc e, List.all_append, h]
  simpa using hc
theorem name_no {s : ByteArray} {k : Nat} (hk : k < s.size) (hc : letB s[k] = false) : nameB s = false := by
  have h : s.data.toList.all letB = false := by
    rw [List.all_eq_false]
    exact ⟨s[k], by
      have : k < s.data.toList.length := by simpa using hk
      exact List.mem_of_getElem? (i := k) (by rw [List.getElem?_eq_getElem this]; rfl), by rw [hc]; decide⟩
  unfold nameB
  rw [h]; rfl
theorem name_all {s : ByteArray} {k : Nat} (hk : s.size ≤ k) (h : (s.data.toList.take k).all letB = true) : nameB s = inb s.size 1 4 := by
  rw [List.take_of_length_le (by simpa using hk)] at h
  unfold nameB
  rw [h]; simp

end Go.Proofs.YtlpgldejmdiceabDoor.sg
end

section
namespace Go.Proofs.YtlpgldejmdiceabDoor.sig
open kit bg sg
open Go.RowKit
set_option linter.unusedVariables false

/-- the first k Controls are those of a signature -/
def SigK (cs : List Ctl) (k : Nat) : Prop :=
  (∀ (j : Nat) c, j < k → cs[j]? = some c → ctlB c = true) ∧ (∀ (i j : Nat) a b, i < k → j < i → cs[i]? = some a → cs[j]? = some b → b.name ≠ a.name)
theorem sigK_zero (cs : List Ctl) : SigK cs 0 := ⟨fun j c h => absurd h (Nat.not_lt_zero j), fun i j a b h => absurd h (Nat.not_lt_zero i)⟩
theorem sigK_next {cs : List Ctl} {k : Nat} {x : Ctl} (h : SigK cs k) (hx : cs[k]? = some x) (hc : ctlB x = true) (hd : ∀ (j : Nat) b, j < k → cs[j]? = some b → b.name ≠ x.name) : SigK cs (k + 1) := by
  refine ⟨fun j c hj hc' => ?_, fun i j a b hi hj ha hb => ?_⟩
  · by_cases e : j = k
    · subst e; rw [hx] at hc'; injection hc' with e; subst e; exact hc
    · exact h.1 j c (by omega) hc'
  · by_cases e : i = k
    · subst e; rw [hx] at ha; injection ha with e; subst e; exact hd j b hj hb
    · exact h.2 i j a b (by omega) hj ha hb
theorem sigK_all {cs : List Ctl} {k : Nat} (h : SigK cs k) (hk : cs.length ≤ k) : sigB cs = inb cs.length 1 6 := by
  cases hq : inb cs.length 1 6 with
  | true => exact sig_true ⟨fun j c hc => h.1 j c (by have := (List.getElem?_eq_some_iff.1 hc).1; omega) hc, fun i j a b hj ha hb => h.2 i j a b (by have := (List.getElem?_eq_some_iff.1 ha).1; omega) hj ha hb, hq⟩
  | false => exact sig_false (fun hp => by rw [hp.2.2] at hq; cases hq)
theorem sig_bad {cs : List Ctl} {k : Nat} {x : Ctl} (hx : cs[k]? = some x) (hc : ctlB x = false) : sigB cs = false := sig_false (fun hp => by rw [hp.1 k x hx] at hc; cases hc)
theorem sig_twice {cs : List Ctl} {i j : Nat} {a b : Ctl} (hj : j < i) (ha : cs[i]? = some a) (hb : cs[j]? = some b) (e : b.name = a.name) : sigB cs = false := sig_false (fun hp => hp.2.1 i j a b hj ha hb e)

def Post (b : Bool) (w : World) (e : Ending) (w' : World) : Prop := e = .returned (.bool b) ∧ Below w.heap.size w w'

end Go.Proofs.YtlpgldejmdiceabDoor.sig
end

section
namespace Go.Proofs.YtlpgldejmdiceabDoor.isig
open kit bg sg sig mapb only
open Go.RowKit
open Go.Maps (Keyed)
set_option linter.unusedVariables false

theorem zeroB (w : World) : (zeroValue 4).run Tryd.prog w = .ok (.bool false) w := by kernel_rfl
theorem lawS : Keyed Tryd.prog 9 := Maps.string_keyed Tryd.underlying9

/-- the names of the first k Controls, as keys -/
def Seen (cs : List Ctl) (k : Nat) (l : Lit) : Prop := ∃ (j : Nat) (c : Ctl), j < k ∧ cs[j]? = some c ∧ l = .string c.name.data.toList
theorem seen_name {cs : List Ctl} {k : Nat} {s : ByteArray} (h : Seen cs k (.string s.data.toList)) : ∃ (j : Nat) (c : Ctl), j < k ∧ cs[j]? = some c ∧ c.name = s := by
  obtain ⟨j, c, hj, hc, e⟩ := h
  injection e with e
  exact ⟨j, c, hj, hc, Go.WideShapes.bytes_inj e.symm⟩

end Go.Proofs.YtlpgldejmdiceabDoor.isig
end

section
namespace Go.Proofs.YtlpgldejmdiceabDoor.un
open kit bg sg sig only
open Go.RowKit
set_option linter.unusedVariables false

/-- what underB says of a parent that is a node -/
theorem under_node {cs : List Ctl} {b : Big} {p : Nat} {m : Int} {nd : Nd} {c : Ctl} (hp : (p : Int) < m) (hx : b.nodes[p]? = some nd) (hc : cs[nd.control.toNat]? = some c) : underB cs b p m = (c.kind != 2) := by
  unfold underB
  rw [if_neg (by omega)]
  simp only [Int.toNat_natCast, hx, hc, decide_eq_true hp, Bool.true_and]
theorem under_far {cs : List Ctl} {b : Big} {p m : Int} (h0 : ¬ p < 0) (hp : ¬ p < m) : underB cs b p m = false := by
  unfold underB
  rw [if_neg h0, decide_eq_false hp]; rfl
theorem under_root {cs : List Ctl} {b : Big} {p m : Int} (h0 : p < 0) : underB cs b p m = inb (-1 - p) 0 (b.roots - 1) := by
  unfold underB
  rw [if_pos h0]
theorem root_eq (p R : Int) : inb p (-R) (-1) = inb (-1 - p) 0 (R - 1) := by
  unfold inb
  congr 1
  exact propext ⟨fun h => by omega, fun h => by omega⟩

/-- the Controls of the first nodes are there -/
def Ctrl (cs : List Ctl) (ns : List Nd) (m : Nat) : Prop := ∀ (j : Nat) nd, j < m → ns[j]? = some nd → inb nd.control 0 (cs.length - 1) = true

end Go.Proofs.YtlpgldejmdiceabDoor.un
end

section
namespace Go.Proofs.YtlpgldejmdiceabDoor.over
open Go.RowKit
set_option linter.unusedVariables false

/-- the worlds over W -/
def Over (W : World) : Type := { w' : World // Below W.heap.size W w' }
def Over.w {W : World} (y : Over W) : World := y.1
theorem Over.below {W : World} (y : Over W) : Below W.heap.size W y.w := y.2
theorem Over.cell {W : World} (y : Over W) {p : Addr} (hp : p.block < W.heap.size) : y.w.cell? p = W.cell? p := y.2.cell hp
theorem Over.get {W : World} {b o : Nat} {v : Value} (h : W.cell? ⟨b, o, none⟩ = some v) (hb : b < W.heap.size) (y : Over W) : y.w.cell? ⟨b, o, none⟩ = some v := (y.cell (p := ⟨b, o, none⟩) hb).trans h
def Over.mk {W w' : World} (h : Below W.heap.size W w') : Over W := ⟨w', h⟩

instance Over.some_ {W : World} : Nonempty (Over W) := ⟨Over.mk (Below.refl _ W)⟩

theorem wp_region_over {P : Program} {id : Nat} {Q : Exit → Act → World → Prop} {a : Act} {w : World} {l : List Oper} (hm : P.follows .mixedOrders = true) (hB : Region.lexB .any l.toArray = true)
    (h : wpQuiet P l.toArray (fun w' => ∃ y : Over w, w' = y.w) (fun a' => ∀ w', (∃ y : Over w, w' = y.w) → Q .normal a' w') l a) : (Code.region id l.toArray true).wp P Q a w :=
  wp_region_quiet (C := fun w' => ∃ y : Over w, w' = y.w) hm hB ⟨Over.mk ((Below.refl _ w).drew), rfl⟩ (by simpa using h)

theorem over_call {P : Program} {W : World} {y : Over W} {f : FuncId} {args : Array Value} {v : Value} (h : Calls P f args y.w fun e w' => e = .returned v ∧ Below y.w.heap.size y.w w') :
    Calls P f args y.w fun e w'' => e = .returned v ∧ ∃ y' : Over W, w'' = y'.w :=
  h.mono fun _ w' ⟨he, hb⟩ => ⟨he, Over.mk (y.below.trans (hb.mono y.below.size)), rfl⟩
theorem over_same {P : Program} {W : World} {y : Over W} {f : FuncId} {args : Array Value} {v : Value} (h : Calls P f args y.w fun e w' => e = .returned v ∧ y.w = w') :
    Calls P f args y.w fun e w'' => e = .returned v ∧ ∃ y' : Over W, w'' = y'.w :=
  h.mono fun _ w' ⟨he, hb⟩ => ⟨he, y, hb.symm⟩
end Go.Proofs.YtlpgldejmdiceabDoor.over
end

section
namespace Go.Proofs.YtlpgldejmdiceabDoor.nm
open kit bg sg sig only
open Go.RowKit
set_option linter.unusedVariables false

theorem less_tri (a b : List UInt8) : Op.bytesLess a b = !(Op.bytesLess b a || b == a) := by
  induction a generalizing b with
  | nil => cases b <;> simp [Op.bytesLess]
  | cons x a ih =>
    cases b with
    | nil => simp [Op.bytesLess]
    | cons y b =>
      simp only [Op.bytesLess]
      have e1 : (y == x) = (x == y) := by
        cases hxy : (x == y) with
        | true => rw [eq_of_beq hxy]; simp
        | false =>
          cases hyx : (y == x) with
          | true => rw [eq_of_beq hyx] at hxy; simp at hxy
          | false => rfl
      have e2 : (y :: b == x :: a) = ((x == y) && (b == a)) := by
        rw [← e1]; rfl
      rw [e2, e1, ih b]
      cases hxy : (x == y) with
      | true =>
        have := eq_of_beq hxy
        subst this
        simp [UInt8.lt_irrefl]
      | false =>
        have hne : x ≠ y := fun e => by subst e; simp at hxy
        have hlt : decide (x < y) = !decide (y < x) := by
          rcases UInt8.lt_or_lt_of_ne hne with h | h
          · rw [decide_eq_true h, decide_eq_false (UInt8.lt_asymm h)]; rfl
          · rw [decide_eq_true h, decide_eq_false (UInt8.lt_asymm h)]; rfl
        simp [hlt]
theorem less_not {p s : ByteArray} : lessB p s = !(Op.bytesLess s.toList p.toList || s.toList == p.toList) := less_tri _ _

/-- the first k strings are names, strictly ascending -/
def NamesK (ss : List ByteArray) (k : Nat) : Prop :=
  (∀ (j : Nat) s, j < k → ss[j]? = some s → nameB s = true) ∧ (∀ (j : Nat) a b, j + 1 < k → ss[j]? = some a → ss[j + 1]? = some b → lessB a b = true)
open Classical in
/-- whether they are names -/
noncomputable def namesB (ss : List ByteArray) : Bool := decide (NamesP ss)
open Classical in
theorem names_true {ss : List ByteArray} (h : NamesP ss) : namesB ss = true := by unfold namesB; exact decide_eq_true h
open Classical in
theorem names_false {ss : List ByteArray} (h : ¬ NamesP ss) : namesB ss = false := by unfold namesB; exact decide_eq_false h
open Classical in
theorem names_of {ss : List ByteArray} (h : namesB ss = true) : NamesP ss := by unfold namesB at h; exact of_decide_eq_true h
theorem namesK_zero (ss : List ByteArray) : NamesK ss 0 := ⟨fun j s h => absurd h (Nat.not_lt_zero j), fun j a b h => absurd h (by omega)⟩
theorem namesK_one {ss : List ByteArray} {s : ByteArray} (hx : ss[0]? = some s) (hc : nameB s = true) : NamesK ss (0 + 1) :=
  ⟨fun j x hj hx' => by
    obtain rfl : j = 0 := by omega
    rw [hx] at hx'; injection hx' with e; subst e; exact hc, fun j a b h => absurd h (by omega)⟩
theorem namesK_next {ss : List ByteArray} {k : Nat} {p s : ByteArray} (h : NamesK ss (k + 1)) (hp : ss[k]? = some p) (hx : ss[k + 1]? = some s) (hc : nameB s = true) (hl : lessB p s = true) : NamesK ss (k + 1 + 1) := by
  refine ⟨fun j x hj hx' => ?_, fun j a b hj ha hb => ?_⟩
  · by_cases e : j = k + 1
    · subst e; rw [hx] at hx'; injection hx' with e; subst e; exact hc
    · exact h.1 j x (by omega) hx'
  · by_cases e : j = k
    · subst e
      rw [hp] at ha
      rw [hx] at hb
      injection ha with ha
      injection hb with hb
      subst ha hb
      exact hl
    · exact h.2 j a b (by omega) ha hb
theorem namesK_all {ss : List ByteArray} {k : Nat} (h : NamesK ss k) (hk : ss.length ≤ k) : NamesP ss :=
  ⟨fun j s hs => h.1 j s (by have := (List.getElem?_eq_some_iff.1 hs).1; omega) hs, fun j a b ha hb => h.2 j a b (by have := (List.getElem?_eq_some_iff.1 hb).1; omega) ha hb⟩
theorem names_bad {ss : List ByteArray} {k : Nat} {s : ByteArray} (hx : ss[k]? = some s) (hc : nameB s = false) : namesB ss = false := names_false (fun hp => by rw [hp.1 k s hx] at hc; cases hc)
theorem names_down {ss : List ByteArray} {k : Nat} {p s : ByteArray} (hp : ss[k]? = some p) (hx : ss[k + 1]? = some s) (hl : lessB p s = false) : namesB ss = false := names_false (fun h => by rw [h.2 k p s hp hx] at hl; cases hl)

end Go.Proofs.YtlpgldejmdiceabDoor.nm
end

section
namespace Go.Proofs.YtlpgldejmdiceabDoor.inn
open kit bg only strs hb sig
open Go.RowKit
set_option linter.unusedVariables false

/-- a row of the call's own, from block B on, that holds these values -/
def Owns (w : World) (B : Nat) (t : TypeId) (v : Value) (ys : List Value) : Prop := w.ownsRow B t 1 v ys.length ys ∧ v ≠ .slice none 0 0
theorem Owns.row {w : World} {B : Nat} {t : TypeId} {v : Value} {ys : List Value} (h : Owns w B t v ys) :
    ∃ g cap f, v = .slice (some ⟨g, 0, none⟩) ys.length cap ∧ B ≤ g ∧ ys.length ≤ cap ∧ w.rowIs g t cap f ∧ ∀ k u, ys[k]? = some u → f k = u := by
  obtain ⟨⟨h1, h2⟩, hn⟩ := h
  rcases h2 with ⟨e, _⟩ | ⟨g, cap, cur, rfl, hb, hh, hc, hm, hs, ht⟩
  · exact absurd e hn
  · refine ⟨g, cap, fun i => (cur[i]?).getD undef, rfl, hb, hc, ⟨cur, hh, by simpa using hs, fun i hi => ?_⟩, fun k u hu => ?_⟩
    · show cur[i]? = some ((cur[i]?).getD undef)
      rw [Array.getElem?_eq_getElem (show i < cur.size by omega)]; rfl
    · have hk : k < ys.length := (List.getElem?_eq_some_iff.1 hu).1
      rw [← ht, List.getElem?_take_of_lt (by omega)] at hu
      have hu2 : cur[k]? = some u := by simpa using hu
      show (cur[k]?).getD undef = u
      rw [hu2]; rfl
theorem Owns.at {w : World} {B : Nat} {t : TypeId} {v : Value} {ys : List Value} (h : Owns w B t v ys) : ∃ g cap, v = .slice (some ⟨g, 0, none⟩) ys.length cap ∧ B ≤ g ∧ g < w.heap.size ∧ ys.length ≤ cap ∧ SR w w.heap.size (some ⟨g, 0, none⟩) ys.length ys := by
  obtain ⟨g, cap, f, rfl, hb, hc, hr, hf⟩ := h.row
  exact ⟨g, cap, rfl, hb, hr.lt, hc, SR.of_row2 hr hc hr.lt (fun k u hu => ⟨(List.getElem?_eq_some_iff.1 hu).1, hf k u hu⟩) rfl⟩
theorem Owns.mono {w : World} {B B' : Nat} {t : TypeId} {v : Value} {ys : List Value} (h : Owns w B t v ys) (hB : B' ≤ B) : Owns w B' t v ys := by
  obtain ⟨⟨h1, h2⟩, hn⟩ := h
  refine ⟨⟨h1, ?_⟩, hn⟩
  rcases h2 with h | ⟨g, cap, cur, e, hb, r⟩
  · exact .inl h
  · exact .inr ⟨g, cap, cur, e, by omega, r⟩

/-- what a collecting function tells -/
def ColPost (t : TypeId) (ys : List Value) (w : World) (e : Ending) (w' : World) : Prop := ∃ v, e = .returned v ∧ Owns w' w.heap.size t v ys ∧ Below w.heap.size w w'

def nms (ws : List Wr) : List ByteArray := ws.map (·.name)
theorem nms_take {ws : List Wr} {k : Nat} {x : Wr} (h : ws[k]? = some x) : (nms (ws.take (k + 1))).map Value.string = (nms (ws.take k)).map Value.string ++ [.string x.name] := by
  unfold nms
  rw [take_snoc h]; simp
theorem nms_len {ws : List Wr} {k : Nat} (h : k ≤ ws.length) : ((nms (ws.take k)).map Value.string).length = k := by
  unfold nms
  simp [h]

end Go.Proofs.YtlpgldejmdiceabDoor.inn
end

section
namespace Go.Proofs.YtlpgldejmdiceabDoor.gn
open kit bg sg sig only un hb opn over
open Go.RowKit
set_option linter.unusedVariables false

/-- whether the k-th node is as it must be -/
def nodeB (cs : List Ctl) (b : Big) (k : Nat) (nd : Nd) : Bool := seatB cs b k nd && portsB cs nd && nd.links.all (linkB b)
theorem row3 {w : World} {β : Nat} {t : TypeId} {a b c : Value} (h : w.rowIs β t 3 (fun i => (#[a, b, c][i]?).getD undef)) : w.cell? ⟨β, 0, none⟩ = some a ∧ w.cell? ⟨β, 1, none⟩ = some b ∧ w.cell? ⟨β, 2, none⟩ = some c :=
  ⟨h.cell (by omega), h.cell (by omega), h.cell (by omega)⟩
theorem links_all {b : Big} {ls : List Int} {k : Nat} (h : ∀ (i : Nat) l, i < k → ls[i]? = some l → linkB b l = true) (hk : ls.length ≤ k) : ls.all (linkB b) = true := by
  rw [List.all_eq_true]
  intro l hl
  obtain ⟨i, hi⟩ := List.getElem?_of_mem hl
  exact h i l (by have := (List.getElem?_eq_some_iff.1 hi).1; omega) hi
theorem links_bad {b : Big} {ls : List Int} {i : Nat} {l : Int} (hl : ls[i]? = some l) (h : linkB b l = false) : ls.all (linkB b) = false := by
  rw [List.all_eq_false]
  exact ⟨l, List.mem_of_getElem? hl, by rw [h]; decide⟩

end Go.Proofs.YtlpgldejmdiceabDoor.gn
end

section
namespace Go.Proofs.YtlpgldejmdiceabDoor.gd
open kit bg sg sig only un hb opn over gn nm inn ht
open Go.RowKit
set_option linter.unusedVariables false

theorem sizes_of {b : Big} (h : sizesB b = true) : (0 ≤ b.roots ∧ b.roots ≤ 4) ∧ (0 ≤ b.edges ∧ b.edges ≤ 8) ∧ b.nodes.length ≤ 8 ∧ b.sites.length ≤ 4 ∧ b.outer.length ≤ 16 ∧ b.inner.length ≤ 16 := by
  unfold sizesB at h
  simp only [Bool.and_eq_true, decide_eq_true_eq] at h
  obtain ⟨⟨⟨⟨⟨h1, h2⟩, h3⟩, h4⟩, h5⟩, h6⟩ := h
  exact ⟨inb_true h1, inb_true h2, h3, h4, h5, h6⟩
theorem sizes_mk {b : Big} (h1 : 0 ≤ b.roots ∧ b.roots ≤ 4) (h2 : 0 ≤ b.edges ∧ b.edges ≤ 8) (h3 : b.nodes.length ≤ 8) (h4 : b.sites.length ≤ 4) (h5 : b.outer.length ≤ 16) (h6 : b.inner.length ≤ 16) : sizesB b = true := by
  unfold sizesB
  simp only [Bool.and_eq_true, decide_eq_true_eq]
  exact ⟨⟨⟨⟨⟨inb_mk h1, inb_mk h2⟩, h3⟩, h4⟩, h5⟩, h6⟩
theorem bad_sig {cs : List Ctl} {b : Big} (h : sigB cs = false) : bigB cs b = false := big_false (fun hp => by rw [sig_true hp.1] at h; cases h)
theorem bad_size {cs : List Ctl} {b : Big} (h : ¬ ((0 ≤ b.roots ∧ b.roots ≤ 4) ∧ (0 ≤ b.edges ∧ b.edges ≤ 8) ∧ b.nodes.length ≤ 8 ∧ b.sites.length ≤ 4 ∧ b.outer.length ≤ 16 ∧ b.inner.length ≤ 16)) : bigB cs b = false :=
  big_false (fun hp => h (sizes_of hp.2.1))
theorem bad_outer {cs : List Ctl} {b : Big} (h : namesB b.outer = false) : bigB cs b = false := big_false (fun hp => by rw [names_true hp.2.2.1] at h; cases h)
theorem bad_inner {cs : List Ctl} {b : Big} (h : namesB (nms b.inner) = false) : bigB cs b = false := big_false (fun hp => by have := names_true hp.2.2.2.1; unfold nms at h; rw [this] at h; cases h)
theorem bad_node {cs : List Ctl} {b : Big} {k : Nat} {x : Nd} (hx : b.nodes[k]? = some x) (h : nodeB cs b k x = false) : bigB cs b = false :=
  big_false (fun hp => by
    obtain ⟨h1, h2, h3⟩ := hp.2.2.2.2.1 k x hx
    unfold nodeB at h
    rw [h1, h2, links_all (fun i l _ hl => h3 i l hl) (Nat.le_refl _)] at h
    cases h)
theorem bad_site {cs : List Ctl} {b : Big} {i : Nat} {p : Int} (hp : b.sites[i]? = some p) (h : underB cs b p b.nodes.length = false) : bigB cs b = false :=
  big_false (fun hp' => by rw [hp'.2.2.2.2.2.1 i p hp] at h; cases h)
theorem bad_wire {cs : List Ctl} {b : Big} {i : Nat} {x : Wr} (hx : b.inner[i]? = some x) (h : linkB b x.link = false) : bigB cs b = false :=
  big_false (fun hp' => by rw [hp'.2.2.2.2.2.2 i x hx] at h; cases h)
theorem good_all {cs : List Ctl} {b : Big} (h1 : sigB cs = true) (h2 : (0 ≤ b.roots ∧ b.roots ≤ 4) ∧ (0 ≤ b.edges ∧ b.edges ≤ 8) ∧ b.nodes.length ≤ 8 ∧ b.sites.length ≤ 4 ∧ b.outer.length ≤ 16 ∧ b.inner.length ≤ 16) (h3 : namesB b.outer = true) (h4 : namesB (nms b.inner) = true)
    (h5 : ∀ (k : Nat) x, b.nodes[k]? = some x → nodeB cs b k x = true) (h6 : ∀ (i : Nat) p, b.sites[i]? = some p → underB cs b p b.nodes.length = true) (h7 : ∀ (i : Nat) x, b.inner[i]? = some x → linkB b x.link = true) : bigB cs b = true := by
  obtain ⟨a1, a2, a3, a4, a5, a6⟩ := h2
  refine big_true ⟨sig_of h1, sizes_mk a1 a2 a3 a4 a5 a6, names_of h3, names_of h4, fun k x hx => ?_, h6, h7⟩
  have := h5 k x hx
  unfold nodeB at this
  simp only [Bool.and_eq_true] at this
  obtain ⟨⟨q1, q2⟩, q3⟩ := this
  exact ⟨q1, q2, fun i l hl => List.all_eq_true.1 q3 l (List.mem_of_getElem? hl)⟩
theorem ctrl_of {cs : List Ctl} {b : Big} {m : Nat} (h : ∀ (j : Nat) x, j < m → b.nodes[j]? = some x → nodeB cs b j x = true) : Ctrl cs b.nodes m := fun j x hj hx => by
  have := h j x hj hx
  unfold nodeB seatB at this
  simp only [Bool.and_eq_true] at this
  exact this.1.1.1

end Go.Proofs.YtlpgldejmdiceabDoor.gd
end
