/- Discrete Bigraphs: how many points each outer name has; impl.linksOfPoints, impl.isDiscrete. -/
import Derived.Test.YtlhickjlcmiknaaLop
import Derived.StillTailTactics
namespace Go.Proofs.Ytlhickjlcmiknaa.dsc
open kit bg opn strs only hb sg sig isig un gd inn ht hi cf pt ptm lf ib rs rt pts psp rfo lop
open Go.RowKit
set_option linter.unusedVariables false

/-- how many points a link has -/
def ptsN (b : Big) (z : Int) : Nat := (onL z (ports b.nodes)).length + (ends b.inner z b.inner.length).length
theorem onL_count (z : Int) (ps : List Port) : (ps.map lnk).count z = (onL z ps).length := by
  induction ps with
  | nil => rfl
  | cons p ps ih =>
    rw [List.map_cons, List.count_cons, ih]
    unfold onL
    rw [List.filter_cons]
    by_cases h : p.2.2 = z
    · simp [lnk, h]
    · simp [lnk, h]
theorem ends_count (ws : List Wr) (z : Int) : ∀ k, k ≤ ws.length → ((ws.take k).map Wr.link).count z = (ends ws z k).length
  | 0, _ => by simp [ends]
  | k + 1, hk => by
    have ih := ends_count ws z k (by omega)
    have hx : ws[k]? = some ws[k] := List.getElem?_eq_getElem (by omega)
    rw [List.take_add_one, hx, List.map_append, List.count_append, ih]
    by_cases h : ws[k].link = z
    · rw [ends_yes hx h, List.length_append]; simp [h]
    · rw [ends_no hx h]; simp [h]
theorem lks_count (b : Big) (z : Int) : (lks b).count z = ptsN b z := by
  unfold lks ptsN
  rw [List.count_append, onL_count]
  have := ends_count b.inner z b.inner.length (Nat.le_refl _)
  rw [List.take_length] at this
  rw [this]
theorem lks_in {cs : List Ctl} {b : Big} (h : bigB cs b = true) {z : Int} (hz : z ∈ lks b) : 0 ≤ z ∧ z < b.edges + b.outer.length := by
  have hl : linkB b z = true := by
    unfold lks at hz
    rcases List.mem_append.1 hz with h1 | h1
    · obtain ⟨p, hp, rfl⟩ := List.mem_map.1 h1
      obtain ⟨k, x, i, hx, hl⟩ := mem_prtsTo hp
      exact ((big_of h).2.2.2.2.1 k x hx).2.2 i _ hl
    · obtain ⟨x, hx, rfl⟩ := List.mem_map.1 h1
      obtain ⟨i, hi⟩ := List.getElem?_of_mem hx
      exact (big_of h).2.2.2.2.2.2 i x hi
  have := inb_true hl
  omega
theorem lks_len {cs : List Ctl} {b : Big} (h : bigB cs b = true) : (lks b).length ≤ 40 := by
  have h8 := big8 h
  have e2 := prtsTo_len (links3 h) b.nodes.length
  have e3 : b.nodes.length * 3 ≤ 8 * 3 := Nat.mul_le_mul_right _ h8.1
  unfold lks
  rw [List.length_append, List.length_map, List.length_map]
  unfold ports
  omega
/-- each outer name has one point -/
def oneB (b : Big) : Bool := (List.range b.outer.length).all fun i => decide (ptsN b (b.edges + (i : Int)) = 1)
def sglB (b : Big) : Bool := oneB b && decide (b.edges = 0)

/-- the counts behind the first points -/
def cntF (pre : List Int) (j : Nat) : Value := .int .i64 (pre.count (j : Int) : Nat)
theorem row_next {w : World} {g n t : Nat} {pre : List Int} (h : w.rowIs g 3 n (cntF pre)) : (w.setCell ⟨g, t, none⟩ (.int .i64 ((pre.count (t : Int) : Nat) + 1 : Int))).rowIs g 3 n (cntF (pre ++ [(t : Int)])) := by
  refine (h.set t (.int .i64 ((pre.count (t : Int) : Nat) + 1 : Int))).congr (fun j hj => ?_)
  show (if j = t then _ else _) = _
  unfold cntF
  rw [List.count_append]
  by_cases e : j = t
  · subst e
    rw [if_pos rfl]
    simp
  · rw [if_neg e]
    have : ¬ (t : Int) = (j : Int) := by omega
    simp [this]

theorem lop_in (F : Fence) (n : Nat) (h27 : F.fn 94) (hro : F.round = none) (cs : Array Value) (hcs : cs.size = 6) (w : World) :
    CallsIn F n Try.prog 94 #[.agg cs] w fun e w' => e = .returned (.func (.func 106) #[] #[.pointer (some ⟨w.heap.size, 0, none⟩)]) ∧ w' = w.alloc (.cells cs 38) := by
  obtain ⟨l⟩ := cs
  match l, hcs with
  | [a, b, c, d, e, f], _ =>
    refine callsIn_of_wp Try.func94 rfl h27 ?_ hro
    simp only [Try.ntmps94, List.size_toArray, List.length_cons, List.length_nil, Nat.reduceAdd, Nat.reduceSub, Array.replicate_succ, Array.replicate_zero, List.push_toArray, List.append_toArray, List.nil_append, List.cons_append]
    gi_wp2
    go_ret
    exact ⟨rfl, rfl⟩

/-- impl.isDiscrete's closure -/
theorem ne1_any (z : Int) (w : World) : Calls Try.prog 96 #[.int .i64 z] w fun e w' => e = .returned (.bool (decide (z ≠ 1))) ∧ w' = w := by
  by_cases h : z = 1
  · go_enter Try.func96, Try.ntmps96
    go_wp2_with fail
    go_ret
    exact ⟨by simp [h], rfl⟩
  · go_enter Try.func96, Try.ntmps96
    go_wp2_with fail
    go_ret
    exact ⟨by simp [h], rfl⟩

def FoundI (P : Int → Bool) (xs : List Int) (w : World) (e : Ending) (w' : World) : Prop :=
  (∃ k : Nat, e = .returned (.int .i64 k) ∧ (∃ x, xs[k]? = some x ∧ P x = true) ∧ Below w.heap.size w w') ∨ (e = .returned (.int .i64 (-1)) ∧ (∀ (j : Nat) x, j < xs.length → xs[j]? = some x → P x = false) ∧ Below w.heap.size w w')

set_option maxHeartbeats 1600000 in
theorem nsi_any (Ax : Option Addr) (nx cx : Nat) (xs : List Int) (w : World) (hx : IntsAt w w.heap.size Ax nx xs) (hn : nx ≤ 1048576) :
    Calls Try.prog 107 #[.slice Ax nx cx, .func (.func 96) #[] #[]] w (FoundI (fun z => decide (z ≠ 1)) xs w) := by
  have HL := Lib.hid (show xs.length = nx from hx.len)
  go_enter Try.func107, Try.ntmps107
  go_wp2_with fail
  go_loopw [5, 8] (fun _ i wr => ∃ k : Nat, k ≤ nx ∧ i = .int .i64 k ∧ (∀ (j : Nat) x, j < k → xs[j]? = some x → decide (x ≠ 1) = false) ∧ Below w.heap.size w wr) (fun _ i _ => nx - (intOf i).toNat)
  case atStart => exact ⟨0, Nat.zero_le _, rfl, fun j x hj => absurd hj (Nat.not_lt_zero j), Below.refl _ _⟩
  case round =>
    obtain ⟨k, hk, rfl, hok, hbel⟩ := hrel
    have HOk := Lib.hid hok
    have HBel := Lib.hid hbel
    clear hok
    by_cases hlt : k < nx
    · obtain ⟨bi, offi, x, rfl, hbi, hx, c0⟩ := hx.get hlt
      have g0 := (hbel.cell (p := ⟨bi, offi + k, none⟩) hbi).trans c0
      clear c0 hbel
      have CK := ne1_any x wr
      have HX := Lib.hid hx
      obtain ⟨q, hq⟩ : ∃ q, decide (x ≠ 1) = q := ⟨_, rfl⟩
      have HQ := Lib.hid hq
      rw [hq] at CK
      clear hx hq
      cases q with
      | true =>
        go_wp2_with fail
        refine CK.mono ?_
        rintro e w3 ⟨rfl, rfl⟩
        clear CK
        go_wp2_with fail
        go_ret
        exact .inl ⟨k, rfl, ⟨x, HX.out, HQ.out⟩, HBel.out⟩
      | false =>
        go_wp2_with fail
        refine CK.mono ?_
        rintro e w3 ⟨rfl, rfl⟩
        clear CK
        go_wp2_with fail
        go_roundw
        case rel => exact ⟨k + 1, by omega, by go_num, fun j' x' hj' hx' => by
          by_cases e : j' = k
          · subst e; rw [HX.out] at hx'; injection hx' with e; subst e; exact HQ.out
          · exact HOk.out j' x' (by omega) hx', HBel.out⟩
        case measure => simp [intOf]; omega
    · obtain rfl : k = nx := by omega
      go_wp2_with fail
      go_ret
      exact .inr ⟨rfl, by rw [HL.out]; exact HOk.out, HBel.out⟩

set_option maxHeartbeats 800000 in
theorem nsc_any (Ax : Option Addr) (nx cx : Nat) (xs : List Int) (w : World) (hx : IntsAt w w.heap.size Ax nx xs) (hn : nx ≤ 1048576) :
    Calls Try.prog 95 #[.slice Ax nx cx, .func (.func 96) #[] #[]] w (Post (!(xs.all fun z => decide (z = 1))) w) := by
  have C := Lib.hid (nsi_any Ax nx cx xs w hx hn)
  obtain ⟨q, hq⟩ : ∃ q, (!(xs.all fun z => decide (z = 1))) = q := ⟨_, rfl⟩
  rw [hq]
  have HQ := Lib.hid hq
  clear hq
  go_enter Try.func95, Try.ntmps95
  go_wp2_with fail
  refine C.out.mono ?_
  rintro e w1 (⟨k, rfl, ⟨x, hx2, hl⟩, hb⟩ | ⟨rfl, hok, hb⟩)
  · have HY : Hid (q = true) := by
      have := HQ.out
      rw [← this]
      simp only [Bool.not_eq_true', List.all_eq_false]
      exact ⟨x, List.mem_of_getElem? hx2, by simpa using hl⟩
    clear hx2 hl
    go_wp2_with fail
    go_ret
    exact ⟨by rw [HY.out]; rfl, hb⟩
  · have HN : Hid (q = false) := by
      have := HQ.out
      rw [← this]
      simp only [Bool.not_eq_false', List.all_eq_true]
      intro x hx
      obtain ⟨i, hi⟩ := List.getElem?_of_mem hx
      have := hok i x (List.getElem?_eq_some_iff.1 hi).1 hi
      simpa using this
    clear hok
    go_wp2_with fail
    go_ret
    exact ⟨by rw [HN.out]; rfl, hb⟩
end Go.Proofs.Ytlhickjlcmiknaa.dsc
