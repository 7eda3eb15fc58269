/- slices.ContainsFunc at ints, for any function value whose answers are known. -/
import Derived.Test.YtfjgapkjpmkplaaQd
namespace Go.Proofs.Ytfjgapkjpmkplaa.cfg
open kit bg sg opn strs only hb sig isig un over gn nm inn ht gd im pt marks eqs hc hi hw hn rs br bm bw cf lf ib isa lawb lw cl
open Go.RowKit
set_option linter.unusedVariables false
set_option linter.unusedSimpArgs false
def FoundP {α : Type} (P : α → Bool) (xs : List α) (w : World) (e : Ending) (w' : World) : Prop :=
  (∃ k : Nat, e = .returned (.int .i64 k) ∧ (∃ x, xs[k]? = some x ∧ P x = true) ∧ Below w.heap.size w w') ∨ (e = .returned (.int .i64 (-1)) ∧ (∀ (j : Nat) x, j < xs.length → xs[j]? = some x → P x = false) ∧ Below w.heap.size w w')
theorem found_any {α : Type} {P : α → Bool} {xs : List α} {k : Nat} {x : α} (hx : xs[k]? = some x) (h : P x = true) : xs.any P = true := List.any_eq_true.2 ⟨x, List.mem_of_getElem? hx, h⟩
theorem found_none {α : Type} {P : α → Bool} {xs : List α} (h : ∀ (j : Nat) x, j < xs.length → xs[j]? = some x → P x = false) : xs.any P = false := by
  refine List.any_eq_false.2 (fun x hx => ?_)
  obtain ⟨j, hj⟩ := List.getElem?_of_mem hx
  rw [h j x (List.getElem?_eq_some_iff.1 hj).1 hj]; simp

set_option maxHeartbeats 1600000 in
theorem cfiI_any (G : FuncId) (lb : Array Value) (P : Int → Bool) (eg : ∀ args w, (callFunc G args).run Try.prog w = .ok (.enter G args) w) (Ax : Option Addr) (nx cx : Nat) (xs : List Int) (w0 w : World)
    (hG : ∀ (x : Int) (Y : World), x ∈ xs → Below w.heap.size w Y → Calls Try.prog G (#[.int .i64 x] ++ lb) Y (Post (P x) Y))
    (hx : IntsAt w0 w0.heap.size Ax nx xs) (hb0 : Below w0.heap.size w0 w) (hn : nx ≤ 1048576) :
    Calls Try.prog 99 #[.slice Ax nx cx, .func (.func G) #[] lb] w (FoundP P xs w) := by
  have HL := Lib.hid (show xs.length = nx from hx.len)
  have HG := Lib.hid hG
  clear hG
  go_enter Try.func99, Try.ntmps99
  go_wp2_with fail
  go_loopw [5, 8] (fun _ i wr => ∃ k : Nat, k ≤ nx ∧ i = .int .i64 k ∧ (∀ (j : Nat) x, j < k → xs[j]? = some x → P x = false) ∧ Below w.heap.size w wr) (fun _ i _ => nx - (intOf i).toNat)
  case atStart => exact ⟨0, Nat.zero_le _, rfl, fun j x hj => absurd hj (Nat.not_lt_zero j), Below.refl _ _⟩
  case round =>
    obtain ⟨k, hk, rfl, hok, hbel⟩ := hrel
    have HOk := Lib.hid hok
    have HBel := Lib.hid hbel
    have hbw := hb0.trans (hbel.mono hb0.size)
    clear hok hbel
    by_cases hlt : k < nx
    · obtain ⟨bi, offi, x, rfl, hbi, hx, c0⟩ := hx.get hlt
      have g0 := (hbw.cell (p := ⟨bi, offi + k, none⟩) hbi).trans c0
      clear c0
      have CK := HG.out x wr (List.mem_of_getElem? hx) HBel.out
      have HX := Lib.hid hx
      obtain ⟨q, hq⟩ : ∃ q, P x = q := ⟨_, rfl⟩
      have HQ := Lib.hid hq
      rw [hq] at CK
      clear hx hq
      cases q with
      | true =>
        go_wp2_with (go_at_fn G; refine CK.mono ?_; rintro e w3 ⟨rfl, hb3⟩; have HB3 := Lib.hid (HBel.out.trans (hb3.mono HBel.out.size)); clear CK hb3)
        go_wp2_with fail
        go_ret
        exact .inl ⟨k, rfl, ⟨x, HX.out, HQ.out⟩, HB3.out⟩
      | false =>
        go_wp2_with (go_at_fn G; refine CK.mono ?_; rintro e w3 ⟨rfl, hb3⟩; have HB3 := Lib.hid (HBel.out.trans (hb3.mono HBel.out.size)); clear CK hb3)
        go_wp2_with fail
        go_roundw
        case rel => exact ⟨k + 1, by omega, by go_num, fun j' x' hj' hx' => by
          by_cases e : j' = k
          · subst e; rw [HX.out] at hx'; injection hx' with e; subst e; exact HQ.out
          · exact HOk.out j' x' (by omega) hx', HB3.out⟩
        case measure => simp [intOf]; omega
    · obtain rfl : k = nx := by omega
      go_wp2_with fail
      go_ret
      exact .inr ⟨rfl, by rw [HL.out]; exact HOk.out, HBel.out⟩

set_option maxHeartbeats 800000 in
/-- slices.ContainsFunc at ints -/
theorem cfi_any (G : FuncId) (lb : Array Value) (P : Int → Bool) (eg : ∀ args w, (callFunc G args).run Try.prog w = .ok (.enter G args) w) (Ax : Option Addr) (nx cx : Nat) (xs : List Int) (w0 w : World)
    (hG : ∀ (x : Int) (Y : World), x ∈ xs → Below w.heap.size w Y → Calls Try.prog G (#[.int .i64 x] ++ lb) Y (Post (P x) Y))
    (hx : IntsAt w0 w0.heap.size Ax nx xs) (hb0 : Below w0.heap.size w0 w) (hn : nx ≤ 1048576) :
    Calls Try.prog 44 #[.slice Ax nx cx, .func (.func G) #[] lb] w (Post (xs.any P) w) := by
  have C := Lib.hid (cfiI_any G lb P eg Ax nx cx xs w0 w hG hx hb0 hn)
  obtain ⟨q, hq⟩ : ∃ q, xs.any P = q := ⟨_, rfl⟩
  rw [hq]
  have HQ := Lib.hid hq
  clear hq hG
  go_enter Try.func44, Try.ntmps44
  go_wp2_with fail
  refine C.out.mono ?_
  rintro e w1 (⟨k, rfl, ⟨x, hx2, hl⟩, hb⟩ | ⟨rfl, hok, hb⟩)
  · have HY := Lib.hid (HQ.out.symm.trans (found_any hx2 hl))
    clear hx2 hl
    go_wp2_with fail
    go_ret
    exact ⟨by rw [HY.out]; rfl, hb⟩
  · have HN := Lib.hid (HQ.out.symm.trans (found_none hok))
    clear hok
    go_wp2_with fail
    go_ret
    exact ⟨by rw [HN.out]; rfl, hb⟩
end Go.Proofs.Ytfjgapkjpmkplaa.cfg
