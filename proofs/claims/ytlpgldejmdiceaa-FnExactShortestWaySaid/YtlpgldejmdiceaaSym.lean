/- slices.IndexFunc and slices.ContainsFunc at triples for any function value; IsClosedSet of spec and impl. -/
import Derived.Test.YtlpgldejmdiceaaSyl
import Derived.Test.YtlpgldejmdiceaaSyk
namespace Go.Proofs.Ytlpgldejmdiceaa.sym
open kit bg sg opn strs only hb sig isig un over gn nm inn ht gd im pt marks eqs hc hi hw hn rs br bm bw cf lf ib isa lawb lw cl bgs cz syx sya syh syi syc syg syb syk syl has
open Go.RowKit
set_option linter.unusedVariables false
set_option linter.unusedSimpArgs false

/-- what IndexFunc gives: the first place, or -1 -/
def FoundT (P : Tri → Bool) (xs : List Tri) (w : World) (e : Ending) (w' : World) : Prop :=
  (∃ (k : Nat) (x : Tri), e = .returned (.int .i64 k) ∧ xs[k]? = some x ∧ P x = true ∧ (∀ (j : Nat) y, j < k → xs[j]? = some y → P y = false) ∧ Below w.heap.size w w') ∨ (e = .returned (.int .i64 (-1)) ∧ (∀ (j : Nat) x, j < xs.length → xs[j]? = some x → P x = false) ∧ Below w.heap.size w w')
theorem foundT_none {P : Tri → Bool} {xs : List Tri} (h : ∀ (j : Nat) x, j < xs.length → xs[j]? = some x → P x = false) : xs.any P = false := by
  refine List.any_eq_false.2 (fun x hx => ?_)
  obtain ⟨j, hj⟩ := List.getElem?_of_mem hx
  rw [h j x (List.getElem?_eq_some_iff.1 hj).1 hj]; simp
set_option maxRecDepth 20000 in
set_option maxHeartbeats 1600000 in
theorem idxT_any (G : FuncId) (lb : Array Value) (P : Tri → Bool) (eg : ∀ args w, (callFunc G args).run Try.prog w = .ok (.enter G args) w) (Ax : Option Addr) (nx cx : Nat) (xs : List Tri) (w0 w : World)
    (hG : ∀ (x : Tri) (Y : World), x ∈ xs → Below w.heap.size w Y → Calls Try.prog G (#[triV x] ++ lb) Y (Post (P x) Y))
    (hx : TriAt w0 w0.heap.size Ax nx xs) (hb0 : Below w0.heap.size w0 w) (hn : nx ≤ 1048576) :
    Calls Try.prog 72 #[.slice Ax nx cx, .func (.func G) #[] lb] w (FoundT P xs w) := by
  have HL := Lib.hid hx.len
  have HG := Lib.hid hG
  unfold triV at HG
  clear hG
  go_enter Try.func72, Try.ntmps72
  go_wp2_with fail
  go_loopw [5, 8] (fun _ i wr => ∃ k : Nat, k ≤ nx ∧ i = .int .i64 k ∧ (∀ (j : Nat) x, j < k → xs[j]? = some x → P x = false) ∧ Below w.heap.size w wr) (fun _ i _ => nx - (intOf i).toNat)
  case atStart => exact ⟨0, Nat.zero_le _, rfl, fun j x hj => absurd hj (Nat.not_lt_zero j), Below.refl _ _⟩
  case round =>
    obtain ⟨k, hk, rfl, hok, hbel⟩ := hrel
    have HOk := Lib.hid hok
    have HBel := Lib.hid hbel
    have hbw := hb0.trans (hbel.mono hb0.size)
    clear hok hbel
    by_cases hlt : k < nx
    · obtain ⟨bi, offi, x, rfl, hbi, hx, c0, c1, c2⟩ := hx.get hlt
      have g0 := (hbw.cell (p := ⟨bi, offi + k * 3, none⟩) hbi).trans c0
      have g1 := (hbw.cell (p := ⟨bi, offi + k * 3 + 1, none⟩) hbi).trans c1
      have g2 := (hbw.cell (p := ⟨bi, offi + k * 3 + 2, none⟩) hbi).trans c2
      have CK := HG.out x wr (List.mem_of_getElem? hx) HBel.out
      have HX := Lib.hid hx
      obtain ⟨q, hq⟩ : ∃ q, P x = q := ⟨_, rfl⟩
      have HQ := Lib.hid hq
      rw [hq] at CK
      clear hx hq c0 c1 c2
      cases q with
      | true =>
        go_wp2_with (go_at_fn G; refine CK.mono ?_; rintro e w3 ⟨rfl, hb3⟩; have HB3 := Lib.hid (HBel.out.trans (hb3.mono HBel.out.size)); clear CK hb3)
        go_wp2_with fail
        go_ret
        exact .inl ⟨k, x, rfl, HX.out, HQ.out, HOk.out, HB3.out⟩
      | false =>
        go_wp2_with (go_at_fn G; refine CK.mono ?_; rintro e w3 ⟨rfl, hb3⟩; have HB3 := Lib.hid (HBel.out.trans (hb3.mono HBel.out.size)); clear CK hb3)
        go_wp2_with fail
        go_roundw
        case rel => exact ⟨k + 1, by omega, by go_num, fun j' x' hj' hx' => by
          by_cases e : j' = k
          · subst e; rw [HX.out] at hx'; injection hx' with e; subst e; exact HQ.out
          · exact HOk.out j' x' (by omega) hx', HB3.out⟩
        case measure => simp [intOf]; omega
    · obtain rfl : k = nx := by omega
      go_wp2_with fail
      go_ret
      exact .inr ⟨rfl, by rw [HL.out]; exact HOk.out, HBel.out⟩

set_option maxHeartbeats 800000 in
/-- slices.ContainsFunc at triples -/
theorem conT_any (G : FuncId) (lb : Array Value) (P : Tri → Bool) (eg : ∀ args w, (callFunc G args).run Try.prog w = .ok (.enter G args) w) (Ax : Option Addr) (nx cx : Nat) (xs : List Tri) (w0 w : World)
    (hG : ∀ (x : Tri) (Y : World), x ∈ xs → Below w.heap.size w Y → Calls Try.prog G (#[triV x] ++ lb) Y (Post (P x) Y))
    (hx : TriAt w0 w0.heap.size Ax nx xs) (hb0 : Below w0.heap.size w0 w) (hn : nx ≤ 1048576) :
    Calls Try.prog 78 #[.slice Ax nx cx, .func (.func G) #[] lb] w (Post (xs.any P) w) := by
  have C := Lib.hid (idxT_any G lb P eg Ax nx cx xs w0 w hG hx hb0 hn)
  obtain ⟨q, hq⟩ : ∃ q, xs.any P = q := ⟨_, rfl⟩
  rw [hq]
  have HQ := Lib.hid hq
  clear hq hG
  go_enter Try.func78, Try.ntmps78
  go_wp2_with fail
  refine C.out.mono ?_
  rintro e w1 (⟨k, x, rfl, hx2, hl, -, hb⟩ | ⟨rfl, hok, hb⟩)
  · have HY := Lib.hid (HQ.out.symm.trans (List.any_eq_true.2 ⟨x, List.mem_of_getElem? hx2, hl⟩))
    clear hx2 hl
    go_wp2_with fail
    go_ret
    exact ⟨by rw [HY.out]; rfl, hb⟩
  · have HN := Lib.hid (HQ.out.symm.trans (foundT_none hok))
    clear hok
    go_wp2_with fail
    go_ret
    exact ⟨by rw [HN.out]; rfl, hb⟩

/-! ### IsClosedSet -/
def leaves (gs : List Int) (s : Tri) : Bool := hasB gs s.1 && !hasB gs s.2.2
def clsQ (n : Nat) (ts : List Tri) (gs : List Int) : Bool := goodB n ts && golB n gs
def clsV (n : Nat) (ts : List Tri) (gs : List Int) : Bool := clsQ n ts gs && !ts.any (leaves gs)
set_option maxRecDepth 20000 in
set_option maxHeartbeats 1600000 in
theorem cls1_any (β : Nat) (A : Option Addr) (n c : Nat) (gs : List Int) (s : Tri) (w : World) (hβ : w.cell? ⟨β, 0, none⟩ = some (.slice A n c)) (hl : β < w.heap.size) (h : IntsAt w w.heap.size A n gs) (hn : n ≤ 1048576) :
    Calls Try.prog 79 #[triV s, .pointer (some ⟨β, 0, none⟩)] w (Post (leaves gs s) w) := by
  unfold triV
  have hb0 := (Below.refl w.heap.size w).alloc (Nat.le_refl _) (.cells #[.int .i64 s.1, .int .i64 s.2.1, .int .i64 s.2.2] 76)
  obtain ⟨y0, y1, y2⟩ := box3 (BoxN.new w #[.int .i64 s.1, .int .i64 s.2.1, .int .i64 s.2.2] 76)
  have z0 := (hb0.cell (p := ⟨β, 0, none⟩) hl).trans hβ
  have C1 := contains_any A n c gs s.1 (w.alloc (.cells #[.int .i64 s.1, .int .i64 s.2.1, .int .i64 s.2.2] 76)) _ ((h.below hb0).wide hb0.size) hn
  have C2 := contains_any A n c gs s.2.2 (w.alloc (.cells #[.int .i64 s.1, .int .i64 s.2.1, .int .i64 s.2.2] 76)) _ ((h.below hb0).wide hb0.size) hn
  obtain ⟨W, hW⟩ : ∃ W, w.alloc (.cells #[.int .i64 s.1, .int .i64 s.2.1, .int .i64 s.2.2] 76) = W := ⟨_, rfl⟩
  rw [hW] at hb0
  have HWq := Lib.hid hW
  have HB0 := Lib.hid hb0
  clear hb0
  clear hW hβ
  unfold leaves
  cases h1 : hasB gs s.1 with
  | false =>
    rw [h1] at C1
    clear h1
    go_enter Try.func79, Try.ntmps79
    go_wp2_with fail
    refine C1.mono ?_
    rintro e w1 ⟨rfl, rfl⟩
    go_wp2_with fail
    go_ret
    exact ⟨rfl, by rw [HWq.out]; exact HB0.out⟩
  | true =>
    rw [h1] at C1
    clear h1
    go_enter Try.func79, Try.ntmps79
    go_wp2_with fail
    refine C1.mono ?_
    rintro e w1 ⟨rfl, rfl⟩
    clear C1
    go_wp2_with fail
    refine C2.mono ?_
    rintro e w1 ⟨rfl, rfl⟩
    clear C2
    go_wp2_with fail
    go_ret
    exact ⟨by simp, by rw [HWq.out]; exact HB0.out⟩
end Go.Proofs.Ytlpgldejmdiceaa.sym
