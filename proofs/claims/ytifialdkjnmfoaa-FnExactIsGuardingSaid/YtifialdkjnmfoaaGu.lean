/- IsGuarding of spec and impl. -/
import Derived.Test.YtifialdkjnmfoaaLawB
import Derived.Test.YtifialdkjnmfoaaLw
import Derived.Test.YtifialdkjnmfoaaTp
namespace Go.Proofs.Ytifialdkjnmfoaa.gu
open kit bg sg opn strs only hb sig isig un over gn nm inn ht gd im pt marks eqs hc hi hw hn rs br bm bw cf lf ib isa lawb lw abv tp
open Go.RowKit
set_option linter.unusedVariables false

def grdQ (b : Big) : Bool := (b.sites.all fun p => decide (0 ≤ p)) && (b.inner.all fun x => decide (x.link < b.edges))
theorem all_end {α : Type} {xs : List α} {P : α → Prop} [DecidablePred P] {n : Nat} (hl : xs.length = n) (h : ∀ (j : Nat) x, j < n → xs[j]? = some x → P x) : (xs.all fun x => decide (P x)) = true := by
  refine List.all_eq_true.2 (fun x hx => decide_eq_true ?_)
  obtain ⟨j, hj⟩ := List.getElem?_of_mem hx
  exact h j x (by have := (List.getElem?_eq_some_iff.1 hj).1; omega) hj
theorem all_bad {α : Type} {xs : List α} {P : α → Prop} [DecidablePred P] {k : Nat} {x : α} (hx : xs[k]? = some x) (h : ¬ P x) : (xs.all fun x => decide (P x)) = false := by
  refine List.all_eq_false.2 ⟨x, List.mem_of_getElem? hx, ?_⟩
  rw [decide_eq_false h]; simp
theorem grd_site {b : Big} {k : Nat} {z : Int} (hx : b.sites[k]? = some z) (h : z < 0) : grdQ b = false := by unfold grdQ; rw [all_bad (P := fun p : Int => 0 ≤ p) hx (by omega)]; rfl
theorem grd_wire {b : Big} {k : Nat} {x : Wr} (hx : b.inner[k]? = some x) (h : ¬ x.link < b.edges) : grdQ b = false := by unfold grdQ; rw [all_bad (P := fun x : Wr => x.link < b.edges) hx h]; simp
theorem grd_yes {b : Big} (h1 : ∀ (j : Nat) z, j < b.sites.length → b.sites[j]? = some z → 0 ≤ z) (h2 : ∀ (j : Nat) x, j < b.inner.length → b.inner[j]? = some x → x.link < b.edges) : grdQ b = true := by
  unfold grdQ; rw [all_end (P := fun p : Int => 0 ≤ p) rfl h1, all_end (P := fun x : Wr => x.link < b.edges) rfl h2]; rfl

set_option maxRecDepth 20000 in
set_option maxHeartbeats 1600000 in
theorem sGu_leaf (A1 A2 A4 A5 : Option Addr) (n1 n2 n4 n5 c1 c2 c4 c5 : Nat) (cs : List Ctl) (b : Big) (w0 w : World) (h2 : IntsAt w0 w0.heap.size A2 n2 b.sites) (h5 : WrsAt w0 w0.heap.size A5 n5 b.inner) (hb0 : Below w0.heap.size w0 w) (hg : bigB cs b = true) :
    Calls Try.prog 131 #[.agg #[.int .i64 b.roots, .slice A1 n1 c1, .slice A2 n2 c2, .int .i64 b.edges, .slice A4 n4 c4, .slice A5 n5 c5]] w (Post (grdQ b) w) := by
  have hz := sizes_of (big_of hg).2.1
  have l2 := h2.len
  have l5 := h5.1
  have hn2 : n2 ≤ 1048576 := by omega
  have hn5 : n5 ≤ 1048576 := by omega
  have HBox : Hid (BoxAt (w.alloc (.cells #[.int .i64 b.roots, .slice A1 n1 c1, .slice A2 n2 c2, .int .i64 b.edges, .slice A4 n4 c4, .slice A5 n5 c5] 39)) w.heap.size 39 (.int .i64 b.roots) (.slice A1 n1 c1) (.slice A2 n2 c2) (.int .i64 b.edges) (.slice A4 n4 c4) (.slice A5 n5 c5)) := Lib.hid (six_new w _ _ _ _ _ _ _)
  have HB0 := Lib.hid ((Below.refl w.heap.size w).alloc (Nat.le_refl _) (.cells #[.int .i64 b.roots, .slice A1 n1 c1, .slice A2 n2 c2, .int .i64 b.edges, .slice A4 n4 c4, .slice A5 n5 c5] 39))
  obtain ⟨W, hW⟩ : ∃ W, w.alloc (.cells #[.int .i64 b.roots, .slice A1 n1 c1, .slice A2 n2 c2, .int .i64 b.edges, .slice A4 n4 c4, .slice A5 n5 c5] 39) = W := ⟨_, rfl⟩
  have hWz : W.heap.size = w.heap.size + 1 := by rw [← hW]; simp
  rw [hW] at HBox HB0
  have HWq := Lib.hid hW
  have hWs : w.heap.size < W.heap.size := by omega
  have HW0 := Lib.hid (hb0.trans (HB0.out.mono hb0.size))
  have HL2 := Lib.hid l2
  have HL5 := Lib.hid l5
  clear hW hz l2 l5 hg hb0
  go_enter Try.func131, Try.ntmps131
  go_wp2_with fail
  rw [HWq.out]
  go_loopw [3] (fun i wr => ∃ k : Nat, k ≤ n2 ∧ i = .int .i64 k ∧ (∀ (j : Nat) z, j < k → b.sites[j]? = some z → 0 ≤ z) ∧ Below W.heap.size W wr) (fun i _ => n2 - (intOf i).toNat)
  case atStart => exact ⟨0, Nat.zero_le _, rfl, fun j z hj => absurd hj (Nat.not_lt_zero j), Below.refl _ _⟩
  case round =>
    obtain ⟨k, hk, rfl, hall, hbel⟩ := hrel
    have HA := Lib.hid hall
    have HBel := Lib.hid hbel
    have hbw := HW0.out.trans (hbel.mono HW0.out.size)
    obtain ⟨x0, x1, x2, x3, x4, x5⟩ := (HBox.out.below hbel hWs).get
    clear hall hbel
    by_cases hlt : k < n2
    · obtain ⟨b2, off, z, rfl, hbb, hx, c0'⟩ := h2.get hlt
      have d0 := (hbw.cell (p := ⟨b2, off + k, none⟩) hbb).trans c0'
      have HX := Lib.hid hx
      clear hx c0'
      by_cases hneg : z < 0
      · have HN := Lib.hid (grd_site HX.out hneg)
        go_wp2_with fail
        go_ret
        exact ⟨by rw [HN.out]; rfl, HB0.out.trans (HBel.out.mono HB0.out.size)⟩
      · go_wp2_with fail
        go_roundw
        case rel => exact ⟨k + 1, by omega, by go_num, fun j z' hj hz' => by
          by_cases e : j = k
          · subst e; rw [HX.out] at hz'; injection hz' with e; omega
          · exact HA.out j z' (by omega) hz', HBel.out⟩
        case measure => simp [intOf]; omega
    · obtain rfl : k = n2 := by omega
      rename World => wp
      clear hbw
      go_wp2_with fail
      go_loopw [4] (fun i wr => ∃ m : Nat, m ≤ n5 ∧ i = .int .i64 m ∧ (∀ (j : Nat) x, j < m → b.inner[j]? = some x → x.link < b.edges) ∧ Below W.heap.size W wr) (fun i _ => n5 - (intOf i).toNat)
      case atStart => exact ⟨0, Nat.zero_le _, rfl, fun j z hj => absurd hj (Nat.not_lt_zero j), HBel.out⟩
      case round =>
        obtain ⟨m, hm, rfl, hall, hbel⟩ := hrel
        have HA5 := Lib.hid hall
        have HBel5 := Lib.hid hbel
        have hbw := HW0.out.trans (hbel.mono HW0.out.size)
        clear x0 x1 x2 x3 x4 x5
        obtain ⟨x0, x1, x2, x3, x4, x5⟩ := (HBox.out.below hbel hWs).get
        clear hall hbel
        by_cases hlt5 : m < n5
        · obtain ⟨b5, off, x, rfl, hbb, hx, -, cl⟩ := h5.get hlt5
          have d1 := (hbw.cell (p := ⟨b5, off + m * 2 + 1, none⟩) hbb).trans cl
          have HX := Lib.hid hx
          clear hx cl
          by_cases hin : x.link < b.edges
          · go_wp2_with fail
            go_quiet (fail)
            go_wp2_with fail
            go_roundw
            case rel => exact ⟨m + 1, by omega, by go_num, fun j x' hj hx' => by
              by_cases e : j = m
              · subst e; rw [HX.out] at hx'; injection hx' with e; subst e; exact hin
              · exact HA5.out j x' (by omega) hx', below_drewN HBel5.out _⟩
            case measure => simp [intOf]; omega
          · have HN := Lib.hid (grd_wire HX.out hin)
            go_wp2_with fail
            go_quiet (fail)
            go_wp2_with fail
            go_ret
            exact ⟨by rw [HN.out]; rfl, below_drewN (HB0.out.trans (HBel5.out.mono HB0.out.size)) _⟩
        · obtain rfl : m = n5 := by omega
          have HY := Lib.hid (grd_yes (b := b) (by rw [HL2.out]; exact HA.out) (by rw [HL5.out]; exact HA5.out))
          go_wp2_with fail
          go_ret
          exact ⟨by rw [HY.out]; rfl, HB0.out.trans (HBel5.out.mono HB0.out.size)⟩

set_option maxRecDepth 20000 in
set_option maxHeartbeats 1600000 in
theorem sGu_any (A : Option Addr) (n c : Nat) (cs : List Ctl) (v : Value) (b : Big) (w : World) (hC : CtlsAt w w.heap.size A n cs) (hv : BigAt w w.heap.size v b) (hn : n ≤ 1048576) (hs : ∀ c ∈ cs, c.name.size ≤ 1048576) (hS : BigS b) (hw : BigW b) :
    Calls Try.prog 65 #[.slice A n c, v] w (Post (bigB cs b && grdQ b) w) := by
  obtain ⟨A1, n1, c1, A2, n2, c2, A4, n4, c4, A5, n5, c5, rfl, h1, h2, h4, h5⟩ := hv
  have HBox : Hid (BoxAt (w.alloc (.cells #[.int .i64 b.roots, .slice A1 n1 c1, .slice A2 n2 c2, .int .i64 b.edges, .slice A4 n4 c4, .slice A5 n5 c5] 39)) w.heap.size 39 (.int .i64 b.roots) (.slice A1 n1 c1) (.slice A2 n2 c2) (.int .i64 b.edges) (.slice A4 n4 c4) (.slice A5 n5 c5)) := Lib.hid (six_new w _ _ _ _ _ _ _)
  have HB0 := Lib.hid ((Below.refl w.heap.size w).alloc (Nat.le_refl _) (.cells #[.int .i64 b.roots, .slice A1 n1 c1, .slice A2 n2 c2, .int .i64 b.edges, .slice A4 n4 c4, .slice A5 n5 c5] 39))
  obtain ⟨W, hW⟩ : ∃ W, w.alloc (.cells #[.int .i64 b.roots, .slice A1 n1 c1, .slice A2 n2 c2, .int .i64 b.edges, .slice A4 n4 c4, .slice A5 n5 c5] 39) = W := ⟨_, rfl⟩
  have hWz : W.heap.size = w.heap.size + 1 := by rw [← hW]; simp
  rw [hW] at HBox HB0
  have HWq := Lib.hid hW
  have hWs : w.heap.size < W.heap.size := by omega
  have hVW : BigAt W W.heap.size (.agg #[.int .i64 b.roots, .slice A1 n1 c1, .slice A2 n2 c2, .int .i64 b.edges, .slice A4 n4 c4, .slice A5 n5 c5]) b := BigAt.wide (BigAt.below ⟨_, _, _, _, _, _, _, _, _, _, _, _, rfl, h1, h2, h4, h5⟩ HB0.out) HB0.out.size
  clear hW hWz
  have C := l2Good_any A n c cs _ b W ((hC.below HB0.out).wide HB0.out.size) hVW hn hs hS hw
  obtain ⟨x0, x1, x2, x3, x4, x5⟩ := HBox.out.get
  obtain ⟨r, hr⟩ : ∃ r, grdQ b = r := ⟨_, rfl⟩
  have CP := Lib.hid (fun (hg : bigB cs b = true) (w2 : World) (hb2 : Below w.heap.size w w2) => hr ▸ sGu_leaf A1 A2 A4 A5 n1 n2 n4 n5 c1 c2 c4 c5 cs b w w2 h2 h5 hb2 hg)
  rw [hr]
  cases hq : bigB cs b with
  | false =>
    rw [hq] at C
    clear hq hr CP hVW
    go_enter Try.func65, Try.ntmps65
    go_wp2_with fail
    rw [HWq.out]
    go_wp2_with fail
    refine C.mono ?_
    rintro e w1 ⟨rfl, hb⟩
    have hb1 := HB0.out.trans (hb.mono HB0.out.size)
    clear x0 x1 x2 x3 x4 x5 C hb
    go_wp2_with fail
    go_ret
    exact ⟨rfl, hb1⟩
  | true =>
    rw [hq] at C
    have HQ := Lib.hid hq
    clear hq hr hVW
    go_enter Try.func65, Try.ntmps65
    go_wp2_with fail
    rw [HWq.out]
    go_wp2_with fail
    refine C.mono ?_
    rintro e w1 ⟨rfl, hb⟩
    have hb1 := HB0.out.trans (hb.mono HB0.out.size)
    have HBx1 := HBox.out.below hb hWs
    clear x0 x1 x2 x3 x4 x5 C hb
    obtain ⟨x0, x1, x2, x3, x4, x5⟩ := HBx1.get
    clear HBx1
    go_wp2_with fail
    refine (CP.out HQ.out w1 hb1).mono ?_
    rintro e w2 ⟨rfl, hb2⟩
    have hb3 := hb1.trans (hb2.mono hb1.size)
    clear hb2 x0 x1 x2 x3 x4 x5
    cases r with
    | false =>
      go_wp2_with fail
      go_ret
      exact ⟨rfl, hb3⟩
    | true =>
      go_wp2_with fail
      go_ret
      exact ⟨rfl, hb3⟩


/-- what IndexFunc tells: the first place at which a test holds, or -1 -/
def FoundP {α : Type} (P : α → Bool) (xs : List α) (w : World) (e : Ending) (w' : World) : Prop :=
  (∃ k : Nat, e = .returned (.int .i64 k) ∧ (∃ x, xs[k]? = some x ∧ P x = true) ∧ Below w.heap.size w w') ∨ (e = .returned (.int .i64 (-1)) ∧ (∀ (j : Nat) x, j < xs.length → xs[j]? = some x → P x = false) ∧ Below w.heap.size w w')
theorem found_any {α : Type} {P : α → Bool} {xs : List α} {k : Nat} {x : α} (hx : xs[k]? = some x) (h : P x = true) : xs.any P = true := List.any_eq_true.2 ⟨x, List.mem_of_getElem? hx, h⟩
theorem found_none {α : Type} {P : α → Bool} {xs : List α} (h : ∀ (j : Nat) x, j < xs.length → xs[j]? = some x → P x = false) : xs.any P = false := by
  refine List.any_eq_false.2 (fun x hx => ?_)
  obtain ⟨j, hj⟩ := List.getElem?_of_mem hx
  rw [h j x (List.getElem?_eq_some_iff.1 hj).1 hj]; simp

set_option maxHeartbeats 800000 in
theorem gcl1_any (β : Nat) (v1 v2 v3 v4 v5 : Value) (R p : Int) (w : World) (hbx : BoxAt w β 39 (.int .i64 R) v1 v2 v3 v4 v5) (hR : 0 ≤ R ∧ R ≤ 4) :
    Calls Try.prog 133 #[.int .i64 p, .pointer (some ⟨β, 0, none⟩)] w (Post (inb p (-R) (-1)) w) := by
  have hβ : β < w.heap.size := World.rowIs.lt hbx
  obtain ⟨x0, x1, x2, x3, x4, x5⟩ := hbx.get
  obtain ⟨q, hq⟩ : ∃ q, inb p (-R) (-1) = q := ⟨_, rfl⟩
  have HK := Lib.hid (fun W => hq ▸ irt_any v1 v2 v3 v4 v5 R p W hR)
  rw [hq]
  clear hq
  go_enter Try.func133, Try.ntmps133
  go_wp2_with fail
  refine (HK.out _).mono ?_
  rintro e w1 ⟨rfl, hb⟩
  go_wp2_with fail
  go_ret
  exact ⟨rfl, hb⟩
set_option maxHeartbeats 800000 in
theorem gcl2_any (β : Nat) (v0 v1 v2 v4 v5 : Value) (E l : Int) (s : ByteArray) (w : World) (hbx : BoxAt w β 39 v0 v1 v2 (.int .i64 E) v4 v5) :
    Calls Try.prog 136 #[.agg #[.string s, .int .i64 l], .pointer (some ⟨β, 0, none⟩)] w (Post (decide (E ≤ l)) w) := by
  have hβ : β < w.heap.size := World.rowIs.lt hbx
  obtain ⟨x0, x1, x2, x3, x4, x5⟩ := hbx.get
  have HB := Lib.hid ((Below.refl w.heap.size w).alloc (Nat.le_refl _) (.cells #[.string s, .int .i64 l] 87))
  by_cases hq : E ≤ l
  · have hq2 : l ≥ E := hq
    go_enter Try.func136, Try.ntmps136
    go_wp2_with fail
    go_ret
    exact ⟨by rw [decide_eq_true hq]; rfl, HB.out⟩
  · have hq2 : ¬ l ≥ E := hq
    go_enter Try.func136, Try.ntmps136
    go_wp2_with fail
    go_ret
    exact ⟨by rw [decide_eq_false (show ¬ E ≤ l by omega)]; rfl, HB.out⟩

set_option maxHeartbeats 1600000 in
theorem gsiI_any (β : Nat) (v0 v1 v2 v4 v5 : Value) (E : Int) (R : Int) (Ax : Option Addr) (nx cx : Nat) (xs : List Int) (w0 w : World) (hbx : BoxAt w β 39 (.int .i64 R) v1 v2 (.int .i64 E) v4 v5) (hR : 0 ≤ R ∧ R ≤ 4)
    (hx : IntsAt w0 w0.heap.size Ax nx xs) (hb0 : Below w0.heap.size w0 w) (hn : nx ≤ 1048576) :
    Calls Try.prog 188 #[.slice Ax nx cx, .func (.func 133) #[] #[.pointer (some ⟨β, 0, none⟩)]] w (FoundP (fun p : Int => inb p (-R) (-1)) xs w) := by
  have HL := Lib.hid (show xs.length = nx from hx.len)
  have HBx := Lib.hid hbx
  have hβ : β < w.heap.size := World.rowIs.lt hbx
  clear hbx
  go_enter Try.func188, Try.ntmps188
  go_wp2_with fail
  go_loopw [5, 8] (fun _ i wr => ∃ k : Nat, k ≤ nx ∧ i = .int .i64 k ∧ (∀ (j : Nat) x, j < k → xs[j]? = some x → (fun p : Int => inb p (-R) (-1)) x = false) ∧ Below w.heap.size w wr) (fun _ i _ => nx - (intOf i).toNat)
  case atStart => exact ⟨0, Nat.zero_le _, rfl, fun j x hj => absurd hj (Nat.not_lt_zero j), Below.refl _ _⟩
  case round =>
    obtain ⟨k, hk, rfl, hok, hbel⟩ := hrel
    have HOk := Lib.hid hok
    have HBel := Lib.hid hbel
    have hbw := hb0.trans (hbel.mono hb0.size)
    clear hok hbel
    by_cases hlt : k < nx
    · obtain ⟨bi, offi, x, rfl, hbi, hx, c0⟩ := hx.get hlt
      have g0 := (hbw.cell (p := ⟨bi, offi + k, none⟩) hbi).trans c0
      clear c0
      have CK := gcl1_any β v1 v2 (.int .i64 E) v4 v5 R x wr (HBx.out.below HBel.out hβ) hR
      have HX := Lib.hid hx
      obtain ⟨q, hq⟩ : ∃ q, (fun p : Int => inb p (-R) (-1)) x = q := ⟨_, rfl⟩
      have HQ := Lib.hid hq
      rw [show inb x (-R) (-1) = q from hq] at CK
      clear hx hq
      cases q with
      | true =>
        go_wp2_with fail
        refine CK.mono ?_
        rintro e w3 ⟨rfl, hb3⟩
        have HB3 := Lib.hid (HBel.out.trans (hb3.mono HBel.out.size))
        clear CK hb3
        go_wp2_with fail
        go_ret
        exact .inl ⟨k, rfl, ⟨x, HX.out, HQ.out⟩, HB3.out⟩
      | false =>
        go_wp2_with fail
        refine CK.mono ?_
        rintro e w3 ⟨rfl, hb3⟩
        have HB3 := Lib.hid (HBel.out.trans (hb3.mono HBel.out.size))
        clear CK hb3
        go_wp2_with fail
        go_roundw
        case rel => exact ⟨k + 1, by omega, by go_num, fun j' x' hj' hx' => by
          by_cases e : j' = k
          · subst e; rw [HX.out] at hx'; injection hx' with e; subst e; exact HQ.out
          · exact HOk.out j' x' (by omega) hx', HB3.out⟩
        case measure => simp [intOf]; omega
    · obtain rfl : k = nx := by omega
      go_wp2_with fail
      go_ret
      exact .inr ⟨rfl, by rw [HL.out]; exact HOk.out, HBel.out⟩
set_option maxHeartbeats 800000 in
theorem gsi_any (β : Nat) (v0 v1 v2 v4 v5 : Value) (E : Int) (R : Int) (Ax : Option Addr) (nx cx : Nat) (xs : List Int) (w0 w : World) (hbx : BoxAt w β 39 (.int .i64 R) v1 v2 (.int .i64 E) v4 v5) (hR : 0 ≤ R ∧ R ≤ 4)
    (hx : IntsAt w0 w0.heap.size Ax nx xs) (hb0 : Below w0.heap.size w0 w) (hn : nx ≤ 1048576) :
    Calls Try.prog 132 #[.slice Ax nx cx, .func (.func 133) #[] #[.pointer (some ⟨β, 0, none⟩)]] w (Post (xs.any (fun p : Int => inb p (-R) (-1))) w) := by
  have C := Lib.hid (gsiI_any β v0 v1 v2 v4 v5 E R Ax nx cx xs w0 w hbx hR hx hb0 hn)
  obtain ⟨q, hq⟩ : ∃ q, xs.any (fun p : Int => inb p (-R) (-1)) = q := ⟨_, rfl⟩
  rw [hq]
  have HQ := Lib.hid hq
  clear hq hbx
  go_enter Try.func132, Try.ntmps132
  go_wp2_with fail
  refine C.out.mono ?_
  rintro e w1 (⟨k, rfl, ⟨x, hx2, hl⟩, hb⟩ | ⟨rfl, hok, hb⟩)
  · have HY := Lib.hid (HQ.out.symm.trans (found_any hx2 hl))
    clear hx2 hl
    go_wp2_with fail
    go_ret
    exact ⟨by rw [HY.out]; rfl, hb⟩
  · have HN := Lib.hid (HQ.out.symm.trans (found_none hok))
    clear hok
    go_wp2_with fail
    go_ret
    exact ⟨by rw [HN.out]; rfl, hb⟩

set_option maxHeartbeats 1600000 in
theorem gwiI_any (β : Nat) (v0 v1 v2 v4 v5 : Value) (E : Int) (R : Int) (Ax : Option Addr) (nx cx : Nat) (xs : List Wr) (w0 w : World) (hbx : BoxAt w β 39 v0 v1 v2 (.int .i64 E) v4 v5) 
    (hx : WrsAt w0 w0.heap.size Ax nx xs) (hb0 : Below w0.heap.size w0 w) (hn : nx ≤ 1048576) :
    Calls Try.prog 189 #[.slice Ax nx cx, .func (.func 136) #[] #[.pointer (some ⟨β, 0, none⟩)]] w (FoundP (fun x : Wr => decide (E ≤ x.link)) xs w) := by
  have HL := Lib.hid (show xs.length = nx from hx.1)
  have HBx := Lib.hid hbx
  have hβ : β < w.heap.size := World.rowIs.lt hbx
  clear hbx
  go_enter Try.func189, Try.ntmps189
  go_wp2_with fail
  go_loopw [5, 8] (fun _ i wr => ∃ k : Nat, k ≤ nx ∧ i = .int .i64 k ∧ (∀ (j : Nat) x, j < k → xs[j]? = some x → (fun x : Wr => decide (E ≤ x.link)) x = false) ∧ Below w.heap.size w wr) (fun _ i _ => nx - (intOf i).toNat)
  case atStart => exact ⟨0, Nat.zero_le _, rfl, fun j x hj => absurd hj (Nat.not_lt_zero j), Below.refl _ _⟩
  case round =>
    obtain ⟨k, hk, rfl, hok, hbel⟩ := hrel
    have HOk := Lib.hid hok
    have HBel := Lib.hid hbel
    have hbw := hb0.trans (hbel.mono hb0.size)
    clear hok hbel
    by_cases hlt : k < nx
    · obtain ⟨bi, offi, x, rfl, hbi, hx, cn, cl⟩ := hx.get hlt
      have g0 := (hbw.cell (p := ⟨bi, offi + k * 2, none⟩) hbi).trans cn
      have g1 := (hbw.cell (p := ⟨bi, offi + k * 2 + 1, none⟩) hbi).trans cl
      clear cn cl
      have CK := gcl2_any β v0 v1 v2 v4 v5 E x.link x.name wr (HBx.out.below HBel.out hβ)
      have HX := Lib.hid hx
      obtain ⟨q, hq⟩ : ∃ q, (fun x : Wr => decide (E ≤ x.link)) x = q := ⟨_, rfl⟩
      have HQ := Lib.hid hq
      rw [show decide (E ≤ x.link) = q from hq] at CK
      clear hx hq
      cases q with
      | true =>
        go_wp2_with fail
        refine CK.mono ?_
        rintro e w3 ⟨rfl, hb3⟩
        have HB3 := Lib.hid (HBel.out.trans (hb3.mono HBel.out.size))
        clear CK hb3
        go_wp2_with fail
        go_ret
        exact .inl ⟨k, rfl, ⟨x, HX.out, HQ.out⟩, HB3.out⟩
      | false =>
        go_wp2_with fail
        refine CK.mono ?_
        rintro e w3 ⟨rfl, hb3⟩
        have HB3 := Lib.hid (HBel.out.trans (hb3.mono HBel.out.size))
        clear CK hb3
        go_wp2_with fail
        go_roundw
        case rel => exact ⟨k + 1, by omega, by go_num, fun j' x' hj' hx' => by
          by_cases e : j' = k
          · subst e; rw [HX.out] at hx'; injection hx' with e; subst e; exact HQ.out
          · exact HOk.out j' x' (by omega) hx', HB3.out⟩
        case measure => simp [intOf]; omega
    · obtain rfl : k = nx := by omega
      go_wp2_with fail
      go_ret
      exact .inr ⟨rfl, by rw [HL.out]; exact HOk.out, HBel.out⟩
set_option maxHeartbeats 800000 in
theorem gwi_any (β : Nat) (v0 v1 v2 v4 v5 : Value) (E : Int) (R : Int) (Ax : Option Addr) (nx cx : Nat) (xs : List Wr) (w0 w : World) (hbx : BoxAt w β 39 v0 v1 v2 (.int .i64 E) v4 v5) 
    (hx : WrsAt w0 w0.heap.size Ax nx xs) (hb0 : Below w0.heap.size w0 w) (hn : nx ≤ 1048576) :
    Calls Try.prog 135 #[.slice Ax nx cx, .func (.func 136) #[] #[.pointer (some ⟨β, 0, none⟩)]] w (Post (xs.any (fun x : Wr => decide (E ≤ x.link))) w) := by
  have C := Lib.hid (gwiI_any β v0 v1 v2 v4 v5 E R Ax nx cx xs w0 w hbx  hx hb0 hn)
  obtain ⟨q, hq⟩ : ∃ q, xs.any (fun x : Wr => decide (E ≤ x.link)) = q := ⟨_, rfl⟩
  rw [hq]
  have HQ := Lib.hid hq
  clear hq hbx
  go_enter Try.func135, Try.ntmps135
  go_wp2_with fail
  refine C.out.mono ?_
  rintro e w1 (⟨k, rfl, ⟨x, hx2, hl⟩, hb⟩ | ⟨rfl, hok, hb⟩)
  · have HY := Lib.hid (HQ.out.symm.trans (found_any hx2 hl))
    clear hx2 hl
    go_wp2_with fail
    go_ret
    exact ⟨by rw [HY.out]; rfl, hb⟩
  · have HN := Lib.hid (HQ.out.symm.trans (found_none hok))
    clear hok
    go_wp2_with fail
    go_ret
    exact ⟨by rw [HN.out]; rfl, hb⟩

theorem grd_eq {cs : List Ctl} {b : Big} (hg : bigB cs b = true) : grdQ b = (!(b.sites.any fun p => inb p (-b.roots) (-1)) && !(b.inner.any fun x => decide (b.edges ≤ x.link))) := by
  cases h1 : b.sites.any fun p => inb p (-b.roots) (-1) with
  | true =>
    obtain ⟨p, hp, hq⟩ := List.any_eq_true.1 h1
    obtain ⟨i, hi⟩ := List.getElem?_of_mem hp
    have := inb_true hq
    rw [grd_site hi (by omega)]; rfl
  | false =>
    cases h2 : b.inner.any fun x => decide (b.edges ≤ x.link) with
    | true =>
      obtain ⟨x, hx, hq⟩ := List.any_eq_true.1 h2
      obtain ⟨i, hi⟩ := List.getElem?_of_mem hx
      have := of_decide_eq_true hq
      rw [grd_wire hi (by omega)]; rfl
    | false =>
      refine grd_yes (fun j z _ hz => ?_) (fun j x _ hx => ?_)
      · have h3 := List.any_eq_false.1 h1 z (List.mem_of_getElem? hz)
        have h4 := (good_sites hg).2.2.1 j z hz
        by_cases e : 0 ≤ z
        · exact e
        · exact absurd (inb_mk (x := z) (lo := -b.roots) (hi := -1) (by omega)) h3
      · have h3 := List.any_eq_false.1 h2 x (List.mem_of_getElem? hx)
        by_cases e : x.link < b.edges
        · exact e
        · exact absurd (decide_eq_true (show b.edges ≤ x.link by omega)) h3
set_option maxRecDepth 20000 in
set_option maxHeartbeats 1600000 in
theorem iGu_any (A : Option Addr) (n c : Nat) (cs : List Ctl) (v : Value) (b : Big) (w : World) (hC : CtlsAt w w.heap.size A n cs) (hv : BigAt w w.heap.size v b) (hn : n ≤ 1048576) (hs : ∀ c ∈ cs, c.name.size ≤ 1048576) (hS : BigS b) (hw : BigW b) :
    Calls Try.prog 66 #[.slice A n c, v] w (Post (bigB cs b && grdQ b) w) := by
  obtain ⟨A1, n1, c1, A2, n2, c2, A4, n4, c4, A5, n5, c5, rfl, h1, h2, h4, h5⟩ := hv
  have HBox : Hid (BoxAt (w.alloc (.cells #[.int .i64 b.roots, .slice A1 n1 c1, .slice A2 n2 c2, .int .i64 b.edges, .slice A4 n4 c4, .slice A5 n5 c5] 39)) w.heap.size 39 (.int .i64 b.roots) (.slice A1 n1 c1) (.slice A2 n2 c2) (.int .i64 b.edges) (.slice A4 n4 c4) (.slice A5 n5 c5)) := Lib.hid (six_new w _ _ _ _ _ _ _)
  have HB0 := Lib.hid ((Below.refl w.heap.size w).alloc (Nat.le_refl _) (.cells #[.int .i64 b.roots, .slice A1 n1 c1, .slice A2 n2 c2, .int .i64 b.edges, .slice A4 n4 c4, .slice A5 n5 c5] 39))
  obtain ⟨W, hW⟩ : ∃ W, w.alloc (.cells #[.int .i64 b.roots, .slice A1 n1 c1, .slice A2 n2 c2, .int .i64 b.edges, .slice A4 n4 c4, .slice A5 n5 c5] 39) = W := ⟨_, rfl⟩
  have hWz : W.heap.size = w.heap.size + 1 := by rw [← hW]; simp
  rw [hW] at HBox HB0
  have HWq := Lib.hid hW
  have hWs : w.heap.size < W.heap.size := by omega
  have hVW : BigAt W W.heap.size (.agg #[.int .i64 b.roots, .slice A1 n1 c1, .slice A2 n2 c2, .int .i64 b.edges, .slice A4 n4 c4, .slice A5 n5 c5]) b := BigAt.wide (BigAt.below ⟨_, _, _, _, _, _, _, _, _, _, _, _, rfl, h1, h2, h4, h5⟩ HB0.out) HB0.out.size
  clear hW hWz
  have C := isBig_any A n c cs _ b W ((hC.below HB0.out).wide HB0.out.size) hVW hn hs hS hw
  obtain ⟨x0, x1, x2, x3, x4, x5⟩ := HBox.out.get
  have m2 : n2 ≤ 1048576 := by have := hS.2.2.1; rw [h2.len] at this; exact this
  have m5 : n5 ≤ 1048576 := by have := hS.2.2.2.2.2.1; rw [h5.1] at this; exact this
  cases hq : bigB cs b with
  | false =>
    rw [hq] at C
    clear hq hVW
    go_enter Try.func66, Try.ntmps66
    go_wp2_with fail
    rw [HWq.out]
    go_wp2_with fail
    refine C.mono ?_
    rintro e w1 ⟨rfl, hb⟩
    have hb1 := HB0.out.trans (hb.mono HB0.out.size)
    clear x0 x1 x2 x3 x4 x5 C hb
    go_wp2_with fail
    go_ret
    exact ⟨rfl, hb1⟩
  | true =>
    rw [hq] at C
    have HE := Lib.hid (grd_eq hq)
    have hz := (sizes_of (big_of hq).2.1).1
    have HCs := Lib.hid (fun (w2 : World) (hbx : BoxAt w2 w.heap.size 39 (.int .i64 b.roots) (.slice A1 n1 c1) (.slice A2 n2 c2) (.int .i64 b.edges) (.slice A4 n4 c4) (.slice A5 n5 c5)) (hb2 : Below w.heap.size w w2) => gsi_any w.heap.size (.int .i64 b.roots) (.slice A1 n1 c1) (.slice A2 n2 c2) (.slice A4 n4 c4) (.slice A5 n5 c5) b.edges b.roots A2 n2 c2 b.sites w w2 hbx hz h2 hb2 m2)
    have HCw := Lib.hid (fun (w2 : World) (hbx : BoxAt w2 w.heap.size 39 (.int .i64 b.roots) (.slice A1 n1 c1) (.slice A2 n2 c2) (.int .i64 b.edges) (.slice A4 n4 c4) (.slice A5 n5 c5)) (hb2 : Below w.heap.size w w2) => gwi_any w.heap.size (.int .i64 b.roots) (.slice A1 n1 c1) (.slice A2 n2 c2) (.slice A4 n4 c4) (.slice A5 n5 c5) b.edges b.roots A5 n5 c5 b.inner w w2 hbx h5 hb2 m5)
    obtain ⟨p, hp⟩ : ∃ p, (b.sites.any fun p => inb p (-b.roots) (-1)) = p := ⟨_, rfl⟩
    obtain ⟨r, hr⟩ : ∃ r, (b.inner.any fun x => decide (b.edges ≤ x.link)) = r := ⟨_, rfl⟩
    rw [hp] at HCs HE
    rw [hr] at HCw HE
    rw [HE.out, Bool.true_and]
    clear hq hVW hp hr
    go_enter Try.func66, Try.ntmps66
    go_wp2_with fail
    rw [HWq.out]
    go_wp2_with fail
    refine C.mono ?_
    rintro e w1 ⟨rfl, hb⟩
    have hb1 := HB0.out.trans (hb.mono HB0.out.size)
    have HBx1 := Lib.hid (HBox.out.below hb hWs)
    clear x0 x1 x2 x3 x4 x5 C hb
    obtain ⟨x0, x1, x2, x3, x4, x5⟩ := HBx1.out.get
    go_wp2_with fail
    refine (HCs.out w1 HBx1.out hb1).mono ?_
    rintro e w2 ⟨rfl, hb⟩
    have hb2 := hb1.trans (hb.mono hb1.size)
    have HBx2 := Lib.hid (HBx1.out.on hb)
    clear x0 x1 x2 x3 x4 x5 hb hb1
    obtain ⟨x0, x1, x2, x3, x4, x5⟩ := HBx2.out.get
    cases p with
    | true =>
      go_wp2_with fail
      go_ret
      exact ⟨rfl, hb2⟩
    | false =>
      go_wp2_with fail
      refine (HCw.out w2 HBx2.out hb2).mono ?_
      rintro e w3 ⟨rfl, hb⟩
      have hb3 := hb2.trans (hb.mono hb2.size)
      clear x0 x1 x2 x3 x4 x5 hb
      cases r with
      | true =>
        go_wp2_with fail
        go_ret
        exact ⟨rfl, hb3⟩
      | false =>
        go_wp2_with fail
        go_ret
        exact ⟨rfl, hb3⟩
end Go.Proofs.Ytifialdkjnmfoaa.gu
