/- Kinds of Bigraphs: IsPlacing, IsWiring, IsSubstitution, IsPrime of spec and impl. -/
import Derived.Test.YtifialdkjnmfoaaLawB
namespace Go.Proofs.Ytifialdkjnmfoaa.kd
open kit bg sg sig isig only un hb opn over gn nm inn ht gd im pt cf lf ib isa
open Go.RowKit
set_option linter.unusedVariables false

/-- what a test of a valid Bigraph asks of its sizes -/
def placQ (R : Int) (n1 n2 : Nat) (E : Int) (n4 n5 : Nat) : Bool := decide (n1 = 0) && decide (E = 0) && decide (n4 = 0) && decide (n5 = 0)
def wirQ (R : Int) (n1 n2 : Nat) (E : Int) (n4 n5 : Nat) : Bool := decide (R = 0)
def subQ (R : Int) (n1 n2 : Nat) (E : Int) (n4 n5 : Nat) : Bool := decide (R = 0) && decide (E = 0)
def primeQ (R : Int) (n1 n2 : Nat) (E : Int) (n4 n5 : Nat) : Bool := decide (R = 1) && decide (n5 = 0)
def ofB (Q : Int → Nat → Nat → Int → Nat → Nat → Bool) (b : Big) : Bool := Q b.roots b.nodes.length b.sites.length b.edges b.outer.length b.inner.length
theorem ofB_at {Q : Int → Nat → Nat → Int → Nat → Nat → Bool} {b : Big} {n1 n2 n4 n5 : Nat} (h1 : b.nodes.length = n1) (h2 : b.sites.length = n2) (h4 : b.outer.length = n4) (h5 : b.inner.length = n5) : ofB Q b = Q b.roots n1 n2 b.edges n4 n5 := by
  unfold ofB
  rw [h1, h2, h4, h5]

set_option maxHeartbeats 800000 in
theorem sPlac_leaf (A1 A2 A4 A5 : Option Addr) (n1 n2 n4 n5 c1 c2 c4 c5 : Nat) (R E : Int) (w : World) (m1 : n1 ≤ 1048576) (m2 : n2 ≤ 1048576) (m4 : n4 ≤ 1048576) (m5 : n5 ≤ 1048576) :
    Calls Try.prog 177 #[.agg #[.int .i64 R, .slice A1 n1 c1, .slice A2 n2 c2, .int .i64 E, .slice A4 n4 c4, .slice A5 n5 c5]] w (Post (placQ R n1 n2 E n4 n5) w) := by
  have HB := Lib.hid ((Below.refl w.heap.size w).alloc (Nat.le_refl _) (.cells #[.int .i64 R, .slice A1 n1 c1, .slice A2 n2 c2, .int .i64 E, .slice A4 n4 c4, .slice A5 n5 c5] 39))
  by_cases q0 : n1 = 0
  · by_cases q1 : E = 0
    · by_cases q2 : n4 = 0
      · by_cases q3 : n5 = 0
        · go_enter Try.func177, Try.ntmps177
          go_wp2_with fail
          go_ret
          exact ⟨by simp [placQ, q0, q1, q2, q3], (Below.refl _ _).alloc (Nat.le_refl _) _⟩
        · go_enter Try.func177, Try.ntmps177
          go_wp2_with fail
          go_ret
          exact ⟨by simp [placQ, q0, q1, q2, q3], (Below.refl _ _).alloc (Nat.le_refl _) _⟩
      · go_enter Try.func177, Try.ntmps177
        go_wp2_with fail
        go_ret
        exact ⟨by simp [placQ, q0, q1, q2], (Below.refl _ _).alloc (Nat.le_refl _) _⟩
    · go_enter Try.func177, Try.ntmps177
      go_wp2_with fail
      go_ret
      exact ⟨by simp [placQ, q0, q1], (Below.refl _ _).alloc (Nat.le_refl _) _⟩
  · go_enter Try.func177, Try.ntmps177
    go_wp2_with fail
    go_ret
    exact ⟨by simp [placQ, q0], (Below.refl _ _).alloc (Nat.le_refl _) _⟩

set_option maxHeartbeats 800000 in
theorem iPlac_leaf (A1 A2 A4 A5 : Option Addr) (n1 n2 n4 n5 c1 c2 c4 c5 : Nat) (R E : Int) (w : World) (m1 : n1 ≤ 1048576) (m2 : n2 ≤ 1048576) (m4 : n4 ≤ 1048576) (m5 : n5 ≤ 1048576) :
    Calls Try.prog 178 #[.agg #[.int .i64 R, .slice A1 n1 c1, .slice A2 n2 c2, .int .i64 E, .slice A4 n4 c4, .slice A5 n5 c5]] w (Post (placQ R n1 n2 E n4 n5) w) := by
  have HB := Lib.hid ((Below.refl w.heap.size w).alloc (Nat.le_refl _) (.cells #[.int .i64 R, .slice A1 n1 c1, .slice A2 n2 c2, .int .i64 E, .slice A4 n4 c4, .slice A5 n5 c5] 39))
  by_cases q0 : n1 = 0
  · by_cases q1 : E = 0
    · by_cases q2 : n4 = 0
      · by_cases q3 : n5 = 0
        · go_enter Try.func178, Try.ntmps178
          go_wp2_with fail
          go_ret
          exact ⟨by simp [placQ, q0, q1, q2, q3], (Below.refl _ _).alloc (Nat.le_refl _) _⟩
        · go_enter Try.func178, Try.ntmps178
          go_wp2_with fail
          go_ret
          exact ⟨by simp [placQ, q0, q1, q2, q3], (Below.refl _ _).alloc (Nat.le_refl _) _⟩
      · go_enter Try.func178, Try.ntmps178
        go_wp2_with fail
        go_ret
        exact ⟨by simp [placQ, q0, q1, q2], (Below.refl _ _).alloc (Nat.le_refl _) _⟩
    · go_enter Try.func178, Try.ntmps178
      go_wp2_with fail
      go_ret
      exact ⟨by simp [placQ, q0, q1], (Below.refl _ _).alloc (Nat.le_refl _) _⟩
  · go_enter Try.func178, Try.ntmps178
    go_wp2_with fail
    go_ret
    exact ⟨by simp [placQ, q0], (Below.refl _ _).alloc (Nat.le_refl _) _⟩

set_option maxHeartbeats 800000 in
theorem sWir_leaf (A1 A2 A4 A5 : Option Addr) (n1 n2 n4 n5 c1 c2 c4 c5 : Nat) (R E : Int) (w : World) (m1 : n1 ≤ 1048576) (m2 : n2 ≤ 1048576) (m4 : n4 ≤ 1048576) (m5 : n5 ≤ 1048576) :
    Calls Try.prog 137 #[.agg #[.int .i64 R, .slice A1 n1 c1, .slice A2 n2 c2, .int .i64 E, .slice A4 n4 c4, .slice A5 n5 c5]] w (Post (wirQ R n1 n2 E n4 n5) w) := by
  have HB := Lib.hid ((Below.refl w.heap.size w).alloc (Nat.le_refl _) (.cells #[.int .i64 R, .slice A1 n1 c1, .slice A2 n2 c2, .int .i64 E, .slice A4 n4 c4, .slice A5 n5 c5] 39))
  by_cases q0 : R = 0
  · go_enter Try.func137, Try.ntmps137
    go_wp2_with fail
    go_ret
    exact ⟨by simp [wirQ, q0], (Below.refl _ _).alloc (Nat.le_refl _) _⟩
  · go_enter Try.func137, Try.ntmps137
    go_wp2_with fail
    go_ret
    exact ⟨by simp [wirQ, q0], (Below.refl _ _).alloc (Nat.le_refl _) _⟩

set_option maxHeartbeats 800000 in
theorem iWir_leaf (A1 A2 A4 A5 : Option Addr) (n1 n2 n4 n5 c1 c2 c4 c5 : Nat) (R E : Int) (w : World) (m1 : n1 ≤ 1048576) (m2 : n2 ≤ 1048576) (m4 : n4 ≤ 1048576) (m5 : n5 ≤ 1048576) :
    Calls Try.prog 190 #[.agg #[.int .i64 R, .slice A1 n1 c1, .slice A2 n2 c2, .int .i64 E, .slice A4 n4 c4, .slice A5 n5 c5]] w (Post (wirQ R n1 n2 E n4 n5) w) := by
  have HB := Lib.hid ((Below.refl w.heap.size w).alloc (Nat.le_refl _) (.cells #[.int .i64 R, .slice A1 n1 c1, .slice A2 n2 c2, .int .i64 E, .slice A4 n4 c4, .slice A5 n5 c5] 39))
  by_cases q0 : R = 0
  · go_enter Try.func190, Try.ntmps190
    go_wp2_with fail
    go_ret
    exact ⟨by simp [wirQ, q0], (Below.refl _ _).alloc (Nat.le_refl _) _⟩
  · go_enter Try.func190, Try.ntmps190
    go_wp2_with fail
    go_ret
    exact ⟨by simp [wirQ, q0], (Below.refl _ _).alloc (Nat.le_refl _) _⟩

set_option maxHeartbeats 800000 in
theorem sSub_leaf (A1 A2 A4 A5 : Option Addr) (n1 n2 n4 n5 c1 c2 c4 c5 : Nat) (R E : Int) (w : World) (m1 : n1 ≤ 1048576) (m2 : n2 ≤ 1048576) (m4 : n4 ≤ 1048576) (m5 : n5 ≤ 1048576) :
    Calls Try.prog 181 #[.agg #[.int .i64 R, .slice A1 n1 c1, .slice A2 n2 c2, .int .i64 E, .slice A4 n4 c4, .slice A5 n5 c5]] w (Post (subQ R n1 n2 E n4 n5) w) := by
  have HB := Lib.hid ((Below.refl w.heap.size w).alloc (Nat.le_refl _) (.cells #[.int .i64 R, .slice A1 n1 c1, .slice A2 n2 c2, .int .i64 E, .slice A4 n4 c4, .slice A5 n5 c5] 39))
  have HBox : Hid (BoxAt (w.alloc (.cells #[.int .i64 R, .slice A1 n1 c1, .slice A2 n2 c2, .int .i64 E, .slice A4 n4 c4, .slice A5 n5 c5] 39)) w.heap.size 39 (.int .i64 R) (.slice A1 n1 c1) (.slice A2 n2 c2) (.int .i64 E) (.slice A4 n4 c4) (.slice A5 n5 c5)) := Lib.hid (six_new w _ _ _ _ _ _ _)
  obtain ⟨W, hW⟩ : ∃ W, w.alloc (.cells #[.int .i64 R, .slice A1 n1 c1, .slice A2 n2 c2, .int .i64 E, .slice A4 n4 c4, .slice A5 n5 c5] 39) = W := ⟨_, rfl⟩
  have hWs : w.heap.size < W.heap.size := by rw [← hW]; simp
  rw [hW] at HB HBox
  have HWq := Lib.hid hW
  have C := sWir_leaf A1 A2 A4 A5 n1 n2 n4 n5 c1 c2 c4 c5 R E W m1 m2 m4 m5
  obtain ⟨r, hr⟩ : ∃ r, wirQ R n1 n2 E n4 n5 = r := ⟨_, rfl⟩
  rw [show subQ R n1 n2 E n4 n5 = (r && decide (E = 0)) by rw [← hr]; rfl]
  rw [hr] at C
  obtain ⟨x0, x1, x2, x3, x4, x5⟩ := HBox.out.get
  clear hW hr
  go_enter Try.func181, Try.ntmps181
  go_wp2_with fail
  rw [HWq.out]
  go_wp2_with fail
  refine C.mono ?_
  rintro e w1 ⟨rfl, hb⟩
  have hb1 := HB.out.trans (hb.mono HB.out.size)
  have HBx1 := HBox.out.below hb hWs
  clear x0 x1 x2 x3 x4 x5 C
  obtain ⟨x0, x1, x2, x3, x4, x5⟩ := HBx1.get
  clear hb HBx1
  cases r with
  | false =>
    go_wp2_with fail
    go_ret
    exact ⟨rfl, hb1⟩
  | true =>
    by_cases q1 : E = 0
    · go_wp2_with fail
      go_ret
      exact ⟨by simp [q1], hb1⟩
    · go_wp2_with fail
      go_ret
      exact ⟨by simp [q1], hb1⟩

set_option maxHeartbeats 800000 in
theorem iSub_leaf (A1 A2 A4 A5 : Option Addr) (n1 n2 n4 n5 c1 c2 c4 c5 : Nat) (R E : Int) (w : World) (m1 : n1 ≤ 1048576) (m2 : n2 ≤ 1048576) (m4 : n4 ≤ 1048576) (m5 : n5 ≤ 1048576) :
    Calls Try.prog 182 #[.agg #[.int .i64 R, .slice A1 n1 c1, .slice A2 n2 c2, .int .i64 E, .slice A4 n4 c4, .slice A5 n5 c5]] w (Post (subQ R n1 n2 E n4 n5) w) := by
  have HB := Lib.hid ((Below.refl w.heap.size w).alloc (Nat.le_refl _) (.cells #[.int .i64 R, .slice A1 n1 c1, .slice A2 n2 c2, .int .i64 E, .slice A4 n4 c4, .slice A5 n5 c5] 39))
  have HBox : Hid (BoxAt (w.alloc (.cells #[.int .i64 R, .slice A1 n1 c1, .slice A2 n2 c2, .int .i64 E, .slice A4 n4 c4, .slice A5 n5 c5] 39)) w.heap.size 39 (.int .i64 R) (.slice A1 n1 c1) (.slice A2 n2 c2) (.int .i64 E) (.slice A4 n4 c4) (.slice A5 n5 c5)) := Lib.hid (six_new w _ _ _ _ _ _ _)
  obtain ⟨W, hW⟩ : ∃ W, w.alloc (.cells #[.int .i64 R, .slice A1 n1 c1, .slice A2 n2 c2, .int .i64 E, .slice A4 n4 c4, .slice A5 n5 c5] 39) = W := ⟨_, rfl⟩
  have hWs : w.heap.size < W.heap.size := by rw [← hW]; simp
  rw [hW] at HB HBox
  have HWq := Lib.hid hW
  have C := iWir_leaf A1 A2 A4 A5 n1 n2 n4 n5 c1 c2 c4 c5 R E W m1 m2 m4 m5
  obtain ⟨r, hr⟩ : ∃ r, wirQ R n1 n2 E n4 n5 = r := ⟨_, rfl⟩
  rw [show subQ R n1 n2 E n4 n5 = (r && decide (E = 0)) by rw [← hr]; rfl]
  rw [hr] at C
  obtain ⟨x0, x1, x2, x3, x4, x5⟩ := HBox.out.get
  clear hW hr
  go_enter Try.func182, Try.ntmps182
  go_wp2_with fail
  rw [HWq.out]
  go_wp2_with fail
  refine C.mono ?_
  rintro e w1 ⟨rfl, hb⟩
  have hb1 := HB.out.trans (hb.mono HB.out.size)
  have HBx1 := HBox.out.below hb hWs
  clear x0 x1 x2 x3 x4 x5 C
  obtain ⟨x0, x1, x2, x3, x4, x5⟩ := HBx1.get
  clear hb HBx1
  cases r with
  | false =>
    go_wp2_with fail
    go_ret
    exact ⟨rfl, hb1⟩
  | true =>
    by_cases q1 : E = 0
    · go_wp2_with fail
      go_ret
      exact ⟨by simp [q1], hb1⟩
    · go_wp2_with fail
      go_ret
      exact ⟨by simp [q1], hb1⟩

set_option maxHeartbeats 1600000 in
theorem iWir_any (A : Option Addr) (n c : Nat) (cs : List Ctl) (v : Value) (b : Big) (w : World) (hC : CtlsAt w w.heap.size A n cs) (hv : BigAt w w.heap.size v b) (hn : n ≤ 1048576) (hs : ∀ c ∈ cs, c.name.size ≤ 1048576) (hS : BigS b) (hw : BigW b) :
    Calls Try.prog 141 #[.slice A n c, v] w (Post (bigB cs b && ofB wirQ b) w) := by
  obtain ⟨A1, n1, c1, A2, n2, c2, A4, n4, c4, A5, n5, c5, rfl, h1, h2, h4, h5⟩ := hv
  have HBox : Hid (BoxAt (w.alloc (.cells #[.int .i64 b.roots, .slice A1 n1 c1, .slice A2 n2 c2, .int .i64 b.edges, .slice A4 n4 c4, .slice A5 n5 c5] 39)) w.heap.size 39 (.int .i64 b.roots) (.slice A1 n1 c1) (.slice A2 n2 c2) (.int .i64 b.edges) (.slice A4 n4 c4) (.slice A5 n5 c5)) := Lib.hid (six_new w _ _ _ _ _ _ _)
  have HB0 := Lib.hid ((Below.refl w.heap.size w).alloc (Nat.le_refl _) (.cells #[.int .i64 b.roots, .slice A1 n1 c1, .slice A2 n2 c2, .int .i64 b.edges, .slice A4 n4 c4, .slice A5 n5 c5] 39))
  obtain ⟨W, hW⟩ : ∃ W, w.alloc (.cells #[.int .i64 b.roots, .slice A1 n1 c1, .slice A2 n2 c2, .int .i64 b.edges, .slice A4 n4 c4, .slice A5 n5 c5] 39) = W := ⟨_, rfl⟩
  have hWz : W.heap.size = w.heap.size + 1 := by rw [← hW]; simp
  rw [hW] at HBox HB0
  have HWq := Lib.hid hW
  have hWs : w.heap.size < W.heap.size := by omega
  have hVW : BigAt W W.heap.size (.agg #[.int .i64 b.roots, .slice A1 n1 c1, .slice A2 n2 c2, .int .i64 b.edges, .slice A4 n4 c4, .slice A5 n5 c5]) b := BigAt.wide (BigAt.below ⟨_, _, _, _, _, _, _, _, _, _, _, _, rfl, h1, h2, h4, h5⟩ HB0.out) HB0.out.size
  clear hW hWz
  have C := isBig_any A n c cs _ b W ((hC.below HB0.out).wide HB0.out.size) hVW hn hs hS hw
  obtain ⟨q, hq⟩ : ∃ q, bigB cs b = q := ⟨_, rfl⟩
  rw [ofB_at h1.1 h2.len h4.strlen h5.1]
  rw [hq] at C ⊢
  obtain ⟨x0, x1, x2, x3, x4, x5⟩ := HBox.out.get
  have m1 : n1 ≤ 1048576 := by have := hS.1; rw [h1.1] at this; exact this
  have m2 : n2 ≤ 1048576 := by have := hS.2.2.1; rw [h2.len] at this; exact this
  have m4 : n4 ≤ 1048576 := by have := hS.2.2.2.1; rw [h4.strlen] at this; exact this
  have m5 : n5 ≤ 1048576 := by have := hS.2.2.2.2.2.1; rw [h5.1] at this; exact this
  clear hq hS hw hVW
  obtain ⟨r, hr⟩ : ∃ r, wirQ b.roots n1 n2 b.edges n4 n5 = r := ⟨_, rfl⟩
  have CP := Lib.hid (fun w2 => hr ▸ iWir_leaf A1 A2 A4 A5 n1 n2 n4 n5 c1 c2 c4 c5 b.roots b.edges w2 m1 m2 m4 m5)
  rw [hr]
  clear hr
  go_enter Try.func141, Try.ntmps141
  go_wp2_with fail
  rw [HWq.out]
  go_wp2_with fail
  refine C.mono ?_
  rintro e w1 ⟨rfl, hb⟩
  have hb1 := HB0.out.trans (hb.mono HB0.out.size)
  have HBx1 := HBox.out.below hb hWs
  clear x0 x1 x2 x3 x4 x5 C
  obtain ⟨x0, x1, x2, x3, x4, x5⟩ := HBx1.get
  clear hb HBx1
  cases q with
  | false =>
    go_wp2_with fail
    go_ret
    exact ⟨rfl, hb1⟩
  | true =>
    go_wp2_with fail
    refine (CP.out w1).mono ?_
    rintro e w2 ⟨rfl, hb2⟩
    have hb3 := hb1.trans (hb2.mono hb1.size)
    clear hb2 x0 x1 x2 x3 x4 x5
    cases r with
    | false =>
      go_wp2_with fail
      go_ret
      exact ⟨rfl, hb3⟩
    | true =>
      go_wp2_with fail
      go_ret
      exact ⟨rfl, hb3⟩

end Go.Proofs.Ytifialdkjnmfoaa.kd

