/- Kinds of Bigraphs: IsPlacing, IsWiring, IsSubstitution, IsPrime of spec and impl. -/
import Derived.Test.YtlhickjlcmiknaaQc
namespace Go.Proofs.Ytlhickjlcmiknaa.kd
open kit bg sg sig isig only un hb opn over gn nm inn ht gd im pt cf lf ib isa
open Go.RowKit
set_option linter.unusedVariables false

/-- what a test of a valid Bigraph asks of its sizes -/
def placQ (R : Int) (n1 n2 : Nat) (E : Int) (n4 n5 : Nat) : Bool := decide (n1 = 0) && decide (E = 0) && decide (n4 = 0) && decide (n5 = 0)
def wirQ (R : Int) (n1 n2 : Nat) (E : Int) (n4 n5 : Nat) : Bool := decide (R = 0)
def subQ (R : Int) (n1 n2 : Nat) (E : Int) (n4 n5 : Nat) : Bool := decide (R = 0) && decide (E = 0)
def primeQ (R : Int) (n1 n2 : Nat) (E : Int) (n4 n5 : Nat) : Bool := decide (R = 1) && decide (n5 = 0)
def ofB (Q : Int → Nat → Nat → Int → Nat → Nat → Bool) (b : Big) : Bool := Q b.roots b.nodes.length b.sites.length b.edges b.outer.length b.inner.length
theorem ofB_at {Q : Int → Nat → Nat → Int → Nat → Nat → Bool} {b : Big} {n1 n2 n4 n5 : Nat} (h1 : b.nodes.length = n1) (h2 : b.sites.length = n2) (h4 : b.outer.length = n4) (h5 : b.inner.length = n5) : ofB Q b = Q b.roots n1 n2 b.edges n4 n5 := by
  unfold ofB
  rw [h1, h2, h4, h5]

set_option maxHeartbeats 800000 in
theorem sWir_leaf (A1 A2 A4 A5 : Option Addr) (n1 n2 n4 n5 c1 c2 c4 c5 : Nat) (R E : Int) (w : World) (m1 : n1 ≤ 1048576) (m2 : n2 ≤ 1048576) (m4 : n4 ≤ 1048576) (m5 : n5 ≤ 1048576) :
    Calls Try.prog 108 #[.agg #[.int .i64 R, .slice A1 n1 c1, .slice A2 n2 c2, .int .i64 E, .slice A4 n4 c4, .slice A5 n5 c5]] w (Post (wirQ R n1 n2 E n4 n5) w) := by
  have HB := Lib.hid ((Below.refl w.heap.size w).alloc (Nat.le_refl _) (.cells #[.int .i64 R, .slice A1 n1 c1, .slice A2 n2 c2, .int .i64 E, .slice A4 n4 c4, .slice A5 n5 c5] 38))
  by_cases q0 : R = 0
  · go_enter Try.func108, Try.ntmps108
    go_wp2_with fail
    go_ret
    exact ⟨by simp [wirQ, q0], (Below.refl _ _).alloc (Nat.le_refl _) _⟩
  · go_enter Try.func108, Try.ntmps108
    go_wp2_with fail
    go_ret
    exact ⟨by simp [wirQ, q0], (Below.refl _ _).alloc (Nat.le_refl _) _⟩

set_option maxHeartbeats 800000 in
theorem iWir_leaf (A1 A2 A4 A5 : Option Addr) (n1 n2 n4 n5 c1 c2 c4 c5 : Nat) (R E : Int) (w : World) (m1 : n1 ≤ 1048576) (m2 : n2 ≤ 1048576) (m4 : n4 ≤ 1048576) (m5 : n5 ≤ 1048576) :
    Calls Try.prog 109 #[.agg #[.int .i64 R, .slice A1 n1 c1, .slice A2 n2 c2, .int .i64 E, .slice A4 n4 c4, .slice A5 n5 c5]] w (Post (wirQ R n1 n2 E n4 n5) w) := by
  have HB := Lib.hid ((Below.refl w.heap.size w).alloc (Nat.le_refl _) (.cells #[.int .i64 R, .slice A1 n1 c1, .slice A2 n2 c2, .int .i64 E, .slice A4 n4 c4, .slice A5 n5 c5] 38))
  by_cases q0 : R = 0
  · go_enter Try.func109, Try.ntmps109
    go_wp2_with fail
    go_ret
    exact ⟨by simp [wirQ, q0], (Below.refl _ _).alloc (Nat.le_refl _) _⟩
  · go_enter Try.func109, Try.ntmps109
    go_wp2_with fail
    go_ret
    exact ⟨by simp [wirQ, q0], (Below.refl _ _).alloc (Nat.le_refl _) _⟩

set_option maxHeartbeats 800000 in
theorem sSub_leaf (A1 A2 A4 A5 : Option Addr) (n1 n2 n4 n5 c1 c2 c4 c5 : Nat) (R E : Int) (w : World) (m1 : n1 ≤ 1048576) (m2 : n2 ≤ 1048576) (m4 : n4 ≤ 1048576) (m5 : n5 ≤ 1048576) :
    Calls Try.prog 97 #[.agg #[.int .i64 R, .slice A1 n1 c1, .slice A2 n2 c2, .int .i64 E, .slice A4 n4 c4, .slice A5 n5 c5]] w (Post (subQ R n1 n2 E n4 n5) w) := by
  have HB := Lib.hid ((Below.refl w.heap.size w).alloc (Nat.le_refl _) (.cells #[.int .i64 R, .slice A1 n1 c1, .slice A2 n2 c2, .int .i64 E, .slice A4 n4 c4, .slice A5 n5 c5] 38))
  have HBox : Hid (BoxAt (w.alloc (.cells #[.int .i64 R, .slice A1 n1 c1, .slice A2 n2 c2, .int .i64 E, .slice A4 n4 c4, .slice A5 n5 c5] 38)) w.heap.size 38 (.int .i64 R) (.slice A1 n1 c1) (.slice A2 n2 c2) (.int .i64 E) (.slice A4 n4 c4) (.slice A5 n5 c5)) := Lib.hid (six_new w _ _ _ _ _ _ _)
  obtain ⟨W, hW⟩ : ∃ W, w.alloc (.cells #[.int .i64 R, .slice A1 n1 c1, .slice A2 n2 c2, .int .i64 E, .slice A4 n4 c4, .slice A5 n5 c5] 38) = W := ⟨_, rfl⟩
  have hWs : w.heap.size < W.heap.size := by rw [← hW]; simp
  rw [hW] at HB HBox
  have HWq := Lib.hid hW
  have C := sWir_leaf A1 A2 A4 A5 n1 n2 n4 n5 c1 c2 c4 c5 R E W m1 m2 m4 m5
  obtain ⟨r, hr⟩ : ∃ r, wirQ R n1 n2 E n4 n5 = r := ⟨_, rfl⟩
  rw [show subQ R n1 n2 E n4 n5 = (r && decide (E = 0)) by rw [← hr]; rfl]
  rw [hr] at C
  obtain ⟨x0, x1, x2, x3, x4, x5⟩ := HBox.out.get
  clear hW hr
  go_enter Try.func97, Try.ntmps97
  go_wp2_with fail
  rw [HWq.out]
  go_wp2_with fail
  refine C.mono ?_
  rintro e w1 ⟨rfl, hb⟩
  have hb1 := HB.out.trans (hb.mono HB.out.size)
  have HBx1 := HBox.out.below hb hWs
  clear x0 x1 x2 x3 x4 x5 C
  obtain ⟨x0, x1, x2, x3, x4, x5⟩ := HBx1.get
  clear hb HBx1
  cases r with
  | false =>
    go_wp2_with fail
    go_ret
    exact ⟨rfl, hb1⟩
  | true =>
    by_cases q1 : E = 0
    · go_wp2_with fail
      go_ret
      exact ⟨by simp [q1], hb1⟩
    · go_wp2_with fail
      go_ret
      exact ⟨by simp [q1], hb1⟩

set_option maxHeartbeats 800000 in
theorem iSub_leaf (A1 A2 A4 A5 : Option Addr) (n1 n2 n4 n5 c1 c2 c4 c5 : Nat) (R E : Int) (w : World) (m1 : n1 ≤ 1048576) (m2 : n2 ≤ 1048576) (m4 : n4 ≤ 1048576) (m5 : n5 ≤ 1048576) :
    Calls Try.prog 98 #[.agg #[.int .i64 R, .slice A1 n1 c1, .slice A2 n2 c2, .int .i64 E, .slice A4 n4 c4, .slice A5 n5 c5]] w (Post (subQ R n1 n2 E n4 n5) w) := by
  have HB := Lib.hid ((Below.refl w.heap.size w).alloc (Nat.le_refl _) (.cells #[.int .i64 R, .slice A1 n1 c1, .slice A2 n2 c2, .int .i64 E, .slice A4 n4 c4, .slice A5 n5 c5] 38))
  have HBox : Hid (BoxAt (w.alloc (.cells #[.int .i64 R, .slice A1 n1 c1, .slice A2 n2 c2, .int .i64 E, .slice A4 n4 c4, .slice A5 n5 c5] 38)) w.heap.size 38 (.int .i64 R) (.slice A1 n1 c1) (.slice A2 n2 c2) (.int .i64 E) (.slice A4 n4 c4) (.slice A5 n5 c5)) := Lib.hid (six_new w _ _ _ _ _ _ _)
  obtain ⟨W, hW⟩ : ∃ W, w.alloc (.cells #[.int .i64 R, .slice A1 n1 c1, .slice A2 n2 c2, .int .i64 E, .slice A4 n4 c4, .slice A5 n5 c5] 38) = W := ⟨_, rfl⟩
  have hWs : w.heap.size < W.heap.size := by rw [← hW]; simp
  rw [hW] at HB HBox
  have HWq := Lib.hid hW
  have C := iWir_leaf A1 A2 A4 A5 n1 n2 n4 n5 c1 c2 c4 c5 R E W m1 m2 m4 m5
  obtain ⟨r, hr⟩ : ∃ r, wirQ R n1 n2 E n4 n5 = r := ⟨_, rfl⟩
  rw [show subQ R n1 n2 E n4 n5 = (r && decide (E = 0)) by rw [← hr]; rfl]
  rw [hr] at C
  obtain ⟨x0, x1, x2, x3, x4, x5⟩ := HBox.out.get
  clear hW hr
  go_enter Try.func98, Try.ntmps98
  go_wp2_with fail
  rw [HWq.out]
  go_wp2_with fail
  refine C.mono ?_
  rintro e w1 ⟨rfl, hb⟩
  have hb1 := HB.out.trans (hb.mono HB.out.size)
  have HBx1 := HBox.out.below hb hWs
  clear x0 x1 x2 x3 x4 x5 C
  obtain ⟨x0, x1, x2, x3, x4, x5⟩ := HBx1.get
  clear hb HBx1
  cases r with
  | false =>
    go_wp2_with fail
    go_ret
    exact ⟨rfl, hb1⟩
  | true =>
    by_cases q1 : E = 0
    · go_wp2_with fail
      go_ret
      exact ⟨by simp [q1], hb1⟩
    · go_wp2_with fail
      go_ret
      exact ⟨by simp [q1], hb1⟩

end Go.Proofs.Ytlhickjlcmiknaa.kd

