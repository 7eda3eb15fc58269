/- Places and links of a Bigraph: spec.l2Link, spec.l2Under; impl.isLink, impl.isRoot, impl.isNode, impl.mayHold. -/
import Derived.Test.YtifialdkjnmfoabSig
import Derived.Test.YtifialdkjnmfoabOnly
namespace Go.Proofs.Ytifialdkjnmfoab.un
open kit bg sg sig only
open Go.RowKit
set_option linter.unusedVariables false

set_option maxHeartbeats 400000 in
theorem lk_any (v0 v1 v2 v5 : Value) (E l : Int) (A4 : Option Addr) (n4 c4 : Nat) (w : World) (hE : 0 ≤ E ∧ E ≤ 8) (hn : n4 ≤ 16) :
    Calls Try.prog 79 #[.agg #[v0, v1, v2, .int .i64 E, .slice A4 n4 c4, v5], .int .i64 l] w (Post (inb l 0 (E + n4 - 1)) w) := by
  obtain ⟨h0, h1⟩ := hE
  go_enter Try.func79, Try.ntmps79
  go_wp2_with (go_at_call 74; refine (in_any _ _ _ _).mono ?_; rintro e w' ⟨rfl, rfl⟩)
  go_ret
  exact ⟨rfl, (Below.refl _ _).alloc (Nat.le_refl _) _⟩
set_option maxHeartbeats 400000 in
theorem ilk_any (v0 v1 v2 v5 : Value) (E l : Int) (A4 : Option Addr) (n4 c4 : Nat) (w : World) (hE : 0 ≤ E ∧ E ≤ 8) (hn : n4 ≤ 16) :
    Calls Try.prog 112 #[.agg #[v0, v1, v2, .int .i64 E, .slice A4 n4 c4, v5], .int .i64 l] w (Post (inb l 0 (E + n4 - 1)) w) := by
  obtain ⟨h0, h1⟩ := hE
  go_enter Try.func112, Try.ntmps112
  go_wp2_with (go_at_call 109; refine (win_any _ _ _ _).mono ?_; rintro e w' ⟨rfl, rfl⟩)
  go_ret
  exact ⟨rfl, (Below.refl _ _).alloc (Nat.le_refl _) _⟩
set_option maxHeartbeats 400000 in
theorem irt_any (v1 v2 v3 v4 v5 : Value) (R p : Int) (w : World) (hR : 0 ≤ R ∧ R ≤ 4) :
    Calls Try.prog 122 #[.agg #[.int .i64 R, v1, v2, v3, v4, v5], .int .i64 p] w (Post (inb p (-R) (-1)) w) := by
  obtain ⟨h0, h1⟩ := hR
  go_enter Try.func122, Try.ntmps122
  go_wp2_with (go_at_call 109; refine (win_any _ _ _ _).mono ?_; rintro e w' ⟨rfl, rfl⟩)
  go_ret
  exact ⟨rfl, (Below.refl _ _).alloc (Nat.le_refl _) _⟩
/-- what underB says of a parent that is a node -/
theorem under_node {cs : List Ctl} {b : Big} {p : Nat} {m : Int} {nd : Nd} {c : Ctl} (hp : (p : Int) < m) (hx : b.nodes[p]? = some nd) (hc : cs[nd.control.toNat]? = some c) : underB cs b p m = (c.kind != 2) := by
  unfold underB
  rw [if_neg (by omega)]
  simp only [Int.toNat_natCast, hx, hc, decide_eq_true hp, Bool.true_and]
theorem under_far {cs : List Ctl} {b : Big} {p m : Int} (h0 : ¬ p < 0) (hp : ¬ p < m) : underB cs b p m = false := by
  unfold underB
  rw [if_neg h0, decide_eq_false hp]; rfl
theorem under_root {cs : List Ctl} {b : Big} {p m : Int} (h0 : p < 0) : underB cs b p m = inb (-1 - p) 0 (b.roots - 1) := by
  unfold underB
  rw [if_pos h0]
theorem root_eq (p R : Int) : inb p (-R) (-1) = inb (-1 - p) 0 (R - 1) := by
  unfold inb
  congr 1
  exact propext ⟨fun h => by omega, fun h => by omega⟩

/-- the Controls of the first nodes are there -/
def Ctrl (cs : List Ctl) (ns : List Nd) (m : Nat) : Prop := ∀ (j : Nat) nd, j < m → ns[j]? = some nd → inb nd.control 0 (cs.length - 1) = true

set_option maxHeartbeats 800000 in
theorem under_any (A : Option Addr) (n c : Nat) (cs : List Ctl) (A1 : Option Addr) (n1 c1 : Nat) (v2 v3 v4 v5 : Value) (b : Big) (p : Int) (m : Nat) (w0 w : World) (hC : CtlsAt w0 w0.heap.size A n cs) (hN : NdsAt w0 w0.heap.size A1 n1 b.nodes) (hb : Below w0.heap.size w0 w)
    (hR : 0 ≤ b.roots ∧ b.roots ≤ 4) (hn1 : n1 ≤ 8) (hn : n ≤ 1048576) (hm : m ≤ n1) (hk : Ctrl cs b.nodes m) (hp : (Lit.int .i64 p).wf = true) :
    Calls Try.prog 78 #[.slice A n c, .agg #[.int .i64 b.roots, .slice A1 n1 c1, v2, v3, v4, v5], .int .i64 p, .int .i64 m] w (Post (underB cs b p m) w) := by
  obtain ⟨h0, h1⟩ := hR
  obtain ⟨hp0, hp1⟩ := bounds_i64 hp
  by_cases hneg : p < 0
  · have HU := Lib.hid (under_root (cs := cs) (b := b) (m := m) hneg)
    clear hp
    go_enter Try.func78, Try.ntmps78
    go_wp2_with (go_at_call 74; refine (in_any _ _ _ _).mono ?_; rintro e w' ⟨rfl, rfl⟩)
    go_ret
    exact ⟨by rw [HU.out]; rfl, (Below.refl _ _).alloc (Nat.le_refl _) _⟩
  · by_cases hlt : p < (m : Int)
    · obtain ⟨q, rfl⟩ : ∃ q : Nat, p = q := ⟨p.toNat, by omega⟩
      obtain ⟨b1, off1, x, rfl, hb1, hx, d0, d1, L, mL, cL, d2, -⟩ := hN.get (show q < n1 by omega)
      obtain ⟨k0, k1⟩ := inb_true (hk q x (by omega) hx)
      have hqn : q < n1 := by omega
      obtain ⟨t, ht⟩ : ∃ t : Nat, x.control = t := ⟨x.control.toNat, by omega⟩
      have htn : t < n := by have := hC.1; omega
      obtain ⟨b2, off2, y, rfl, hb2, hy, e0, e1, e2⟩ := hC.get htn
      have HU := Lib.hid (under_node (b := b) hlt hx (show cs[x.control.toNat]? = some y by rw [ht]; exact hy))
      rw [ht] at d0
      have g0 := (hb.cell (p := ⟨b1, off1 + q * 3, none⟩) hb1).trans d0
      have g2 := (hb.cell (p := ⟨b2, off2 + t * 3 + 2, none⟩) hb2).trans e2
      have hb1w : b1 < w.heap.size := Nat.lt_of_lt_of_le hb1 hb.size
      have hb2w : b2 < w.heap.size := Nat.lt_of_lt_of_le hb2 hb.size
      clear hp hx hy d0 d1 d2 e0 e1 e2 ht
      cases hq : (y.kind != 2) with
      | true =>
        have HQ := Lib.hid hq
        go_enter Try.func78, Try.ntmps78
        go_wp2_with fail
        go_ret
        exact ⟨by rw [HU.out, HQ.out]; rfl, (Below.refl _ _).alloc (Nat.le_refl _) _⟩
      | false =>
        have HQ := Lib.hid hq
        go_enter Try.func78, Try.ntmps78
        go_wp2_with fail
        go_ret
        exact ⟨by rw [HU.out, HQ.out]; rfl, (Below.refl _ _).alloc (Nat.le_refl _) _⟩
    · have hge : (m : Int) ≤ p := by omega
      have hd : decide (p < (m : Int)) = false := decide_eq_false hlt
      have HU := Lib.hid (under_far (cs := cs) (b := b) hneg hlt)
      clear hp
      go_enter Try.func78, Try.ntmps78
      go_wp2_with fail
      go_ret
      exact ⟨by rw [HU.out]; rfl, (Below.refl _ _).alloc (Nat.le_refl _) _⟩
end Go.Proofs.Ytifialdkjnmfoab.un
