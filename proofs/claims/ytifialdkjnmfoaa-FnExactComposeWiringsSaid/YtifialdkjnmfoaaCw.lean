/- ComposeWirings: what it makes; a link that goes through. -/
import Derived.Test.YtifialdkjnmfoaaFt
import Derived.Test.YtifialdkjnmfoaaRl
import Derived.Test.YtifialdkjnmfoaaGv
import Derived.Test.YtifialdkjnmfoaaKd
import Derived.Test.YtifialdkjnmfoaaTp
namespace Go.Proofs.Ytifialdkjnmfoaa.cw
open kit bg sg opn strs only hb sig isig un over gn nm inn ht gd im pt marks eqs hc hi hw hn rs br bm bw cf lf ib isa lawb lw cl pl mb sb wb rl ft gv kd abv tp
open Go.RowKit
set_option linter.unusedVariables false
/-- the link that a link of b becomes behind a -/
def thr (a b : Big) (l : Int) : Int := if l < b.edges then a.edges + l else match a.inner[(l - b.edges).toNat]? with
  | some x => if x.link < a.edges then x.link else x.link + b.edges
  | none => 0
theorem thr_edge {a b : Big} {l : Int} (h : l < b.edges) : thr a b l = a.edges + l := by unfold thr; rw [if_pos h]
theorem thr_low {a b : Big} {l : Int} {x : Wr} (h : ¬ l < b.edges) (hx : a.inner[(l - b.edges).toNat]? = some x) (h2 : x.link < a.edges) : thr a b l = x.link := by unfold thr; rw [if_neg h, hx]; exact if_pos h2
theorem thr_high {a b : Big} {l : Int} {x : Wr} (h : ¬ l < b.edges) (hx : a.inner[(l - b.edges).toNat]? = some x) (h2 : ¬ x.link < a.edges) : thr a b l = x.link + b.edges := by unfold thr; rw [if_neg h, hx]; exact if_neg h2
def cwC (a b : Big) : Big := ⟨0, [], [], a.edges + b.edges, a.outer, b.inner.map (fun x => ⟨x.name, thr a b x.link⟩)⟩
noncomputable def cwB (cs : List Ctl) (a b : Big) : Bool := bigB cs a && bigB cs b && ofB wirQ a && ofB wirQ b && decide (nms a.inner = b.outer)
noncomputable def cwQ (cs : List Ctl) (a b : Big) : Bool := cwB cs a b && bigB cs (cwC a b)
noncomputable def cwR (cs : List Ctl) (a b : Big) : Big := if cwB cs a b = true then giveR cs (cwC a b) else zeroBig
theorem wir_empty {cs : List Ctl} {b : Big} (h : bigB cs b = true) (hr : ofB wirQ b = true) : b.roots = 0 ∧ b.nodes = [] ∧ b.sites = [] := by
  have hr : b.roots = 0 := by unfold ofB wirQ at hr; exact of_decide_eq_true hr
  obtain ⟨hu, hd, hs, -⟩ := good_sites h
  have hn : b.nodes = [] := by
    cases hn : b.nodes with
    | nil => rfl
    | cons x r =>
      have h0 : b.nodes[0]? = some x := by rw [hn]; rfl
      have h1 := hu 0 x h0
      have h2 := hd 0 x h0
      omega
  refine ⟨hr, hn, ?_⟩
  cases hc : b.sites with
  | nil => rfl
  | cons z r =>
    have h1 := hs 0 z (by rw [hc]; rfl)
    rw [hn] at h1
    simp at h1
    omega
theorem link_in {b : Big} {l : Int} (h : linkB b l = true) : 0 ≤ l ∧ l < b.edges + b.outer.length := by
  unfold linkB at h
  have := inb_true h
  omega
theorem nms_length {ws : List Wr} {ss : List ByteArray} (h : nms ws = ss) : ws.length = ss.length := by rw [← h]; unfold nms; simp
theorem inner_link {cs : List Ctl} {b : Big} (h : bigB cs b = true) {x : Wr} (hx : x ∈ b.inner) : linkB b x.link = true := by
  obtain ⟨i, hi⟩ := List.getElem?_of_mem hx
  exact (big_of h).2.2.2.2.2.2 i x hi
/-- a link that goes through is small -/
theorem thr_in {cs : List Ctl} {a b : Big} (ha : bigB cs a = true) (hb : bigB cs b = true) {l : Int} (hl : linkB b l = true) : 0 ≤ thr a b l ∧ thr a b l ≤ 32 := by
  have h1 := link_in hl
  have za := sizes_of (big_of ha).2.1
  have zb := sizes_of (big_of hb).2.1
  unfold thr
  split
  · omega
  · split
    · next x hx =>
      have h2 := link_in (inner_link ha (List.mem_of_getElem? hx))
      split <;> omega
    · omega
theorem cwC_S {cs : List Ctl} {a b : Big} (ha : bigB cs a = true) (hb : bigB cs b = true) (hSa : BigS a) (hSb : BigS b) : BigS (cwC a b) := by
  refine ⟨by simp [cwC], fun x hx => by simp [cwC] at hx, by simp [cwC], hSa.2.2.2.1, hSa.2.2.2.2.1, by simp only [cwC, List.length_map]; exact hSb.2.2.2.2.2.1, fun x hx => ?_⟩
  obtain ⟨y, hy, rfl⟩ := List.mem_map.1 hx
  exact hSb.2.2.2.2.2.2 y hy
theorem cwC_W {cs : List Ctl} {a b : Big} (ha : bigB cs a = true) (hb : bigB cs b = true) (hwa : BigW a) (hwb : BigW b) : BigW (cwC a b) := by
  have za := sizes_of (big_of ha).2.1
  have zb := sizes_of (big_of hb).2.1
  obtain ⟨-, -, -, -, -, -, o1, o2, -, -⟩ := hwa
  obtain ⟨-, -, -, -, -, -, -, -, i1, i2⟩ := hwb
  refine ⟨Go.WalkArith.wf_i64 (by simp [cwC]), Go.WalkArith.wf_i64 (by simp only [cwC]; omega), by simp [cwC], fun x hx => by simp [cwC] at hx, by simp [cwC], fun x hx => by simp [cwC] at hx, o1, o2, by simp only [cwC, List.length_map]; exact i1, fun x hx => ?_⟩
  obtain ⟨y, hy, rfl⟩ := List.mem_map.1 hx
  have := thr_in ha hb (inner_link hb hy)
  exact ⟨(i2 y hy).1, Go.WalkArith.wf_i64 (by show -9223372036854775808 ≤ thr a b y.link ∧ thr a b y.link ≤ 9223372036854775807; omega)⟩
theorem cwR_no {cs : List Ctl} {a b : Big} (h : cwB cs a b = false) : cwR cs a b = zeroBig ∧ cwQ cs a b = false := by unfold cwR cwQ; rw [h]; exact ⟨rfl, rfl⟩
theorem cwR_yes {cs : List Ctl} {a b : Big} (h : cwB cs a b = true) : cwR cs a b = giveR cs (cwC a b) ∧ cwQ cs a b = bigB cs (cwC a b) := by unfold cwR cwQ; rw [h]; exact ⟨rfl, rfl⟩
theorem cw_len (cs : List Ctl) (a b : Big) : bigMk (cwR cs a b) ≤ 1048576 := by
  unfold cwR
  split
  · refine give_len (fun h => ?_)
    have z := sizes_of (big_of h).2.1
    unfold cwC bigMk ndMk
    simp [sumBy, cwC] at z ⊢
    omega
  · exact zero_len

set_option maxRecDepth 20000 in
set_option maxHeartbeats 1600000 in
theorem thrS_any (A5 : Option Addr) (n5 c5 : Nat) (p0 p1 p2 p4 q0 q1 q2 q4 q5 : Value) (a b : Big) (l : Int) (w0 w : World) (h5 : WrsAt w0 w0.heap.size A5 n5 a.inner) (hb0 : Below w0.heap.size w0 w) (ha : 0 ≤ a.edges ∧ a.edges ≤ 8) (hb : 0 ≤ b.edges ∧ b.edges ≤ 8) (hl : 0 ≤ l ∧ l < b.edges + n5) (hn : n5 ≤ 16) (hx : ∀ x ∈ a.inner, 0 ≤ x.link ∧ x.link ≤ 32) :
    Calls Try.prog 140 #[.agg #[p0, p1, p2, .int .i64 a.edges, p4, .slice A5 n5 c5], .agg #[q0, q1, q2, .int .i64 b.edges, q4, q5], .int .i64 l] w fun e w' => e = .returned (.int .i64 (thr a b l)) ∧ Below w.heap.size w w' := by
  have HBa : Hid (BoxAt (w.alloc (.cells #[p0, p1, p2, .int .i64 a.edges, p4, .slice A5 n5 c5] 39)) w.heap.size 39 p0 p1 p2 (.int .i64 a.edges) p4 (.slice A5 n5 c5)) := Lib.hid (six_new w _ _ _ _ _ _ _)
  have hb1 := (Below.refl w.heap.size w).alloc (Nat.le_refl _) (.cells #[p0, p1, p2, .int .i64 a.edges, p4, .slice A5 n5 c5] 39)
  obtain ⟨U, hU⟩ : ∃ U, w.alloc (.cells #[p0, p1, p2, .int .i64 a.edges, p4, .slice A5 n5 c5] 39) = U := ⟨_, rfl⟩
  have hUz : U.heap.size = w.heap.size + 1 := by rw [← hU]; simp
  rw [hU] at HBa hb1
  have HBb : Hid (BoxAt (U.alloc (.cells #[q0, q1, q2, .int .i64 b.edges, q4, q5] 39)) U.heap.size 39 q0 q1 q2 (.int .i64 b.edges) q4 q5) := Lib.hid (six_new U _ _ _ _ _ _ _)
  have hb2 := (Below.refl U.heap.size U).alloc (Nat.le_refl _) (.cells #[q0, q1, q2, .int .i64 b.edges, q4, q5] 39)
  have HBa := Lib.hid (HBa.out.on hb2)
  obtain ⟨W, hW⟩ : ∃ W, U.alloc (.cells #[q0, q1, q2, .int .i64 b.edges, q4, q5] 39) = W := ⟨_, rfl⟩
  rw [hW] at HBa HBb hb2
  rw [hUz] at HBb
  have HUq := Lib.hid hU
  have HWq := Lib.hid hW
  have HB := Lib.hid (hb1.trans (hb2.mono hb1.size))
  obtain ⟨x0, x1, x2, x3, x4, x5⟩ := HBa.out.get
  obtain ⟨y0, y1, y2, y3, y4, y5⟩ := HBb.out.get
  clear hU hW hb1 hb2
  by_cases h1 : l < b.edges
  · have HT := Lib.hid (thr_edge (a := a) h1)
    rw [HT.out]
    go_enter Try.func140, Try.ntmps140
    go_wp2_with fail
    rw [HUq.out, HWq.out]
    go_wp2_with fail
    go_ret
    exact ⟨rfl, HB.out⟩
  · obtain ⟨k, hk⟩ : ∃ k : Nat, l - b.edges = k := ⟨(l - b.edges).toNat, by omega⟩
    have hkn : k < n5 := by omega
    obtain ⟨b5, off5, x, rfl, hb5, hxk, -, cl⟩ := h5.get hkn
    have hxm := hx x (List.mem_of_getElem? hxk)
    have d1 := (hb0.cell (p := ⟨b5, off5 + k * 2 + 1, none⟩) hb5).trans cl
    have d2 := (HB.out.cell (p := ⟨b5, off5 + k * 2 + 1, none⟩) (Nat.lt_of_lt_of_le hb5 hb0.size)).trans d1
    have hX : a.inner[(l - b.edges).toNat]? = some x := by rw [hk, Int.toNat_natCast]; exact hxk
    have hlk : l = b.edges + k := by omega
    by_cases h2 : x.link < a.edges
    · have HT := Lib.hid (thr_low h1 hX h2)
      rw [HT.out]
      clear hX hxk cl d1
      subst hlk
      go_enter Try.func140, Try.ntmps140
      rw [← HWq.out, ← HUq.out] at d2
      go_wp2_with fail
      go_ret
      exact ⟨rfl, by first | exact HB.out | (have h := HB.out; rw [← HWq.out, ← HUq.out] at h; exact h)⟩
    · have HT := Lib.hid (thr_high h1 hX h2)
      rw [HT.out]
      clear hX hxk cl d1
      subst hlk
      go_enter Try.func140, Try.ntmps140
      rw [← HWq.out, ← HUq.out] at d2
      go_wp2_with fail
      go_ret
      exact ⟨rfl, by first | exact HB.out | (have h := HB.out; rw [← HWq.out, ← HUq.out] at h; exact h)⟩

set_option maxRecDepth 20000 in
set_option maxHeartbeats 1600000 in
theorem thrI_any (A5 : Option Addr) (n5 c5 : Nat) (p0 p1 p2 p4 q0 q1 q2 q4 q5 : Value) (a b : Big) (l : Int) (w0 w : World) (h5 : WrsAt w0 w0.heap.size A5 n5 a.inner) (hb0 : Below w0.heap.size w0 w) (ha : 0 ≤ a.edges ∧ a.edges ≤ 8) (hb : 0 ≤ b.edges ∧ b.edges ≤ 8) (hl : 0 ≤ l ∧ l < b.edges + n5) (hn : n5 ≤ 16) (hx : ∀ x ∈ a.inner, 0 ≤ x.link ∧ x.link ≤ 32) (βa βb : Nat) (hBa : BoxAt w βa 39 p0 p1 p2 (.int .i64 a.edges) p4 (.slice A5 n5 c5)) (hBb : BoxAt w βb 39 q0 q1 q2 (.int .i64 b.edges) q4 q5) :
    Calls Try.prog 144 #[.int .i64 l, .pointer (some ⟨βb, 0, none⟩), .pointer (some ⟨βa, 0, none⟩)] w fun e w' => e = .returned (.int .i64 (thr a b l)) ∧ Below w.heap.size w w' := by
  have HB := Lib.hid (Below.refl w.heap.size w)
  obtain ⟨x0, x1, x2, x3, x4, x5⟩ := hBa.get
  obtain ⟨y0, y1, y2, y3, y4, y5⟩ := hBb.get
  by_cases h1 : l < b.edges
  · have HT := Lib.hid (thr_edge (a := a) h1)
    rw [HT.out]
    go_enter Try.func144, Try.ntmps144
    go_wp2_with fail
    go_ret
    exact ⟨rfl, HB.out⟩
  · obtain ⟨k, hk⟩ : ∃ k : Nat, l - b.edges = k := ⟨(l - b.edges).toNat, by omega⟩
    have hkn : k < n5 := by omega
    obtain ⟨b5, off5, x, rfl, hb5, hxk, -, cl⟩ := h5.get hkn
    have hxm := hx x (List.mem_of_getElem? hxk)
    have d1 := (hb0.cell (p := ⟨b5, off5 + k * 2 + 1, none⟩) hb5).trans cl
    have d2 := (HB.out.cell (p := ⟨b5, off5 + k * 2 + 1, none⟩) (Nat.lt_of_lt_of_le hb5 hb0.size)).trans d1
    have hX : a.inner[(l - b.edges).toNat]? = some x := by rw [hk, Int.toNat_natCast]; exact hxk
    have hlk : l = b.edges + k := by omega
    by_cases h2 : x.link < a.edges
    · have HT := Lib.hid (thr_low h1 hX h2)
      rw [HT.out]
      clear hX hxk cl d1
      subst hlk
      go_enter Try.func144, Try.ntmps144
      go_wp2_with fail
      go_ret
      exact ⟨rfl, by first | exact HB.out | (have h := HB.out; rw [← HWq.out, ← HUq.out] at h; exact h)⟩
    · have HT := Lib.hid (thr_high h1 hX h2)
      rw [HT.out]
      clear hX hxk cl d1
      subst hlk
      go_enter Try.func144, Try.ntmps144
      go_wp2_with fail
      go_ret
      exact ⟨rfl, by first | exact HB.out | (have h := HB.out; rw [← HWq.out, ← HUq.out] at h; exact h)⟩

theorem _root_.Go.Proofs.Ytifialdkjnmfoaa.cf.BoxAt.put3 {w : World} {β : Nat} {t : TypeId} {v0 v1 v2 v3 v4 v5 : Value} (h : BoxAt w β t v0 v1 v2 v3 v4 v5) (u : Value) : BoxAt (w.setCell ⟨β, 3, none⟩ u) β t v0 v1 v2 u v4 v5 := by
  have h6 : (w.setCell ⟨β, 3, none⟩ u).rowIs β t 6 _ := World.rowIs.set h 3 u
  unfold BoxAt
  refine h6.congr ?_
  intro i hi
  match i, hi with
  | 0, _ => rfl
  | 1, _ => rfl
  | 2, _ => rfl
  | 3, _ => rfl
  | 4, _ => rfl
  | 5, _ => rfl
theorem _root_.Go.Proofs.Ytifialdkjnmfoaa.cf.BoxAt.put4 {w : World} {β : Nat} {t : TypeId} {v0 v1 v2 v3 v4 v5 : Value} (h : BoxAt w β t v0 v1 v2 v3 v4 v5) (u : Value) : BoxAt (w.setCell ⟨β, 4, none⟩ u) β t v0 v1 v2 v3 u v5 := by
  have h6 : (w.setCell ⟨β, 4, none⟩ u).rowIs β t 6 _ := World.rowIs.set h 4 u
  unfold BoxAt
  refine h6.congr ?_
  intro i hi
  match i, hi with
  | 0, _ => rfl
  | 1, _ => rfl
  | 2, _ => rfl
  | 3, _ => rfl
  | 4, _ => rfl
  | 5, _ => rfl
theorem row_set_box {w : World} {lo hi n c sz β k : Nat} {t : TypeId} {A : Option Addr} {M g : Nat → Value} {u : Value} (h : RowR w lo hi t sz A n c M) (hb : w.rowIs β 39 6 g) (ht : t ≠ 39) : RowR (w.setCell ⟨β, k, none⟩ u) lo hi t sz A n c M := row_other_set h hb ht
theorem big_set_box {w : World} {lo hi β k : Nat} {v u : Value} {r : Big} {g : Nat → Value} (h : BigR w lo hi v r) (hb : w.rowIs β 39 6 g) : BigR (w.setCell ⟨β, k, none⟩ u) lo hi v r := by
  obtain ⟨P, rfl, ha, h1, h2, h4, h5⟩ := h
  exact ⟨P, rfl, ha, ⟨row_other_set h1.1 hb (by decide), fun k hk => row_other_set (h1.2 k hk) hb (by decide)⟩, row_other_set h2 hb (by decide), row_other_set h4 hb (by decide), row_other_set h5 hb (by decide)⟩
/-- what becomes of a relinked wiring -/
theorem rel_cw {w : World} {lo hi lo' : Nat} {R E : Int} {B1 B2 B4 B5 A4 : Option Addr} {m1 d1 m2 d2 m4 d4 m5 d5 n4 c4 : Nat} {f : Int → Int} {b : Big} {outer : List ByteArray} (E' : Int) (h : BigR w lo hi (.agg #[.int .i64 R, .slice B1 m1 d1, .slice B2 m2 d2, .int .i64 E, .slice B4 m4 d4, .slice B5 m5 d5]) (relB f b)) (hn : b.nodes = []) (hs : b.sites = []) (hlo : lo' ≤ lo)
    (h4 : RowR w lo' hi 9 1 A4 n4 c4 (at_ outer)) (l4 : outer.length = n4) : BigR w lo' hi (.agg #[.int .i64 0, .slice B1 m1 d1, .slice B2 m2 d2, .int .i64 E', .slice A4 n4 c4, .slice B5 m5 d5]) ⟨0, [], [], E', outer, (relB f b).inner⟩ := by
  obtain ⟨P, e, ha, h1, h2, -, h5⟩ := h
  injection e with e
  simp at e
  obtain ⟨-, ⟨rfl, rfl, rfl⟩, ⟨rfl, rfl, rfl⟩, -, ⟨-, -, -⟩, ⟨rfl, rfl, rfl⟩⟩ := e
  subst l4
  have z1 : (relB f b).nodes = [] := by simp [relB, hn]
  have z2 : (relB f b).sites = [] := by simp [relB, hs]
  rw [z1] at h1 ha
  rw [z2] at h2
  rw [z1, z2]
  exact ⟨⟨P.A1, P.c1, P.A2, P.c2, A4, c4, P.A5, P.c5, P.LA, P.LC⟩, rfl, fun k hk => absurd hk (Nat.not_lt_zero k), ⟨h1.1.wide hlo (Nat.le_refl _) |>.congr (fun x hx => absurd hx (Nat.not_lt_zero x)), fun k hk => absurd hk (Nat.not_lt_zero k)⟩, h2.wide hlo (Nat.le_refl _), h4, h5.wide hlo (Nat.le_refl _)⟩
end Go.Proofs.Ytifialdkjnmfoaa.cw
