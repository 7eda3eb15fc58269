/- spec.l4Relink: other links, edges and outer names. -/
import Derived.Test.YtmcdbhlpmlcjpaaNk
import Derived.Deep.RegionHeld3
namespace Go.Proofs.Ytmcdbhlpmlcjpaa.rk
open kit bg sg opn strs only hb sig isig un over gn nm inn ht gd im pt marks eqs hc hi hw hn rs br bm bw cf lf ib isa lawb lw cl pl mb sb wb ek rn rnm tp wk rl ed mrp mrs nk idl lep psp
open Go.RowKit
set_option linter.unusedVariables false
set_option linter.unusedSimpArgs false
/-- nodes in memory of the call's own -/
def NdR (w : World) (lo hi : Nat) (A : Option Addr) (n c : Nat) (LA : Nat → Option Addr) (LC : Nat → Nat) (ns : List Nd) : Prop :=
  RowR w lo hi 86 3 A n c (ndv ns (lsF ns LA LC)) ∧ (∀ i, i < n → RowR w lo hi 3 1 (LA i) (lnOf ns i) (LC i) (iat (linksOf ns i))) ∧ ∀ i j, i < j → j < n → LA j ≠ none → LA i ≠ LA j
section
variable {w w' : World} {lo hi n c : Nat} {A : Option Addr} {LA : Nat → Option Addr} {LC : Nat → Nat} {ns : List Nd}
theorem NdR.on (h : NdR w lo hi A n c LA LC ns) (hb : Below w.heap.size w w') : NdR w' lo hi A n c LA LC ns := ⟨h.1.on hb, fun i hi => (h.2.1 i hi).on hb, h.2.2⟩
theorem NdR.grown {base sz2 m : Nat} {v : Value} {xs : List Value} (h : NdR w lo hi A n c LA LC ns) (ho : w.ownsRow base 9 sz2 v m xs) (hg : w.grownBy w' v.ownBlock) : NdR w' lo hi A n c LA LC ns :=
  ⟨row_grown h.1 ho hg (by decide), fun i hi => row_grown (h.2.1 i hi) ho hg (by decide), h.2.2⟩
theorem NdR.wide {lo' hi' : Nat} (h : NdR w lo hi A n c LA LC ns) (a : lo' ≤ lo) (b : hi ≤ hi') : NdR w lo' hi' A n c LA LC ns := ⟨h.1.wide a b, fun i hi => (h.2.1 i hi).wide a b, h.2.2⟩
theorem ndr_of {v : Value} {xs : List Value} (h : NkS w lo ns n v xs LA LC) : ∃ A c, v = .slice A n c ∧ NdR w lo w.heap.size A n c LA LC ns := by
  obtain ⟨A, c, e, hr⟩ := rowR_owns h.own
  exact ⟨A, c, e, hr.congr (fun x hx => by rw [h.get x hx]; rfl), h.row, h.ne⟩
/-- a Bigraph out of its parts -/
theorem big_parts {R E : Int} {A2 A4 A5 : Option Addr} {n2 c2 n4 c4 n5 c5 m : Nat} {ss : List Int} {ou : List ByteArray} {ws : List Wr} (h : NdR w lo m A n c LA LC ns) (hn : ns.length = n) (h2 : RowR w m hi 3 1 A2 n2 c2 (iat ss)) (l2 : ss.length = n2) (h4 : RowR w lo hi 9 1 A4 n4 c4 (at_ ou)) (l4 : ou.length = n4) (h5 : RowR w lo hi 93 2 A5 n5 c5 (wic ws)) (l5 : ws.length = n5) (hlo : lo ≤ m) (hm : m ≤ hi) :
    BigR w lo hi (.agg #[.int .i64 R, .slice A n c, .slice A2 n2 c2, .int .i64 E, .slice A4 n4 c4, .slice A5 n5 c5]) ⟨R, ns, ss, E, ou, ws⟩ := by
  subst hn l2 l4 l5
  refine ⟨⟨A, c, A2, c2, A4, c4, A5, c5, LA, LC⟩, rfl, ?_, ⟨(h.1.wide (Nat.le_refl _) hm).congr (fun x _ => rfl), fun k hk => (h.2.1 k hk).wide (Nat.le_refl _) hm⟩, h2.wide hlo (Nat.le_refl _), h4, h5⟩
  intro k hk hno
  refine ⟨fun e => ?_, fun j hj hjk e => ?_⟩
  · have hno : LA k ≠ none := hno
    rcases h.2.1 k hk with ⟨e0, -⟩ | ⟨g, f, e0, a1, a2, -⟩
    · exact hno e0
    · have := h2.in_ (g := g) (by rw [blk]; exact e.symm.trans e0)
      omega
  · have hno : LA k ≠ none := hno
    have e : LA j = LA k := e
    rcases Nat.lt_or_gt_of_ne hjk with hl | hl
    · exact h.2.2 j k hl hk hno e
    · exact h.2.2 k j hl hj (by rw [e]; exact hno) e.symm
end
theorem keep6 {X : World} {β γ : Nat} {t : TypeId} {v0 v1 v2 v3 v4 v5 : Value} (h : BoxAt X γ t v0 v1 v2 v3 v4 v5) (hne : γ ≠ β) (a b c d e f : Value) :
    ((((((X.setCell ⟨β, 0, none⟩ a).setCell ⟨β, 1, none⟩ b).setCell ⟨β, 2, none⟩ c).setCell ⟨β, 3, none⟩ d).setCell ⟨β, 4, none⟩ e).setCell ⟨β, 5, none⟩ f).cell? ⟨γ, 0, none⟩ = some v0 ∧ ((((((X.setCell ⟨β, 0, none⟩ a).setCell ⟨β, 1, none⟩ b).setCell ⟨β, 2, none⟩ c).setCell ⟨β, 3, none⟩ d).setCell ⟨β, 4, none⟩ e).setCell ⟨β, 5, none⟩ f).cell? ⟨γ, 1, none⟩ = some v1 ∧ ((((((X.setCell ⟨β, 0, none⟩ a).setCell ⟨β, 1, none⟩ b).setCell ⟨β, 2, none⟩ c).setCell ⟨β, 3, none⟩ d).setCell ⟨β, 4, none⟩ e).setCell ⟨β, 5, none⟩ f).cell? ⟨γ, 2, none⟩ = some v2 ∧ ((((((X.setCell ⟨β, 0, none⟩ a).setCell ⟨β, 1, none⟩ b).setCell ⟨β, 2, none⟩ c).setCell ⟨β, 3, none⟩ d).setCell ⟨β, 4, none⟩ e).setCell ⟨β, 5, none⟩ f).cell? ⟨γ, 3, none⟩ = some v3 ∧ ((((((X.setCell ⟨β, 0, none⟩ a).setCell ⟨β, 1, none⟩ b).setCell ⟨β, 2, none⟩ c).setCell ⟨β, 3, none⟩ d).setCell ⟨β, 4, none⟩ e).setCell ⟨β, 5, none⟩ f).cell? ⟨γ, 4, none⟩ = some v4 ∧ ((((((X.setCell ⟨β, 0, none⟩ a).setCell ⟨β, 1, none⟩ b).setCell ⟨β, 2, none⟩ c).setCell ⟨β, 3, none⟩ d).setCell ⟨β, 4, none⟩ e).setCell ⟨β, 5, none⟩ f).cell? ⟨γ, 5, none⟩ = some v5 := by
  have h6 := (show BoxAt (sets6 X β a b c d e f) γ t v0 v1 v2 v3 v4 v5 from World.rowIs.of_block h (sets6_block _ _ _ _ _ _ hne)).get
  unfold sets6 at h6
  exact h6
theorem pc_rts {R : Nat} {p : Int} (h : -(R : Int) ≤ p) : pcF (rtsF 0 R) 0 p = p := by
  by_cases h0 : p < 0
  · obtain ⟨k, rfl⟩ : ∃ k : Nat, p = -1 - (k : Int) := ⟨(-1 - p).toNat, by omega⟩
    rw [pcF_neg (rts_get (show k < R by omega))]
    omega
  · rw [pcF_pos h0]
    omega
def rkB (b : Big) (lks : List Int) (E : Int) (ou : List ByteArray) : Big := ⟨b.roots, (relB (lkF lks) b).nodes, b.sites, E, ou, (relB (lkF lks) b).inner⟩
theorem rk_nodes {b : Big} {R : Nat} {lks : List Int} (h : ∀ x ∈ b.nodes, -(R : Int) ≤ x.parent) : ndK b (rtsF 0 R) 0 lks = (relB (lkF lks) b).nodes := by
  unfold ndK relB
  exact List.map_congr_left (fun x hx => by rw [pc_rts (h x hx)])
theorem rk_sites {b : Big} {R : Nat} (h : ∀ z ∈ b.sites, -(R : Int) ≤ z) : b.sites.map (pcF (rtsF 0 R) 0) = b.sites := by
  conv => rhs; rw [← List.map_id b.sites]
  exact List.map_congr_left (fun z hz => pc_rts (h z hz))
set_option maxRecDepth 20000 in
set_option maxHeartbeats 12800000 in
theorem rel_any (v : Value) (cs : List Ctl) (b : Big) (Ak : Option Addr) (nk ck : Nat) (lks : List Int) (E : Int) (Ao : Option Addr) (no co : Nat) (ou : List ByteArray) (w : World) (hv : BigAt w w.heap.size v b) (hN : NilV v) (hg : bigB cs b = true) (hk : IntsAt w w.heap.size Ak nk lks) (hnk : nk ≤ 1000) (hlk : b.edges + b.outer.length ≤ (nk : Int)) (hou : SR w w.heap.size Ao no (ou.map Value.string)) (hno : no ≤ 100) (h0o : Ao = none → co = 0) :
    Calls Try.prog 85 #[v, .slice Ak nk ck, .int .i64 E, .slice Ao no co] w fun e w' => ∃ v', e = .returned v' ∧ BigR w' w.heap.size w'.heap.size v' (rkB b lks E ou) ∧ Below w.heap.size w w' := by
  have hNb := hN
  have hVb := hv
  obtain ⟨A1, n1, c1, A2, n2, c2, A4, n4, c4, A5, n5, c5, rfl, h1, h2, h4, h5⟩ := hv
  have hnil := hN.get
  have hbx := (Below.refl w.heap.size w).alloc (Nat.le_refl _) (.cells #[.int .i64 b.roots, .slice A1 n1 c1, .slice A2 n2 c2, .int .i64 b.edges, .slice A4 n4 c4, .slice A5 n5 c5] 28)
  have HBoxI : Hid (BoxAt (w.alloc (.cells #[.int .i64 b.roots, .slice A1 n1 c1, .slice A2 n2 c2, .int .i64 b.edges, .slice A4 n4 c4, .slice A5 n5 c5] 28)) w.heap.size 28 (.int .i64 b.roots) (.slice A1 n1 c1) (.slice A2 n2 c2) (.int .i64 b.edges) (.slice A4 n4 c4) (.slice A5 n5 c5)) := Lib.hid (six_new w _ _ _ _ _ _ _)
  obtain ⟨W0, hW0⟩ : ∃ W, w.alloc (.cells #[.int .i64 b.roots, .slice A1 n1 c1, .slice A2 n2 c2, .int .i64 b.edges, .slice A4 n4 c4, .slice A5 n5 c5] 28) = W := ⟨_, rfl⟩
  have hWz0 : W0.heap.size = w.heap.size + 1 := by rw [← hW0]; simp
  rw [hW0] at hbx HBoxI
  have hb0 := (Below.refl W0.heap.size W0).alloc (Nat.le_refl _) (.cells #[.int .i64 0, .slice none 0 0, .slice none 0 0, .int .i64 0, .slice none 0 0, .slice none 0 0] 28)
  have HBx0 : Hid (BoxAt (W0.alloc (.cells #[.int .i64 0, .slice none 0 0, .slice none 0 0, .int .i64 0, .slice none 0 0, .slice none 0 0] 28)) W0.heap.size 28 (.int .i64 0) (.slice none 0 0) (.slice none 0 0) (.int .i64 0) (.slice none 0 0) (.slice none 0 0)) := Lib.hid (six_new W0 _ _ _ _ _ _ _)
  have HBox := Lib.hid (HBoxI.out.on hb0)
  obtain ⟨W, hW⟩ : ∃ W, W0.alloc (.cells #[.int .i64 0, .slice none 0 0, .slice none 0 0, .int .i64 0, .slice none 0 0, .slice none 0 0] 28) = W := ⟨_, rfl⟩
  have hWz : W.heap.size = w.heap.size + 1 + 1 := by rw [← hW]; simp; exact hWz0
  rw [hW] at hb0 HBx0 HBox
  rw [hWz0] at HBx0
  have HWq0 := Lib.hid hW0
  have HWq := Lib.hid hW
  have HB0 := Lib.hid (hbx.trans (hb0.mono hbx.size))
  have HWz := Lib.hid hWz
  have hVW : BigAt W W.heap.size (.agg #[.int .i64 b.roots, .slice A1 n1 c1, .slice A2 n2 c2, .int .i64 b.edges, .slice A4 n4 c4, .slice A5 n5 c5]) b := BigAt.wide (BigAt.below ⟨_, _, _, _, _, _, _, _, _, _, _, _, rfl, h1, h2, h4, h5⟩ HB0.out) HB0.out.size
  clear hW0 hW hb0 hWz hWz0 hbx HBoxI hN
  have hz := sizes_of (big_of hg).2.1
  obtain ⟨R, hR⟩ : ∃ R : Nat, b.roots = R := ⟨b.roots.toNat, by omega⟩
  have hGs := good_sites hg
  have hlin : (∀ x ∈ b.nodes, ∀ l ∈ x.links, 0 ≤ l ∧ l < nk) ∧ ∀ x ∈ b.inner, 0 ≤ x.link ∧ x.link < nk := by
    refine ⟨fun x hx l hl => ?_, fun x hx => ?_⟩
    · obtain ⟨k, hk⟩ := List.getElem?_of_mem hx
      obtain ⟨i, hi⟩ := List.getElem?_of_mem hl
      have := inb_true (show inb l 0 (b.edges + b.outer.length - 1) = true from ((big_of hg).2.2.2.2.1 k x hk).2.2 i l hi)
      omega
    · obtain ⟨i, hi⟩ := List.getElem?_of_mem hx
      have := inb_true (show inb x.link 0 (b.edges + b.outer.length - 1) = true from (big_of hg).2.2.2.2.2.2 i x hi)
      omega
  have hpar : ∀ x ∈ b.nodes, -(R : Int) ≤ x.parent ∧ x.parent ≤ 1000 := fun x hx => by
    obtain ⟨k, hk⟩ := List.getElem?_of_mem hx
    have h1 := hGs.1 k x hk
    have h2 := hGs.2.1 k x hk
    have := (List.getElem?_eq_some_iff.1 hk).1
    omega
  have hsit : ∀ z ∈ b.sites, -(R : Int) ≤ z ∧ z ≤ 1048576 := fun z hz => by
    obtain ⟨k, hk⟩ := List.getElem?_of_mem hz
    have h1 := hGs.2.2.1 k z hk
    omega
  have hl1 : b.nodes.length = n1 := h1.1
  have hl2 : b.sites.length = n2 := h2.len
  have hl5 : b.inner.length = n5 := h5.1
  have HRt := Lib.hid (show ∀ Y : World, Calls Try.prog 122 #[.int .i64 0, .int .i64 b.roots] Y fun e w' => ∃ v, e = .returned v ∧ w'.ownsRow Y.heap.size 3 1 v R ((rtsF 0 R).map (Value.int .i64)) ∧ Below Y.heap.size Y w' from fun Y => by rw [hR]; exact rts_any 0 R Y (by omega) (by omega))
  have HNd := Lib.hid (fun (Az : Option Addr) (cz : Nat) (Y : World) (hY : Below w.heap.size w Y) (hzz : IntsAt Y Y.heap.size Az R (rtsF 0 R)) => (ndk_any (.agg #[.int .i64 b.roots, .slice A1 n1 c1, .slice A2 n2 c2, .int .i64 b.edges, .slice A4 n4 c4, .slice A5 n5 c5]) b 0 Az R cz (rtsF 0 R) Ak nk ck lks Y (BigAt.wide (BigAt.below ⟨_, _, _, _, _, _, _, _, _, _, _, _, rfl, h1, h2, h4, h5⟩ hY) hY.size) hzz ((hk.below hY).wide hY.size) (by omega) (by omega) (by omega) (by omega) hpar (fun x hx => links3 hg x hx) hlin.1).mono (R' := fun e w' => ∃ (A : Option Addr) (c : Nat) (LA : Nat → Option Addr) (LC : Nat → Nat), e = .returned (.slice A n1 c) ∧ NdR w' Y.heap.size w'.heap.size A n1 c LA LC (relB (lkF lks) b).nodes ∧ Below Y.heap.size Y w') (fun e w' h => by
    obtain ⟨v', xs, LA, LC, rfl, hs, hb⟩ := h
    obtain ⟨A, c, rfl, hr⟩ := ndr_of hs
    rw [rk_nodes (fun x hx => (hpar x hx).1), hl1] at hr
    exact ⟨A, c, LA, LC, by rw [hl1], hr, hb⟩))
  have HSt := Lib.hid (fun (Az : Option Addr) (cz : Nat) (Y : World) (hY : Below w.heap.size w Y) (hzz : IntsAt Y Y.heap.size Az R (rtsF 0 R)) => (sit_any Az R cz (rtsF 0 R) 0 (.agg #[.int .i64 b.roots, .slice A1 n1 c1, .slice A2 n2 c2, .int .i64 b.edges, .slice A4 n4 c4, .slice A5 n5 c5]) b Y (BigAt.wide (BigAt.below ⟨_, _, _, _, _, _, _, _, _, _, _, _, rfl, h1, h2, h4, h5⟩ hY) hY.size) hNb hzz (by omega) (by omega) (by omega) hsit).mono (R' := fun e w' => ∃ (A : Option Addr) (c : Nat), e = .returned (.slice A n2 c) ∧ RowR w' Y.heap.size w'.heap.size 3 1 A n2 c (iat b.sites) ∧ Below Y.heap.size Y w') (fun e w' h => by
    obtain ⟨A, c, rfl, hr, hb⟩ := h
    rw [rk_sites (fun z hz => (hsit z hz).1), hl2] at hr
    exact ⟨A, c, by rw [hl2], hr, hb⟩))
  have HWi := Lib.hid (fun (Y : World) (hY : Below w.heap.size w Y) => (wrk_any (.agg #[.int .i64 b.roots, .slice A1 n1 c1, .slice A2 n2 c2, .int .i64 b.edges, .slice A4 n4 c4, .slice A5 n5 c5]) b Ak nk ck lks Y (BigAt.wide (BigAt.below ⟨_, _, _, _, _, _, _, _, _, _, _, _, rfl, h1, h2, h4, h5⟩ hY) hY.size) ((hk.below hY).wide hY.size) (by omega) (by omega) hlin.2).mono (R' := fun e w' => ∃ (A : Option Addr) (c : Nat), e = .returned (.slice A n5 c) ∧ RowR w' Y.heap.size w'.heap.size 93 2 A n5 c (wic (relB (lkF lks) b).inner) ∧ Below Y.heap.size Y w') (fun e w' h => by
    obtain ⟨A, c, rfl, hr, hb⟩ := h
    rw [hl5] at hr
    exact ⟨A, c, by rw [hl5], hr, hb⟩))
  have HOu := Lib.hid hou
  have HOl := Lib.hid hou.strlen
  have HLe := Lib.hid (show (relB (lkF lks) b).nodes.length = n1 ∧ b.sites.length = n2 ∧ (relB (lkF lks) b).inner.length = n5 from ⟨by simp only [relB, List.length_map]; exact hl1, hl2, by simp only [relB, List.length_map]; exact hl5⟩)
  have HO1 : Hid (∀ u ∈ ou.map Value.string, u.oneCell' = true) := Lib.hid (fun u hu => by obtain ⟨s, -, rfl⟩ := List.mem_map.1 hu; rfl)
  have HOL : Hid ((ou.map Value.string).length = no * 1) := Lib.hid (by rw [List.length_map, Nat.mul_one]; exact hou.strlen)
  have HZ4 := Lib.hid (fun e : Ao = none => And.intro (sr_zero hou e) (h0o e))
  have e1 : 0 + no ≤ maxLen := by unfold maxLen; omega
  have e2 : (0 + no) * 16 ≤ 140737488355328 := by omega
  obtain ⟨i0, hi, hz0, hz1, hz2⟩ := info_parts str_info
  have HI0 := Lib.hid (And.intro hi (And.intro hz0 (And.intro hz1 hz2)))
  have hWz : W.heap.size = w.heap.size + 1 + 1 := HWz.out
  clear hVW hz hR hGs hlin hpar hsit hl1 hl2 hl5 hg hou hk hlk h1 h2 h4 h5 hVb hNb hnil hi hz0 hz1 hz2
  obtain ⟨x0, x1, x2, x3, x4, x5⟩ := HBox.out.get
  go_enter Try.func85, Try.ntmps85
  go_wp2_with fail
  rw [HWq0.out, HWq.out]
  go_wp2_with fail
  refine (HRt.out W).mono ?_
  rintro e U ⟨vr, rfl, hor, hb⟩
  obtain ⟨Ar, cr, rfl, hrr⟩ := ints_owned hor
  rw [rts_len] at hrr ⊢
  have hU := HB0.out.trans (hb.mono HB0.out.size)
  have HU := Lib.hid hU
  have HBoxU := Lib.hid (HBox.out.on hb)
  have HBxU := Lib.hid (HBx0.out.on hb)
  have hUs := hb.size
  have HRr : Hid (∀ Y, Below U.heap.size U Y → IntsAt Y Y.heap.size Ar R (rtsF 0 R)) := Lib.hid (fun Y hY => by
    have h := rowR_here (hrr.on hY)
    have h2 := intsR_at (zs := rtsF 0 R) (by rw [rts_len]; exact h)
    rw [rts_len] at h2
    exact h2)
  have HS : Hid (∀ w', Below U.heap.size U w' → w'.cell? ⟨w.heap.size, 0, none⟩ = some (.int .i64 b.roots) ∧ w'.cell? ⟨w.heap.size, 1, none⟩ = some (.slice A1 n1 c1) ∧ w'.cell? ⟨w.heap.size, 2, none⟩ = some (.slice A2 n2 c2) ∧ w'.cell? ⟨w.heap.size, 3, none⟩ = some (.int .i64 b.edges) ∧ w'.cell? ⟨w.heap.size, 4, none⟩ = some (.slice A4 n4 c4) ∧ w'.cell? ⟨w.heap.size, 5, none⟩ = some (.slice A5 n5 c5)) := Lib.hid (fun w' hq => (HBoxU.out.on hq).get)
  have hwne : w.heap.size ≠ w.heap.size + 1 := by omega
  have hkD := (Below.refl U.heap.size U).drew
  have hkA := ((Below.refl U.heap.size U).alloc (Nat.le_refl _) (.cells #[] 9)).drew
  have hzA : (U.alloc (.cells #[] 9)).drew.heap[U.heap.size]? = some (.cells #[] 9) := World.alloc_heap_new U (.cells #[] 9)
  have hwt : ∀ Y, Below U.heap.size U Y → Below w.heap.size w Y := fun Y hY => HU.out.trans (hY.mono HU.out.size)
  have HWt := Lib.hid hwt
  clear hor hrr hb hU x0 x1 x2 x3 x4 x5 HRt hwt
  obtain ⟨x0, x1, x2, x3, x4, x5⟩ := HBoxU.out.get
  go_wp2_with fail
  clear x0 x1 x2 x3 x4 x5
  go_region_held3 (fun w' => w'.cell? ⟨w.heap.size, 0, none⟩ = some (.int .i64 b.roots) ∧ w'.cell? ⟨w.heap.size, 1, none⟩ = some (.slice A1 n1 c1) ∧ w'.cell? ⟨w.heap.size, 2, none⟩ = some (.slice A2 n2 c2) ∧ w'.cell? ⟨w.heap.size, 3, none⟩ = some (.int .i64 b.edges) ∧ w'.cell? ⟨w.heap.size, 4, none⟩ = some (.slice A4 n4 c4) ∧ w'.cell? ⟨w.heap.size, 5, none⟩ = some (.slice A5 n5 c5))
    (first | with_reducible exact keep6 (HBoxU.out.on hk8) hwne _ _ _ _ _ _ | exact HS.out _ (by go_grown))
    (first
     | (go_at_call 123; refine (HNd.out Ar cr ((U.alloc (.cells #[] 9)).drew) (HWt.out _ hkA) (HRr.out _ hkA)).mono ?_; rintro e w5 ⟨Nn, cn, LA, LC, rfl, hn5, hb⟩; have hz5 : w5.heap[U.heap.size]? = some (.cells #[] 9) := (hb.block _ (by simp)).trans hzA; have hg5 := Nat.le_refl U.heap.size; have hk5 := hkA.trans (hb.mono hkA.size); have hs5 := hk5.size; have hN5 := hn5.wide (lo' := U.heap.size) hkA.size (Nat.le_refl _); clear hb hn5)
     | (go_at_call 123; refine (HNd.out Ar cr U.drew (HWt.out _ hkD) (HRr.out _ hkD)).mono ?_; rintro e w5 ⟨Nn, cn, LA, LC, rfl, hn5, hb⟩; have hk5 := hkD.trans (hb.mono hkD.size); have hs5 := hk5.size; have hN5 := hn5.wide (lo' := U.heap.size) hkD.size (Nat.le_refl _); clear hb hn5)
     | (have hTest := hz5; go_at_call 124; refine (HSt.out Ar cr w5 (HWt.out _ hk5) (HRr.out _ hk5)).mono ?_; rintro e w6 ⟨Ns, cs2, rfl, hs6', hb⟩; have hz6 := (hb.block U.heap.size (Array.getElem?_eq_some_iff.1 hz5).1).trans hz5; have hg6 := hg5; clear hTest; have hk6 := hk5.trans (hb.mono hk5.size); have hs6 := hk6.size; have hN6 := hN5.on hb; have hS6 := hs6'; have h56 := hb.size; clear hb hs6')
     | (go_at_call 124; refine (HSt.out Ar cr (w5.alloc (.cells #[] 9)) (HWt.out _ (hk5.alloc hk5.size _)) (HRr.out _ (hk5.alloc hk5.size _))).mono ?_; rintro e w6 ⟨Ns, cs2, rfl, hs6', hb⟩; have hz6 : w6.heap[w5.heap.size]? = some (.cells #[] 9) := (hb.block _ (by simp)).trans (World.alloc_heap_new w5 (.cells #[] 9)); have hg6 := hk5.size; have hkA5 := hk5.alloc hk5.size (.cells #[] 9); have hk6 := hkA5.trans (hb.mono hkA5.size); have hs6 := hk6.size; have hN6 := (hN5.on ((Below.refl w5.heap.size w5).alloc (Nat.le_refl _) (.cells #[] 9))).on hb; have h55 := ((Below.refl w5.heap.size w5).alloc (Nat.le_refl _) (.cells #[] 9)).size; have hS6 := hs6'.wide (lo' := w5.heap.size) h55 (Nat.le_refl _); have h56 := Nat.le_trans h55 hb.size; clear hb hs6' hkA5)
     | (go_at_call 124; refine (HSt.out Ar cr w5 (HWt.out _ hk5) (HRr.out _ hk5)).mono ?_; rintro e w6 ⟨Ns, cs2, rfl, hs6', hb⟩; have hk6 := hk5.trans (hb.mono hk5.size); have hs6 := hk6.size; have hN6 := hN5.on hb; have hS6 := hs6'; have h56 := hb.size; clear hb hs6')
     | (have hTest := hz6; refine step_append_src rfl _ _ 22 rfl U.heap.size 9 i0 (.string ⟨#[]⟩) 1 16 Try.underlying22 HI0.out.1 HI0.out.2.1 HI0.out.2.2.1 HI0.out.2.2.2 rfl (by decide) _ _ _ (by first | rfl | simp [Act.eval, Act.put]) (nil_at hz6 hg6) Ao no co (ou.map Value.string) (by first | rfl | simp [Act.eval, Act.put]) HZ4.out HOL.out (sr_src (HOu.out.below (HWt.out _ hk6))) HO1.out e1 e2 hs6 ?_; intro v1 w7 hown1 hgrow1; have hzo : w6.ownsRow U.heap.size 9 1 _ 0 [] := nil_at hz6 hg6; have hk7 := hk6.grown hgrow1 hs6 (fun j hj => (hzo.lt j hj).1); have hs7 := hk7.size; have h67 := hgrow1.size; have hN7 := hN6.grown hzo hgrow1; have hS7 := row_grown hS6 hzo hgrow1 (by decide); rw [Nat.zero_add, List.nil_append] at hown1; obtain ⟨No, co2, rfl, -⟩ := rowR_owns hown1; have hr4 := owned_strs2 hown1 HOl.out; clear hown1 hgrow1 hTest hzo;)
     | (refine step_append_src rfl _ _ 22 rfl U.heap.size 9 i0 (.string ⟨#[]⟩) 1 16 Try.underlying22 HI0.out.1 HI0.out.2.1 HI0.out.2.2.1 HI0.out.2.2.2 rfl (by decide) _ _ _ (by first | rfl | simp [Act.eval, Act.put]) (nil_at (World.alloc_heap_new w6 (.cells #[] 9)) hs6) Ao no co (ou.map Value.string) (by first | rfl | simp [Act.eval, Act.put]) HZ4.out HOL.out (sr_src (HOu.out.below (HWt.out _ (hk6.alloc hk6.size _)))) HO1.out e1 e2 ((hk6.alloc hk6.size (.cells #[] 9)).size) ?_; intro v1 w7 hown1 hgrow1; have hzo : (w6.alloc (.cells #[] 9)).ownsRow U.heap.size 9 1 _ 0 [] := nil_at (World.alloc_heap_new w6 (.cells #[] 9)) hs6; have hkA6 := hk6.alloc hk6.size (.cells #[] 9); have hk7 := hkA6.grown hgrow1 hkA6.size (fun j hj => (hzo.lt j hj).1); have hs7 := hk7.size; have h67 := Nat.le_trans ((Below.refl w6.heap.size w6).alloc (Nat.le_refl _) (.cells #[] 9)).size hgrow1.size; have hN7 := (hN6.on ((Below.refl w6.heap.size w6).alloc (Nat.le_refl _) (.cells #[] 9))).grown hzo hgrow1; have hS7 := row_grown (hS6.on ((Below.refl w6.heap.size w6).alloc (Nat.le_refl _) (.cells #[] 9))) hzo hgrow1 (by decide); rw [Nat.zero_add, List.nil_append] at hown1; obtain ⟨No, co2, rfl, -⟩ := rowR_owns hown1; have hr4 := owned_strs2 hown1 HOl.out; clear hown1 hgrow1 hzo hkA6;)
     | (go_at_call 125; refine (HWi.out w7 (HWt.out _ hk7)).mono ?_; rintro e w8 ⟨Nw, cw, rfl, hw8, hb⟩; have hk8 := hk7.trans (hb.mono hk7.size); have hs8 := hk8.size; have h78 := hb.size; have hN8 := hN7.on hb; have hS8 := hS7.on hb; have hO8 := hr4.on hb; have hBx8 := HBxU.out.on hk8; obtain ⟨z0, z1, z2, z3, z4, z5⟩ := hBx8.get; have f0 := World.rowIs.frozen hBx8 0; have f1 := World.rowIs.frozen hBx8 1; have f2 := World.rowIs.frozen hBx8 2; have f3 := World.rowIs.frozen hBx8 3; have f4 := World.rowIs.frozen hBx8 4; have f5 := World.rowIs.frozen hBx8 5; clear hBx8; clear hb))
  all_goals (
    have h68 := Nat.le_trans h67 h78
    have hR8 := big_parts (R := b.roots) (E := E) hN8 HLe.out.1 (hS8.wide (Nat.le_refl _) h68) HLe.out.2.1 (hO8.wide (Nat.le_refl _) h78) HOl.out (hw8.wide hs7 (Nat.le_refl _)) HLe.out.2.2 hs5 (Nat.le_trans h56 h68)
    have HR8 := Lib.hid (hR8.wide (lo' := w.heap.size) HU.out.size (Nat.le_refl _))
    have HB8 := Lib.hid (HWt.out _ hk8)
    have HBx8 := Lib.hid (HBxU.out.on hk8)
    clear hR8 hN8 hS8 hO8 hw8 hk8 hk7 hk6 hk5
    go_wp2_with fail
    have hbig := (sets6_big HBx8.out HR8.out (.int .i64 b.roots) (.slice Nn n1 cn) (.slice Ns n2 cs2) (.int .i64 E) (.slice No no co2) (.slice Nw n5 cw)).here
    have hbel := sets6_below HB8.out (Nat.le_succ w.heap.size) (.int .i64 b.roots) (.slice Nn n1 cn) (.slice Ns n2 cs2) (.int .i64 E) (.slice No no co2) (.slice Nw n5 cw)
    unfold sets6 at hbig hbel
    exact bodyPost_ret (v := .agg #[.int .i64 b.roots, .slice Nn n1 cn, .slice Ns n2 cs2, .int .i64 E, .slice No no co2, .slice Nw n5 cw]) (by simp [results, Try.results85, go_sem, z0, z1, z2, z3, z4, z5]) rfl ⟨_, rfl, hbig, hbel⟩)
end Go.Proofs.Ytmcdbhlpmlcjpaa.rk
