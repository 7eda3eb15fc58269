/- spec.l4Under: a Bigraph under the sites of another one. -/
import Derived.Test.YtlpgldejmdiceabGreatNj
import Derived.Test.YtlpgldejmdiceabGreatGt
namespace Go.Proofs.YtlpgldejmdiceabGreat.us
open kit bg sg opn strs only hb sig isig un over gn nm inn ht gd im pt marks eqs hc hi hw hn rs br bm bw cf lf ib isa lawb lw cl pl mb sb wb ek rn rnm tp wk rl ed mrp mrs nk idl lep psp rk cc cg uw nj co tm ft gv
open Go.RowKit
set_option linter.unusedVariables false
set_option linter.unusedSimpArgs false
/-- an empty row stays where a row of another type grows -/
theorem nil_keep {w w' : World} {g base sz m : Nat} {t e : TypeId} {v : Value} {xs : List Value} (hz : w.heap[g]? = some (.cells #[] t)) (ho : w.ownsRow base e sz v m xs) (hg : w.grownBy w' v.ownBlock) (ht : t ≠ e) : w'.heap[g]? = some (.cells #[] t) := by
  rw [hg.block g (Array.getElem?_eq_some_iff.1 hz).1 ?_]
  · exact hz
  · intro e2
    obtain ⟨_, ⟨rfl, rfl⟩ | ⟨g', cap, cur, rfl, hb, hh, -⟩⟩ := ho
    · simp [Value.ownBlock] at e2
    · simp [Value.ownBlock] at e2
      subst e2
      rw [hz] at hh
      injection hh with hh
      injection hh with _ hh
      exact ht hh
theorem own_low {w : World} {B B' sz n : Nat} {e : TypeId} {v : Value} {xs : List Value} (h : w.ownsRow B' e sz v n xs) (hB : B ≤ B') : w.ownsRow B e sz v n xs := by
  refine ⟨h.1, ?_⟩
  rcases h.2 with h0 | ⟨g, cap, cur, e1, hb, r⟩
  · exact .inl h0
  · exact .inr ⟨g, cap, cur, e1, Nat.le_trans hB hb, r⟩
/-- the cells of Nodes in memory of their own -/
structure NdO (w : World) (lo mid : Nat) (v : Value) (n : Nat) (LA : Nat → Option Addr) (LC : Nat → Nat) (ns : List Nd) (xs : List Value) : Prop where
  own : w.ownsRow lo 96 3 v n xs
  get : ∀ j, j < ns.length * 3 → xs[j]? = some (ndv ns (lsF ns LA LC) j)
  row : ∀ i, i < ns.length → RowR w lo mid 3 1 (LA i) (lnOf ns i) (LC i) (iat (linksOf ns i))
  ne : ∀ i j, i < j → j < ns.length → LA j ≠ none → LA i ≠ LA j
theorem ndo_of {w : World} {lo n : Nat} {ns : List Nd} {v : Value} {xs : List Value} {LA : Nat → Option Addr} {LC : Nat → Nat} (h : NkS w lo ns n v xs LA LC) (hn : ns.length = n) {lo' : Nat} (hl : lo' ≤ lo) : NdO w lo' w.heap.size v n LA LC ns xs := by
  subst hn
  exact ⟨own_low h.own hl, h.get, fun i hi => (h.row i hi).wide hl (Nat.le_refl _), h.ne⟩
theorem NdO.on {w w' : World} {lo mid n : Nat} {ns : List Nd} {v : Value} {xs : List Value} {LA : Nat → Option Addr} {LC : Nat → Nat} (h : NdO w lo mid v n LA LC ns xs) (hb : Below w.heap.size w w') : NdO w' lo mid v n LA LC ns xs :=
  ⟨owns_on h.own hb, h.get, fun i hi => (h.row i hi).on hb, h.ne⟩
theorem NdO.src {w : World} {lo mid n : Nat} {ns : List Nd} {v : Value} {xs : List Value} {LA : Nat → Option Addr} {LC : Nat → Nat} (h : NdO w lo mid v n LA LC ns xs) : ∃ A c, v = .slice A n c ∧ (A = none → n = 0 ∧ c = 0) ∧ xs.length = n * 3 ∧ ∀ ad, A = some ad → ∀ (j : Nat) u, xs[j]? = some u → w.cell? (ad.add j) = some u := by
  rcases h.own.2 with ⟨rfl, rfl⟩ | ⟨g, cap, cur, rfl, h1, h2, h3, h4, h5, h6⟩
  · exact ⟨none, 0, rfl, fun _ => ⟨rfl, rfl⟩, h.own.1, fun ad e => by cases e⟩
  · refine ⟨_, cap, rfl, fun e => (by cases e), h.own.1, fun ad e => ?_⟩
    injection e with e
    subst e
    exact World.ownsRow.cells h.own rfl
theorem NdO.one {w : World} {lo mid n : Nat} {ns : List Nd} {v : Value} {xs : List Value} {LA : Nat → Option Addr} {LC : Nat → Nat} (h : NdO w lo mid v n LA LC ns xs) (hn : ns.length = n) : ∀ u ∈ xs, u.oneCell' = true := fun u hu => by
  obtain ⟨j, hj⟩ := List.getElem?_of_mem hu
  have hjl := (List.getElem?_eq_some_iff.1 hj).1
  rw [h.own.1, ← hn] at hjl
  rw [h.get j hjl] at hj
  injection hj with hj
  rw [← hj]
  exact one_ndv ns LA LC j hjl
theorem NdO.low {w : World} {lo lo' mid n : Nat} {ns : List Nd} {v : Value} {xs : List Value} {LA : Nat → Option Addr} {LC : Nat → Nat} (h : NdO w lo mid v n LA LC ns xs) (hl : lo' ≤ lo) : NdO w lo' mid v n LA LC ns xs :=
  ⟨own_low h.own hl, h.get, fun i hi => (h.row i hi).wide hl (Nat.le_refl _), h.ne⟩
theorem NdO.cells {w : World} {lo mid n c : Nat} {A : Option Addr} {ns : List Nd} {xs : List Value} {LA : Nat → Option Addr} {LC : Nat → Nat} (h : NdO w lo mid (.slice A n c) n LA LC ns xs) : (A = none → n = 0 ∧ c = 0) ∧ xs.length = n * 3 ∧ ∀ ad, A = some ad → ∀ (j : Nat) u, xs[j]? = some u → w.cell? (ad.add j) = some u := by
  obtain ⟨A', c', e, h1, h2, h3⟩ := h.src
  injection e with e1 _ e2
  subst e1 e2
  exact ⟨h1, h2, h3⟩
/-- two rows appended -/
theorem ndo_join {w w' : World} {lo mid hi n m : Nat} {ns ms : List Nd} {v v' : Value} {xs ys : List Value} {LA LB : Nat → Option Addr} {LC LD : Nat → Nat} {u : Value} (h : NdO w lo mid v n LA LC ns xs) (k : NdO w mid hi u m LB LD ms ys) (hn : ns.length = n) (hm : ms.length = m) (hlm : lo ≤ mid) (hmi : mid ≤ hi) (hiw : hi ≤ w'.heap.size)
    (ho : w'.ownsRow lo 96 3 v' (n + m) (xs ++ ys)) (hg : w.grownBy w' v.ownBlock) : ∃ A c, v' = .slice A (n + m) c ∧ NdR w' lo w'.heap.size A (n + m) c (jn n LA LB) (jn n LC LD) (ns ++ ms) := by
  subst hn hm
  obtain ⟨A, c, e, hr⟩ := rowR_owns ho
  exact ⟨A, c, e, ndr_join hlm (Nat.le_trans hmi hiw) rfl hr h.own.1 h.get k.get (fun i hi => row_grown (h.row i hi) h.own hg (by decide)) h.ne (fun i hi => (row_grown (k.row i hi) h.own hg (by decide)).wide (Nat.le_refl _) hiw) k.ne⟩
theorem nd_under {b : Big} {zs : List Int} {N : Int} {lks : List Int} : ndK b zs N lks = (plB (pcF zs N) (relB (lkF lks) b)).nodes := by
  unfold ndK plB relB
  rw [List.map_map]
  rfl
/-- the row of links of two parts -/
theorem lks_own {w : World} {lo n m : Nat} {v : Value} {xs ys : List Int} (h : w.ownsRow lo 3 1 v (n + m) (xs.map (Value.int .i64) ++ ys.map (Value.int .i64))) (hn : xs.length = n) (hm : ys.length = m) : ∃ A c, v = .slice A (n + m) c ∧ RowR w lo w.heap.size 3 1 A (n + m) c (iat (xs ++ ys)) := by
  rw [← List.map_append] at h
  obtain ⟨A, c, e, hr⟩ := ints_owned h
  rw [List.length_append, hn, hm] at e hr
  exact ⟨A, c, e, hr⟩
theorem row_ints {w : World} {lo hi n c : Nat} {A : Option Addr} {zs : List Int} (h : RowR w lo hi 3 1 A n c (iat zs)) (hn : zs.length = n) : IntsAt w w.heap.size A n zs := by
  subst hn
  exact intsR_at (rowR_here h)
theorem flat12 {a0 a1 a2 a3 a4 a5 b0 b1 b2 b3 b4 b5 : Prop} (h : a0 ∧ a1 ∧ a2 ∧ a3 ∧ a4 ∧ a5) (k : b0 ∧ b1 ∧ b2 ∧ b3 ∧ b4 ∧ b5) : a0 ∧ a1 ∧ a2 ∧ a3 ∧ a4 ∧ a5 ∧ b0 ∧ b1 ∧ b2 ∧ b3 ∧ b4 ∧ b5 := ⟨h.1, h.2.1, h.2.2.1, h.2.2.2.1, h.2.2.2.2.1, h.2.2.2.2.2, k⟩
set_option maxRecDepth 20000 in
set_option maxHeartbeats 25600000 in
theorem und_any (cs : List Ctl) (va : Value) (a : Big) (vb : Value) (b : Big) (Ao : Option Addr) (no co : Nat) (ou : List ByteArray) (Ak : Option Addr) (nk ck : Nat) (ab : List Int) (Al : Option Addr) (nl cl : Nat) (bl : List Int) (w : World) (hva : BigAt w w.heap.size va a) (hSa : BigS a) (hNa : NilV va) (hga : bigB cs a = true) (hvb : BigAt w w.heap.size vb b) (hSb : BigS b) (hNb : NilV vb) (hgb : bigB cs b = true)
    (hou : SR w w.heap.size Ao no (ou.map Value.string)) (hno : no ≤ 100) (h0o : Ao = none → co = 0) (hk : IntsAt w w.heap.size Ak nk ab) (hnk : nk = a.outer.length) (h0k : Ak = none → ck = 0) (hl : IntsAt w w.heap.size Al nl bl) (hnl : nl = b.outer.length) (h0l : Al = none → cl = 0) (hsr : (a.sites.length : Int) = b.roots) :
    Calls Tryz.prog 77 #[va, vb, .slice Ao no co, .slice Ak nk ck, .slice Al nl cl] w fun e w' => ∃ v, e = .returned v ∧ BigR w' w.heap.size w'.heap.size v (udB a b ou (seqF 0 a.edges.toNat ++ ab) (seqF a.edges b.edges.toNat ++ bl)) ∧ Below w.heap.size w w' := by
  obtain ⟨A1, n1, c1, A2, n2, c2, A4, n4, c4, A5, n5, c5, rfl, h1, h2, h4, h5⟩ := hva
  obtain ⟨B1, m1, d1, B2, m2, d2, B4, m4, d4, B5, m5, d5, rfl, k1, k2, k4, k5⟩ := hvb
  have hb0 := (Below.refl w.heap.size w).alloc (Nat.le_refl _) (.cells #[.int .i64 a.roots, .slice A1 n1 c1, .slice A2 n2 c2, .int .i64 a.edges, .slice A4 n4 c4, .slice A5 n5 c5] 31)
  have HBa0 : BoxAt (w.alloc (.cells #[.int .i64 a.roots, .slice A1 n1 c1, .slice A2 n2 c2, .int .i64 a.edges, .slice A4 n4 c4, .slice A5 n5 c5] 31)) w.heap.size 31 (.int .i64 a.roots) (.slice A1 n1 c1) (.slice A2 n2 c2) (.int .i64 a.edges) (.slice A4 n4 c4) (.slice A5 n5 c5) := six_new w _ _ _ _ _ _ _
  obtain ⟨U, hU⟩ : ∃ U, w.alloc (.cells #[.int .i64 a.roots, .slice A1 n1 c1, .slice A2 n2 c2, .int .i64 a.edges, .slice A4 n4 c4, .slice A5 n5 c5] 31) = U := ⟨_, rfl⟩
  have hUz : U.heap.size = w.heap.size + 1 := by rw [← hU]; simp
  rw [hU] at HBa0 hb0
  have hb1 := (Below.refl U.heap.size U).alloc (Nat.le_refl _) (.cells #[.int .i64 b.roots, .slice B1 m1 d1, .slice B2 m2 d2, .int .i64 b.edges, .slice B4 m4 d4, .slice B5 m5 d5] 31)
  have HBb0 : BoxAt (U.alloc (.cells #[.int .i64 b.roots, .slice B1 m1 d1, .slice B2 m2 d2, .int .i64 b.edges, .slice B4 m4 d4, .slice B5 m5 d5] 31)) U.heap.size 31 (.int .i64 b.roots) (.slice B1 m1 d1) (.slice B2 m2 d2) (.int .i64 b.edges) (.slice B4 m4 d4) (.slice B5 m5 d5) := six_new U _ _ _ _ _ _ _
  obtain ⟨W, hW⟩ : ∃ W, U.alloc (.cells #[.int .i64 b.roots, .slice B1 m1 d1, .slice B2 m2 d2, .int .i64 b.edges, .slice B4 m4 d4, .slice B5 m5 d5] 31) = W := ⟨_, rfl⟩
  have hWz : W.heap.size = w.heap.size + 2 := by rw [← hW]; simp; omega
  rw [hW] at HBb0 hb1
  rw [hUz] at HBb0
  have hb2 := (Below.refl W.heap.size W).alloc (Nat.le_refl _) (.cells #[.int .i64 0, .slice none 0 0, .slice none 0 0, .int .i64 0, .slice none 0 0, .slice none 0 0] 31)
  have HBr0 : BoxAt (W.alloc (.cells #[.int .i64 0, .slice none 0 0, .slice none 0 0, .int .i64 0, .slice none 0 0, .slice none 0 0] 31)) W.heap.size 31 (.int .i64 0) (.slice none 0 0) (.slice none 0 0) (.int .i64 0) (.slice none 0 0) (.slice none 0 0) := six_new W _ _ _ _ _ _ _
  obtain ⟨X, hX⟩ : ∃ X, W.alloc (.cells #[.int .i64 0, .slice none 0 0, .slice none 0 0, .int .i64 0, .slice none 0 0, .slice none 0 0] 31) = X := ⟨_, rfl⟩
  have hXz : X.heap.size = w.heap.size + 3 := by rw [← hX]; simp; omega
  rw [hX] at HBr0 hb2
  rw [hWz] at HBr0
  have HUq := Lib.hid hU
  have HWq := Lib.hid hW
  have HXq := Lib.hid hX
  have HB0 := Lib.hid (hb0.trans ((hb1.trans (hb2.mono hb1.size)).mono hb0.size))
  have HBa := Lib.hid ((HBa0.on hb1).on hb2)
  have HBb := Lib.hid (HBb0.on hb2)
  have HBr := Lib.hid HBr0
  have HXz := Lib.hid hXz
  have hVa := Lib.hid (fun (Y : World) (hY : Below w.heap.size w Y) => (BigAt.wide (BigAt.below ⟨_, _, _, _, _, _, _, _, _, _, _, _, rfl, h1, h2, h4, h5⟩ hY) hY.size : BigAt Y Y.heap.size (.agg #[.int .i64 a.roots, .slice A1 n1 c1, .slice A2 n2 c2, .int .i64 a.edges, .slice A4 n4 c4, .slice A5 n5 c5]) a))
  have hVb := Lib.hid (fun (Y : World) (hY : Below w.heap.size w Y) => (BigAt.wide (BigAt.below ⟨_, _, _, _, _, _, _, _, _, _, _, _, rfl, k1, k2, k4, k5⟩ hY) hY.size : BigAt Y Y.heap.size (.agg #[.int .i64 b.roots, .slice B1 m1 d1, .slice B2 m2 d2, .int .i64 b.edges, .slice B4 m4 d4, .slice B5 m5 d5]) b))
  clear hU hW hX hb0 hb1 hb2 HBa0 HBb0 HBr0 hUz hWz hXz
  have hya := sizes_of (big_of hga).2.1
  have hyb := sizes_of (big_of hgb).2.1
  have l1 : a.nodes.length = n1 := h1.1
  have l2 : a.sites.length = n2 := h2.len
  have q1 : b.nodes.length = m1 := k1.1
  have q2 : b.sites.length = m2 := k2.len
  have q5 : b.inner.length = m5 := k5.1
  obtain ⟨R, hR⟩ : ∃ R : Nat, a.roots = R := ⟨a.roots.toNat, by omega⟩
  obtain ⟨E, hE⟩ : ∃ E : Nat, a.edges = E := ⟨a.edges.toNat, by omega⟩
  obtain ⟨F, hF⟩ : ∃ F : Nat, b.edges = F := ⟨b.edges.toNat, by omega⟩
  have pa := par_le hga
  have pb := par_le hgb
  have la := big_lks hga
  have lb := big_lks hgb
  have hlk : ab.length = nk := hk.len
  have hll : bl.length = nl := hl.len
  have HRt := Lib.hid (show ∀ Y : World, Calls Tryz.prog 100 #[.int .i64 0, .int .i64 a.roots] Y fun e w' => ∃ v, e = .returned v ∧ w'.ownsRow Y.heap.size 3 1 v R ((rtsF 0 R).map (Value.int .i64)) ∧ Below Y.heap.size Y w' from fun Y => by rw [hR]; exact rts_any 0 R Y (by omega) (by omega))
  have HEa := Lib.hid (show ∀ Y : World, Calls Tryz.prog 76 #[.int .i64 0, .int .i64 a.edges] Y fun e w' => ∃ v, e = .returned v ∧ w'.ownsRow Y.heap.size 3 1 v E ((seqF 0 E).map (Value.int .i64)) ∧ Below Y.heap.size Y w' from fun Y => by rw [hE]; exact edg_any 0 E Y (by omega) (by omega))
  have HEb := Lib.hid (show ∀ Y : World, Calls Tryz.prog 76 #[.int .i64 a.edges, .int .i64 b.edges] Y fun e w' => ∃ v, e = .returned v ∧ w'.ownsRow Y.heap.size 3 1 v F ((seqF a.edges F).map (Value.int .i64)) ∧ Below Y.heap.size Y w' from fun Y => by rw [hF]; exact edg_any a.edges F Y (by omega) (by omega))
  have hEt : a.edges.toNat = E := by omega
  have hFt : b.edges.toNat = F := by omega
  rw [hEt, hFt]
  obtain ⟨lf, hlf⟩ : ∃ lf, seqF 0 E ++ ab = lf := ⟨_, rfl⟩
  obtain ⟨rg, hrg⟩ : ∃ rg, seqF a.edges F ++ bl = rg := ⟨_, rfl⟩
  rw [hlf, hrg]
  have hlfl : lf.length = E + nk := by rw [← hlf, List.length_append, seq_len, hlk]
  have hrgl : rg.length = F + nl := by rw [← hrg, List.length_append, seq_len, hll]
  have hp0 : ∀ z ∈ a.sites, -(R : Int) ≤ z ∧ z ≤ 1048576 := fun z hz => by have := pa.2 z hz; omega
  have HHo := Lib.hid (fun (Az : Option Addr) (cz : Nat) (Y : World) (hY : Below w.heap.size w Y) (hzz : IntsAt Y Y.heap.size Az R (rtsF 0 R)) => (sit_any Az R cz (rtsF 0 R) 0 (.agg #[.int .i64 a.roots, .slice A1 n1 c1, .slice A2 n2 c2, .int .i64 a.edges, .slice A4 n4 c4, .slice A5 n5 c5]) a Y (hVa.out Y hY) hNa hzz (by omega) (by omega) (by omega) hp0).mono (R' := fun e w' => ∃ (A : Option Addr) (c : Nat), e = .returned (.slice A n2 c) ∧ RowR w' Y.heap.size w'.heap.size 3 1 A n2 c (iat a.sites) ∧ Below Y.heap.size Y w') (fun e w' h => by
    obtain ⟨A, c, rfl, hr, hb⟩ := h
    rw [rk_sites (fun z hz => (hp0 z hz).1), l2] at hr
    exact ⟨A, c, by rw [l2], hr, hb⟩))
  have HN1 := Lib.hid (fun (Az : Option Addr) (cz : Nat) (AL : Option Addr) (cL : Nat) (Y : World) (hY : Below w.heap.size w Y) (hzz : IntsAt Y Y.heap.size Az R (rtsF 0 R)) (hLL : IntsAt Y Y.heap.size AL (E + nk) lf) => (ndk_any (.agg #[.int .i64 a.roots, .slice A1 n1 c1, .slice A2 n2 c2, .int .i64 a.edges, .slice A4 n4 c4, .slice A5 n5 c5]) a 0 Az R cz (rtsF 0 R) AL (E + nk) cL lf Y (hVa.out Y hY) hzz hLL (by omega) (by omega) (by omega) (by omega) (fun x hx => by have := pa.1 x hx; omega) (links3 hga) (fun x hx l hl => by have := la.1 x hx l hl; omega)).mono (R' := fun e w' => ∃ (v : Value) (xs : List Value) (LA : Nat → Option Addr) (LC : Nat → Nat), e = .returned v ∧ NdO w' Y.heap.size w'.heap.size v n1 LA LC (relB (lkF lf) a).nodes xs ∧ Below Y.heap.size Y w') (fun e w' h => by
    obtain ⟨v', xs, LA, LC, rfl, hs, hb⟩ := h
    rw [rk_nodes (fun x hx => by have := pa.1 x hx; omega), l1] at hs
    exact ⟨v', xs, LA, LC, rfl, ndo_of hs (by simp only [relB, List.length_map]; exact l1) (Nat.le_refl _), hb⟩))
  have HN2 := Lib.hid (fun (Az : Option Addr) (cz : Nat) (AL : Option Addr) (cL : Nat) (Y : World) (hY : Below w.heap.size w Y) (hzz : IntsAt Y Y.heap.size Az n2 a.sites) (hLL : IntsAt Y Y.heap.size AL (F + nl) rg) => (ndk_any (.agg #[.int .i64 b.roots, .slice B1 m1 d1, .slice B2 m2 d2, .int .i64 b.edges, .slice B4 m4 d4, .slice B5 m5 d5]) b n1 Az n2 cz a.sites AL (F + nl) cL rg Y (hVb.out Y hY) hzz hLL (by omega) (by omega) (by omega) (by omega) (fun x hx => by have := pb.1 x hx; omega) (links3 hgb) (fun x hx l hl => by have := lb.1 x hx l hl; omega)).mono (R' := fun e w' => ∃ (v : Value) (xs : List Value) (LA : Nat → Option Addr) (LC : Nat → Nat), e = .returned v ∧ NdO w' Y.heap.size w'.heap.size v m1 LA LC (plB (pcF a.sites n1) (relB (lkF rg) b)).nodes xs ∧ Below Y.heap.size Y w') (fun e w' h => by
    obtain ⟨v', xs, LA, LC, rfl, hs, hb⟩ := h
    rw [nd_under, q1] at hs
    exact ⟨v', xs, LA, LC, rfl, ndo_of hs (by simp only [plB, relB, List.length_map]; exact q1) (Nat.le_refl _), hb⟩))
  have HSt := Lib.hid (fun (Az : Option Addr) (cz : Nat) (Y : World) (hY : Below w.heap.size w Y) (hzz : IntsAt Y Y.heap.size Az n2 a.sites) => (sit_any Az n2 cz a.sites n1 (.agg #[.int .i64 b.roots, .slice B1 m1 d1, .slice B2 m2 d2, .int .i64 b.edges, .slice B4 m4 d4, .slice B5 m5 d5]) b Y (hVb.out Y hY) hNb hzz (by omega) (by omega) (by omega) (fun z hz => by have := pb.2 z hz; omega)).mono (R' := fun e w' => ∃ (A : Option Addr) (c : Nat), e = .returned (.slice A m2 c) ∧ RowR w' Y.heap.size w'.heap.size 3 1 A m2 c (iat (b.sites.map (pcF a.sites n1))) ∧ Below Y.heap.size Y w') (fun e w' h => by
    obtain ⟨A, c, rfl, hr, hb⟩ := h
    rw [q2] at hr
    exact ⟨A, c, by rw [q2], hr, hb⟩))
  have HWi := Lib.hid (fun (AL : Option Addr) (cL : Nat) (Y : World) (hY : Below w.heap.size w Y) (hLL : IntsAt Y Y.heap.size AL (F + nl) rg) => (wrk_any (.agg #[.int .i64 b.roots, .slice B1 m1 d1, .slice B2 m2 d2, .int .i64 b.edges, .slice B4 m4 d4, .slice B5 m5 d5]) b AL (F + nl) cL rg Y (hVb.out Y hY) hLL (by omega) (by omega) (fun x hx => by have := lb.2 x hx; omega)).mono (R' := fun e w' => ∃ (A : Option Addr) (c : Nat), e = .returned (.slice A m5 c) ∧ RowR w' Y.heap.size w'.heap.size 80 2 A m5 c (wic (relB (lkF rg) b).inner) ∧ Below Y.heap.size Y w') (fun e w' h => by
    obtain ⟨A, c, rfl, hr, hb⟩ := h
    rw [q5] at hr
    exact ⟨A, c, by rw [q5], hr, hb⟩))
  have HSn := Lib.hid l2
  have HOu := Lib.hid hou
  have HOl := Lib.hid hou.strlen
  have HKk := Lib.hid hk
  have HLl := Lib.hid hl
  have HUd : Hid ((⟨a.roots, (relB (lkF lf) a).nodes ++ (plB (pcF a.sites n1) (relB (lkF rg) b)).nodes, b.sites.map (pcF a.sites n1), a.edges + b.edges, ou, (relB (lkF rg) b).inner⟩ : Big) = udB a b ou lf rg) := Lib.hid (by unfold udB; rw [l1])
  have HLe : Hid ((relB (lkF lf) a).nodes.length = n1 ∧ (plB (pcF a.sites n1) (relB (lkF rg) b)).nodes.length = m1 ∧ (b.sites.map (pcF a.sites n1)).length = m2 ∧ (relB (lkF rg) b).inner.length = m5) := Lib.hid ⟨by simp only [relB, List.length_map]; exact l1, by simp only [plB, relB, List.length_map]; exact q1, by rw [List.length_map]; exact q2, by simp only [relB, List.length_map]; exact q5⟩
  have HO1 : Hid (∀ u ∈ ou.map Value.string, u.oneCell' = true) := Lib.hid (fun u hu => by obtain ⟨s, -, rfl⟩ := List.mem_map.1 hu; rfl)
  have HOL : Hid ((ou.map Value.string).length = no * 1) := Lib.hid (by rw [List.length_map, Nat.mul_one]; exact hou.strlen)
  have HZ4 := Lib.hid (fun e : Ao = none => And.intro (sr_zero hou e) (h0o e))
  have HI1 : ∀ zs : List Int, ∀ u ∈ zs.map (Value.int .i64), u.oneCell' = true := fun zs u hu => by obtain ⟨s, -, rfl⟩ := List.mem_map.1 hu; rfl
  have HI1 := Lib.hid HI1
  have HKL : Hid ((ab.map (Value.int .i64)).length = nk * 1 ∧ (bl.map (Value.int .i64)).length = nl * 1) := Lib.hid ⟨by rw [List.length_map, Nat.mul_one]; exact hlk, by rw [List.length_map, Nat.mul_one]; exact hll⟩
  have HKZ := Lib.hid (And.intro (fun e : Ak = none => And.intro (sr_zero hk e) (h0k e)) (fun e : Al = none => And.intro (sr_zero hl e) (h0l e)))
  have e1 : 0 + no ≤ maxLen := by unfold maxLen; omega
  have e2 : (0 + no) * 16 ≤ 140737488355328 := by omega
  have e3 : E + nk ≤ maxLen := by unfold maxLen; omega
  have e4 : (E + nk) * 8 ≤ 140737488355328 := by omega
  have e5 : F + nl ≤ maxLen := by unfold maxLen; omega
  have e6 : (F + nl) * 8 ≤ 140737488355328 := by omega
  have e7 : n1 + m1 ≤ maxLen := by unfold maxLen; omega
  have e8 : (n1 + m1) * 40 ≤ 140737488355328 := by omega
  have hwE : IntKind.i64.wrap (a.edges + b.edges) = a.edges + b.edges := IntWalk.i64_in _ (by omega)
  have HEq := Lib.hid (And.intro hlf hrg)
  have HEl := Lib.hid (And.intro (seq_len 0 E) (And.intro (seq_len a.edges F) (And.intro hlk hll)))
  have HFl := Lib.hid (And.intro hlfl hrgl)
  obtain ⟨i0, hi, hz0, hz1, hz2⟩ := info_parts str_info
  have HIs := Lib.hid (And.intro hi (And.intro hz0 (And.intro hz1 hz2)))
  obtain ⟨i1, hi, hz0, hz1, hz2⟩ := info_parts int_info
  have HIi := Lib.hid (And.intro hi (And.intro hz0 (And.intro hz1 hz2)))
  obtain ⟨i2, hi, hz0, hz1, hz2⟩ := info_parts node_info
  have HIn := Lib.hid (And.intro hi (And.intro hz0 (And.intro hz1 hz2)))
  clear hi hz0 hz1 hz2 hya hyb l1 l2 q1 q2 q5 hR hE hF pa pb la lb hlk hll hEt hFt hlf hrg hlfl hrgl hp0 hou hk hl hnk hnl h0o h0k h0l hsr hSa hNa hga hSb hNb hgb h1 h2 h4 h5 k1 k2 k4 k5 hVa hVb
  obtain ⟨x0, x1, x2, x3, x4, x5⟩ := HBa.out.get
  obtain ⟨y0, y1, y2, y3, y4, y5⟩ := HBb.out.get
  go_enter Tryz.func77, Tryz.ntmps77
  go_wp2_with fail
  rw [HUq.out, HWq.out, HXq.out]
  go_wp2_with fail
  refine (HRt.out X).mono ?_
  rintro e w1 ⟨vr, rfl, hor, hb⟩
  obtain ⟨Ar, cr, rfl, hrr⟩ := ints_owned hor
  rw [rts_len] at hrr ⊢
  have hz1 := hb.size
  have hw1 := HB0.out.trans (hb.mono HB0.out.size)
  have HW1 := Lib.hid hw1
  have HBa1 := Lib.hid (HBa.out.on hb)
  have HBb1 := Lib.hid (HBb.out.on hb)
  have HBr1 := Lib.hid (HBr.out.on hb)
  have HRr : Hid (∀ Y, Below w1.heap.size w1 Y → IntsAt Y Y.heap.size Ar R (rtsF 0 R)) := Lib.hid (fun Y hY => row_ints (hrr.on hY) (rts_len _ _))
  have HS1 : Hid (∀ w', Below w1.heap.size w1 w' → (w'.cell? ⟨w.heap.size, 3, none⟩ = some (.int .i64 a.edges) ∧ w'.cell? ⟨w.heap.size + 1, 3, none⟩ = some (.int .i64 b.edges))) := Lib.hid (fun w' hq => ⟨(HBa1.out.on hq).get.2.2.2.1, (HBb1.out.on hq).get.2.2.2.1⟩)
  have hkD := (Below.refl w1.heap.size w1).drew
  clear hor hrr hb x0 x1 x2 x3 x4 x5 y0 y1 y2 y3 y4 y5 HRt
  go_wp2_with fail
  refine rh.go_begin 13 (fun w' => (w'.cell? ⟨w.heap.size, 3, none⟩ = some (.int .i64 a.edges) ∧ w'.cell? ⟨w.heap.size + 1, 3, none⟩ = some (.int .i64 b.edges))) (by kernel_rfl) ?_ (fun hHeld => ?_)
  · ((try dsimp only); exact HS1.out _ (by go_grown))
  refine rh.go_take (i := 0) (v := ?v1) rfl (by kernel_rfl) (fun _ _ _ h => h) (Or.inl ⟨by rfl, ?hy1⟩) (by assumption) ?rest1
  case hy1 => (intro wS hSw; (try dsimp only at hSw); go_simp; try (with_reducible rfl))
  try simp only [Act.put, List.setIfInBounds_toArray, List.set_cons_zero, List.set_cons_succ]
  refine rh.go_take (i := 1) (v := ?v2) rfl (by kernel_rfl) (fun _ _ _ h => h) (Or.inl ⟨by rfl, ?hy2⟩) (by assumption) ?rest2
  case hy2 => (intro wS hSw; (try dsimp only at hSw); go_simp; try (with_reducible rfl))
  try simp only [Act.put, List.setIfInBounds_toArray, List.set_cons_zero, List.set_cons_succ]
  refine rh.go_take (i := 3) (v := ?v3) rfl (by kernel_rfl) (fun _ _ _ h => h) (Or.inl ⟨by rfl, ?hy3⟩) (by assumption) ?rest3
  case hy3 => (intro wS hSw; (try dsimp only at hSw); go_simp; try (with_reducible rfl))
  try simp only [Act.put, List.setIfInBounds_toArray, List.set_cons_zero, List.set_cons_succ]
  refine rh.go_take (i := 5) (v := ?v4) rfl (by kernel_rfl) (fun _ _ _ h => h) (Or.inl ⟨by rfl, ?hy4⟩) (by assumption) ?rest4
  case hy4 => (intro wS hSw; (try dsimp only at hSw); go_simp; try (with_reducible rfl))
  try simp only [Act.put, List.setIfInBounds_toArray, List.set_cons_zero, List.set_cons_succ]
  refine rh.go_take (i := 6) (v := ?v5) rfl (by kernel_rfl) (fun _ _ _ h => h) (Or.inl ⟨by rfl, ?hy5⟩) (by assumption) ?rest5
  case hy5 => (intro wS hSw; (try dsimp only at hSw); go_simp; try (with_reducible rfl))
  try simp only [Act.put, List.setIfInBounds_toArray, List.set_cons_zero, List.set_cons_succ]
  refine rh.go_take (i := 7) (v := ?v6) rfl (by kernel_rfl) (fun _ _ _ h => h) (Or.inl ⟨by rfl, ?hy6⟩) (by assumption) ?rest6
  case hy6 => (intro wS hSw; (try dsimp only at hSw); go_simp; try (with_reducible rfl))
  try simp only [Act.put, List.setIfInBounds_toArray, List.set_cons_zero, List.set_cons_succ]
  refine rh.go_take (i := 8) (v := ?v7) rfl (by kernel_rfl) (fun _ _ _ h => h) (Or.inl ⟨by rfl, ?hy7⟩) (by assumption) ?rest7
  case hy7 => (intro wS hSw; (try dsimp only at hSw); go_simp; try (with_reducible rfl))
  try simp only [Act.put, List.setIfInBounds_toArray, List.set_cons_zero, List.set_cons_succ]
  refine rh.go_take (i := 10) (v := ?v8) rfl (by kernel_rfl) (fun _ _ _ h => h) (Or.inl ⟨by rfl, ?hy8⟩) (by assumption) ?rest8
  case hy8 => (intro wS hSw; (try dsimp only at hSw); go_simp; try (with_reducible rfl))
  try simp only [Act.put, List.setIfInBounds_toArray, List.set_cons_zero, List.set_cons_succ]
  refine rh.go_next (i := 2) rfl (by kernel_rfl) (fun K2 hK => ?_)
  (go_simp; go_at_call 76; refine (HEa.out _).mono ?_; rintro e w2 ⟨v2, rfl, ho2, hb⟩; have hk2 := hkD.trans (hb.mono hkD.size); have hs2 := hk2.size; have HO2 : Hid (w2.ownsRow w1.heap.size 3 1 v2 E ((seqF 0 E).map (Value.int .i64))) := Lib.hid ho2; clear hb ho2; go_wp2_with fail)
  refine hK.out _ _ ?_ (fun hHeld => ?_)
  · ((try dsimp only); exact HS1.out _ hk2)
  clear hK K2
  try simp only [Act.put, List.setIfInBounds_toArray, List.set_cons_zero, List.set_cons_succ]
  refine rh.go_next (i := 4) rfl (by kernel_rfl) (fun K2 hK => ?_)
  (refine step_append_src rfl _ _ 27 rfl w1.heap.size 3 i1 (.int .i64 0) 1 8 Tryz.underlying27 HIi.out.1 HIi.out.2.1 HIi.out.2.2.1 HIi.out.2.2.2 rfl (by decide) _ _ _ (by first | rfl | simp [Act.eval, Act.put]) HO2.out Ak nk ck (ab.map (Value.int .i64)) (by first | rfl | simp [Act.eval, Act.put]) HKZ.out.1 HKL.out.1 (sr_src (HKk.out.below (HW1.out.trans (hk2.mono HW1.out.size)))) (HI1.out ab) e3 e4 hs2 ?_; intro v4 w4 ho4 hg4; have hk4 := hk2.grown hg4 hs2 (fun j hj => (HO2.out.lt j hj).1); have hs4 := hk4.size; obtain ⟨AL, cL, rfl, hrL⟩ := lks_own ho4 HEl.out.1 HEl.out.2.2.1; rw [HEq.out.1] at hrL; have HLf := Lib.hid hrL; clear ho4 hg4 hrL; (try go_simp))
  refine hK.out _ _ ?_ (fun hHeld => ?_)
  · ((try dsimp only); exact HS1.out _ hk4)
  clear hK K2
  try simp only [Act.put, List.setIfInBounds_toArray, List.set_cons_zero, List.set_cons_succ]
  refine rh.go_next (i := 9) rfl (by kernel_rfl) (fun K2 hK => ?_)
  (go_simp; go_at_call 76; refine (HEb.out _).mono ?_; rintro e w9 ⟨v9, rfl, ho9, hb⟩; have hk49 := hb; have hk9 := hk4.trans (hb.mono hk4.size); have hs9 := hk9.size; have hs49 := hb.size; have HO9 := Lib.hid ho9; clear hb ho9; go_wp2_with fail)
  refine hK.out _ _ ?_ (fun hHeld => ?_)
  · ((try dsimp only); exact HS1.out _ hk9)
  clear hK K2
  try simp only [Act.put, List.setIfInBounds_toArray, List.set_cons_zero, List.set_cons_succ]
  refine rh.go_next (i := 11) rfl (by kernel_rfl) (fun K2 hK => ?_)
  (refine step_append_src rfl _ _ 27 rfl w4.heap.size 3 i1 (.int .i64 0) 1 8 Tryz.underlying27 HIi.out.1 HIi.out.2.1 HIi.out.2.2.1 HIi.out.2.2.2 rfl (by decide) _ _ _ (by first | rfl | simp [Act.eval, Act.put]) HO9.out Al nl cl (bl.map (Value.int .i64)) (by first | rfl | simp [Act.eval, Act.put]) HKZ.out.2 HKL.out.2 (sr_src (HLl.out.below (HW1.out.trans (hk9.mono HW1.out.size)))) (HI1.out bl) e5 e6 hs49 ?_; intro v11 w11 ho11 hg11; have hk411 := hk49.grown hg11 hs49 (fun j hj => (HO9.out.lt j hj).1); have hk11 := hk4.trans (hk411.mono hk4.size); have hs11 := hk11.size; obtain ⟨AR, cR, rfl, hrR⟩ := lks_own ho11 HEl.out.2.1 HEl.out.2.2.2; rw [HEq.out.2] at hrR; have HRg := Lib.hid hrR; have HLf1 := Lib.hid (HLf.out.on hk411); clear ho11 hg11 hrR; (try go_simp))
  refine hK.out _ _ ?_ (fun hHeld => ?_)
  · ((try dsimp only); exact HS1.out _ hk11)
  clear hK K2
  try simp only [Act.put, List.setIfInBounds_toArray, List.set_cons_zero, List.set_cons_succ]
  refine rh.go_next (i := 12) rfl (by kernel_rfl) (fun K2 hK => ?_)
  go_simp
  refine hK.out _ _ ?_ (fun hHeld => ?_)
  · ((try dsimp only); exact HS1.out _ hk11)
  clear hK K2
  try simp only [Act.put, List.setIfInBounds_toArray, List.set_cons_zero, List.set_cons_succ]
  refine rh.go_last rfl (by kernel_rfl) (fun K2 hK => ?_)
  go_simp
  refine hK.out _ _ ?_
  refine NoPanic.normal ?_
  clear hK K2
  have HW2 := Lib.hid (HW1.out.trans (hk11.mono HW1.out.size))
  have HBa2 := Lib.hid (HBa1.out.on hk11)
  have HBb2 := Lib.hid (HBb1.out.on hk11)
  have HBr2 := Lib.hid (HBr1.out.on hk11)
  have HR2 : Hid (∀ Y, Below w11.heap.size w11 Y → IntsAt Y Y.heap.size Ar R (rtsF 0 R)) := Lib.hid (fun Y hY => HRr.out Y (hk11.trans (hY.mono hk11.size)))
  have HL2 : Hid (∀ Y, Below w11.heap.size w11 Y → IntsAt Y Y.heap.size AL (E + nk) lf) := Lib.hid (fun Y hY => row_ints (HLf1.out.on hY) HFl.out.1)
  have HG2 : Hid (∀ Y, Below w11.heap.size w11 Y → IntsAt Y Y.heap.size AR (F + nl) rg) := Lib.hid (fun Y hY => row_ints (HRg.out.on hY) HFl.out.2)
  clear HLf HLf1 HRg HRr HO2 HO9 hk2 hk4 hk9 hk49 hk411 hk11 hs2 hs4 hs9 hs49 hs11 HBa1 HBb1 HBr1 HW1 HS1 hkD HEa HEb HKk HLl HKL HKZ HEl HFl HEq HIi HI1 e3 e4 e5 e6
  obtain ⟨x0, x1, x2, x3, x4, x5⟩ := HBa2.out.get
  go_wp2_with fail
  refine (HHo.out Ar cr w11 HW2.out (HR2.out _ (Below.refl _ _))).mono ?_
  rintro e V ⟨AH, cH, rfl, hrH, hb⟩
  have hWt : ∀ Y, Below V.heap.size V Y → Below w.heap.size w Y := fun Y hY => HW2.out.trans ((hb.trans (hY.mono hb.size)).mono HW2.out.size)
  have HWt := Lib.hid hWt
  have HBa3 := Lib.hid (HBa2.out.on hb)
  have HBb3 := Lib.hid (HBb2.out.on hb)
  have HBr3 := Lib.hid (HBr2.out.on hb)
  have HR3 : Hid (∀ Y, Below V.heap.size V Y → IntsAt Y Y.heap.size Ar R (rtsF 0 R)) := Lib.hid (fun Y hY => HR2.out Y (hb.trans (hY.mono hb.size)))
  have HL3 : Hid (∀ Y, Below V.heap.size V Y → IntsAt Y Y.heap.size AL (E + nk) lf) := Lib.hid (fun Y hY => HL2.out Y (hb.trans (hY.mono hb.size)))
  have HG3 : Hid (∀ Y, Below V.heap.size V Y → IntsAt Y Y.heap.size AR (F + nl) rg) := Lib.hid (fun Y hY => HG2.out Y (hb.trans (hY.mono hb.size)))
  have HH3 : Hid (∀ Y, Below V.heap.size V Y → IntsAt Y Y.heap.size AH n2 a.sites) := Lib.hid (fun Y hY => row_ints (hrH.on hY) HSn.out)
  have hV0 : w.heap.size ≤ V.heap.size := (hWt V (Below.refl _ _)).size
  have HS : Hid (∀ w', Below V.heap.size V w' → (w'.cell? ⟨w.heap.size, 0, none⟩ = some (.int .i64 a.roots) ∧ w'.cell? ⟨w.heap.size, 1, none⟩ = some (.slice A1 n1 c1) ∧ w'.cell? ⟨w.heap.size, 2, none⟩ = some (.slice A2 n2 c2) ∧ w'.cell? ⟨w.heap.size, 3, none⟩ = some (.int .i64 a.edges) ∧ w'.cell? ⟨w.heap.size, 4, none⟩ = some (.slice A4 n4 c4) ∧ w'.cell? ⟨w.heap.size, 5, none⟩ = some (.slice A5 n5 c5) ∧ w'.cell? ⟨w.heap.size + 1, 0, none⟩ = some (.int .i64 b.roots) ∧ w'.cell? ⟨w.heap.size + 1, 1, none⟩ = some (.slice B1 m1 d1) ∧ w'.cell? ⟨w.heap.size + 1, 2, none⟩ = some (.slice B2 m2 d2) ∧ w'.cell? ⟨w.heap.size + 1, 3, none⟩ = some (.int .i64 b.edges) ∧ w'.cell? ⟨w.heap.size + 1, 4, none⟩ = some (.slice B4 m4 d4) ∧ w'.cell? ⟨w.heap.size + 1, 5, none⟩ = some (.slice B5 m5 d5))) := Lib.hid (fun w' hq => flat12 (HBa3.out.on hq).get (HBb3.out.on hq).get)
  have hkD := (Below.refl V.heap.size V).drew
  have hkA := ((Below.refl V.heap.size V).alloc (Nat.le_refl _) (.cells #[] 9)).drew
  have hzA : (V.alloc (.cells #[] 9)).drew.heap[V.heap.size]? = some (.cells #[] 9) := World.alloc_heap_new V (.cells #[] 9)
  clear hb hrH hWt HR2 HL2 HG2 HBa2 HBb2 HBr2 HHo x0 x1 x2 x3 x4 x5
  obtain ⟨x0, x1, x2, x3, x4, x5⟩ := HBa3.out.get
  obtain ⟨y0, y1, y2, y3, y4, y5⟩ := HBb3.out.get
  go_wp2_with fail
  clear x0 x1 x2 x3 x4 x5 y0 y1 y2 y3 y4 y5
  refine rh.go_begin 32 (fun w' => (w'.cell? ⟨w.heap.size, 0, none⟩ = some (.int .i64 a.roots) ∧ w'.cell? ⟨w.heap.size, 1, none⟩ = some (.slice A1 n1 c1) ∧ w'.cell? ⟨w.heap.size, 2, none⟩ = some (.slice A2 n2 c2) ∧ w'.cell? ⟨w.heap.size, 3, none⟩ = some (.int .i64 a.edges) ∧ w'.cell? ⟨w.heap.size, 4, none⟩ = some (.slice A4 n4 c4) ∧ w'.cell? ⟨w.heap.size, 5, none⟩ = some (.slice A5 n5 c5) ∧ w'.cell? ⟨w.heap.size + 1, 0, none⟩ = some (.int .i64 b.roots) ∧ w'.cell? ⟨w.heap.size + 1, 1, none⟩ = some (.slice B1 m1 d1) ∧ w'.cell? ⟨w.heap.size + 1, 2, none⟩ = some (.slice B2 m2 d2) ∧ w'.cell? ⟨w.heap.size + 1, 3, none⟩ = some (.int .i64 b.edges) ∧ w'.cell? ⟨w.heap.size + 1, 4, none⟩ = some (.slice B4 m4 d4) ∧ w'.cell? ⟨w.heap.size + 1, 5, none⟩ = some (.slice B5 m5 d5))) (by kernel_rfl) ?_ (fun hHeld => ?_)
  · ((try dsimp only); exact HS.out _ (by go_grown))
  refine rh.go_take (i := 0) (v := ?v9) rfl (by kernel_rfl) (fun _ _ _ h => h) (Or.inl ⟨by rfl, ?hy9⟩) (by assumption) ?rest9
  case hy9 => (intro wS hSw; (try dsimp only at hSw); go_simp; try (with_reducible rfl))
  try simp only [Act.put, List.setIfInBounds_toArray, List.set_cons_zero, List.set_cons_succ]
  refine rh.go_take (i := 1) (v := ?v10) rfl (by kernel_rfl) (fun _ _ _ h => h) (Or.inl ⟨by rfl, ?hy10⟩) (by assumption) ?rest10
  case hy10 => (intro wS hSw; (try dsimp only at hSw); go_simp; try (with_reducible rfl))
  try simp only [Act.put, List.setIfInBounds_toArray, List.set_cons_zero, List.set_cons_succ]
  refine rh.go_take (i := 2) (v := ?v11) rfl (by kernel_rfl) (fun _ _ _ h => h) (Or.inl ⟨by rfl, ?hy11⟩) (by assumption) ?rest11
  case hy11 => (intro wS hSw; (try dsimp only at hSw); go_simp; try (with_reducible rfl))
  try simp only [Act.put, List.setIfInBounds_toArray, List.set_cons_zero, List.set_cons_succ]
  refine rh.go_take (i := 3) (v := ?v12) rfl (by kernel_rfl) (fun _ _ _ h => h) (Or.inl ⟨by rfl, ?hy12⟩) (by assumption) ?rest12
  case hy12 => (intro wS hSw; (try dsimp only at hSw); go_simp; try (with_reducible rfl))
  try simp only [Act.put, List.setIfInBounds_toArray, List.set_cons_zero, List.set_cons_succ]
  refine rh.go_take (i := 4) (v := ?v13) rfl (by kernel_rfl) (fun _ _ _ h => h) (Or.inl ⟨by rfl, ?hy13⟩) (by assumption) ?rest13
  case hy13 => (intro wS hSw; (try dsimp only at hSw); go_simp; try (with_reducible rfl))
  try simp only [Act.put, List.setIfInBounds_toArray, List.set_cons_zero, List.set_cons_succ]
  refine rh.go_take (i := 6) (v := ?v14) rfl (by kernel_rfl) (fun _ _ _ h => h) (Or.inl ⟨by rfl, ?hy14⟩) (by assumption) ?rest14
  case hy14 => (intro wS hSw; (try dsimp only at hSw); go_simp; try (with_reducible rfl))
  try simp only [Act.put, List.setIfInBounds_toArray, List.set_cons_zero, List.set_cons_succ]
  refine rh.go_take (i := 7) (v := ?v15) rfl (by kernel_rfl) (fun _ _ _ h => h) (Or.inl ⟨by rfl, ?hy15⟩) (by assumption) ?rest15
  case hy15 => (intro wS hSw; (try dsimp only at hSw); go_simp; try (with_reducible rfl))
  try simp only [Act.put, List.setIfInBounds_toArray, List.set_cons_zero, List.set_cons_succ]
  refine rh.go_take (i := 8) (v := ?v16) rfl (by kernel_rfl) (fun _ _ _ h => h) (Or.inl ⟨by rfl, ?hy16⟩) (by assumption) ?rest16
  case hy16 => (intro wS hSw; (try dsimp only at hSw); go_simp; try (with_reducible rfl))
  try simp only [Act.put, List.setIfInBounds_toArray, List.set_cons_zero, List.set_cons_succ]
  refine rh.go_take (i := 9) (v := ?v17) rfl (by kernel_rfl) (fun _ _ _ h => h) (Or.inl ⟨by rfl, ?hy17⟩) (by assumption) ?rest17
  case hy17 => (intro wS hSw; (try dsimp only at hSw); go_simp; try (with_reducible rfl))
  try simp only [Act.put, List.setIfInBounds_toArray, List.set_cons_zero, List.set_cons_succ]
  refine rh.go_take (i := 10) (v := ?v18) rfl (by kernel_rfl) (fun _ _ _ h => h) (Or.inl ⟨by rfl, ?hy18⟩) (by assumption) ?rest18
  case hy18 => (intro wS hSw; (try dsimp only at hSw); go_simp; try (with_reducible rfl))
  try simp only [Act.put, List.setIfInBounds_toArray, List.set_cons_zero, List.set_cons_succ]
  refine rh.go_take (i := 11) (v := ?v19) rfl (by kernel_rfl) (fun _ _ _ h => h) (Or.inl ⟨by rfl, ?hy19⟩) (by assumption) ?rest19
  case hy19 => (intro wS hSw; (try dsimp only at hSw); go_simp; try (with_reducible rfl))
  try simp only [Act.put, List.setIfInBounds_toArray, List.set_cons_zero, List.set_cons_succ]
  refine rh.go_take (i := 14) (v := ?v20) rfl (by kernel_rfl) (fun _ _ _ h => h) (Or.inl ⟨by rfl, ?hy20⟩) (by assumption) ?rest20
  case hy20 => (intro wS hSw; (try dsimp only at hSw); go_simp; try (with_reducible rfl))
  try simp only [Act.put, List.setIfInBounds_toArray, List.set_cons_zero, List.set_cons_succ]
  refine rh.go_take (i := 15) (v := ?v21) rfl (by kernel_rfl) (fun _ _ _ h => h) (Or.inl ⟨by rfl, ?hy21⟩) (by assumption) ?rest21
  case hy21 => (intro wS hSw; (try dsimp only at hSw); go_simp; try (with_reducible rfl))
  try simp only [Act.put, List.setIfInBounds_toArray, List.set_cons_zero, List.set_cons_succ]
  refine rh.go_take (i := 16) (v := ?v22) rfl (by kernel_rfl) (fun _ _ _ h => h) (Or.inl ⟨by rfl, ?hy22⟩) (by assumption) ?rest22
  case hy22 => (intro wS hSw; (try dsimp only at hSw); go_simp; try (with_reducible rfl))
  try simp only [Act.put, List.setIfInBounds_toArray, List.set_cons_zero, List.set_cons_succ]
  refine rh.go_take (i := 17) (v := ?v23) rfl (by kernel_rfl) (fun _ _ _ h => h) (Or.inl ⟨by rfl, ?hy23⟩) (by assumption) ?rest23
  case hy23 => (intro wS hSw; (try dsimp only at hSw); go_simp; try (with_reducible rfl))
  try simp only [Act.put, List.setIfInBounds_toArray, List.set_cons_zero, List.set_cons_succ]
  refine rh.go_take (i := 18) (v := ?v24) rfl (by kernel_rfl) (fun _ _ _ h => h) (Or.inl ⟨by rfl, ?hy24⟩) (by assumption) ?rest24
  case hy24 => (intro wS hSw; (try dsimp only at hSw); go_simp; try (with_reducible rfl))
  try simp only [Act.put, List.setIfInBounds_toArray, List.set_cons_zero, List.set_cons_succ]
  refine rh.go_take (i := 20) (v := ?v25) rfl (by kernel_rfl) (fun _ _ _ h => h) (Or.inl ⟨by rfl, ?hy25⟩) (by assumption) ?rest25
  case hy25 => (intro wS hSw; (try dsimp only at hSw); go_simp; try (with_reducible rfl))
  try simp only [Act.put, List.setIfInBounds_toArray, List.set_cons_zero, List.set_cons_succ]
  refine rh.go_take (i := 21) (v := ?v26) rfl (by kernel_rfl) (fun _ _ _ h => h) (Or.inl ⟨by rfl, ?hy26⟩) (by assumption) ?rest26
  case hy26 => (intro wS hSw; (try dsimp only at hSw); go_simp; try (with_reducible rfl))
  try simp only [Act.put, List.setIfInBounds_toArray, List.set_cons_zero, List.set_cons_succ]
  refine rh.go_take (i := 22) (v := ?v27) rfl (by kernel_rfl) (fun _ _ _ h => h) (Or.inl ⟨by rfl, ?hy27⟩) (by assumption) ?rest27
  case hy27 => (intro wS hSw; (try dsimp only at hSw); go_simp; try (with_reducible rfl))
  try simp only [Act.put, List.setIfInBounds_toArray, List.set_cons_zero, List.set_cons_succ]
  refine rh.go_take (i := 23) (v := ?v28) rfl (by kernel_rfl) (fun _ _ _ h => h) (Or.inl ⟨by rfl, ?hy28⟩) (by assumption) ?rest28
  case hy28 => (intro wS hSw; (try dsimp only at hSw); go_simp; try (with_reducible rfl))
  try simp only [Act.put, List.setIfInBounds_toArray, List.set_cons_zero, List.set_cons_succ]
  refine rh.go_take (i := 24) (v := .int .i64 (a.edges + b.edges)) rfl (by kernel_rfl) (fun _ _ _ h => h) (Or.inl ⟨by rfl, ?hyQ24⟩) (by assumption) ?restQ24
  case hyQ24 => (intro wS hSw; (try dsimp only at hSw); go_simp; try rw [hwE])
  try simp only [Act.put, List.setIfInBounds_toArray, List.set_cons_zero, List.set_cons_succ]
  refine rh.go_take (i := 26) (v := ?v29) rfl (by kernel_rfl) (fun _ _ _ h => h) (Or.inl ⟨by rfl, ?hy29⟩) (by assumption) ?rest29
  case hy29 => (intro wS hSw; (try dsimp only at hSw); go_simp; try (with_reducible rfl))
  try simp only [Act.put, List.setIfInBounds_toArray, List.set_cons_zero, List.set_cons_succ]
  refine rh.go_take (i := 28) (v := ?v30) rfl (by kernel_rfl) (fun _ _ _ h => h) (Or.inl ⟨by rfl, ?hy30⟩) (by assumption) ?rest30
  case hy30 => (intro wS hSw; (try dsimp only at hSw); go_simp; try (with_reducible rfl))
  try simp only [Act.put, List.setIfInBounds_toArray, List.set_cons_zero, List.set_cons_succ]
  refine rh.go_take (i := 29) (v := ?v31) rfl (by kernel_rfl) (fun _ _ _ h => h) (Or.inl ⟨by rfl, ?hy31⟩) (by assumption) ?rest31
  case hy31 => (intro wS hSw; (try dsimp only at hSw); go_simp; try (with_reducible rfl))
  try simp only [Act.put, List.setIfInBounds_toArray, List.set_cons_zero, List.set_cons_succ]
  refine gt.go_two (i := 5) (j := 25) rfl rfl (by kernel_rfl) (fun K2 hK => ?_) (fun K2 hK => ?_)
  · have hk := hkD
    go_simp
    go_at_call 102
    refine (HN1.out Ar cr AL cL _ (HWt.out _ hk) (HR3.out _ hk) (HL3.out _ hk)).mono ?_
    rintro e w5 ⟨v5, xs5, LA, LC, rfl, hn5, hb⟩
    skip
    have HN5 := Lib.hid (hn5.low (lo' := V.heap.size) hk.size)
    have hk := hk.trans (hb.mono hk.size)
    have hs5 := hk.size
    have hc := Nat.le_refl w5.heap.size
    clear hb hn5
    go_wp2_with fail
    refine hK.out _ _ ?_ (fun hHeld => ?_)
    · ((try dsimp only); exact HS.out _ hk)
    clear hK K2 hHeld
    try simp only [Act.put, List.setIfInBounds_toArray, List.set_cons_zero, List.set_cons_succ]
    refine gt.go_two (i := 12) (j := 25) rfl rfl (by kernel_rfl) (fun K2 hK => ?_) (fun K2 hK => ?_)
    · skip
      go_simp
      go_at_call 102
      refine (HN2.out AH cH AR cR _ (HWt.out _ hk) (HH3.out _ hk) (HG3.out _ hk)).mono ?_
      rintro e w6 ⟨v6, xs6, LB, LD, rfl, hn6, hb⟩
      obtain ⟨A6, c6, rfl, -⟩ := hn6.src
      skip
      have HN6 := Lib.hid (HN5.out.on hb)
      have HM6 := Lib.hid (hn6.low (lo' := w5.heap.size) hc)
      have hs56 := Nat.le_trans hc hb.size
      have hk := hk.trans (hb.mono hk.size)
      have hc := Nat.le_refl w6.heap.size
      clear hb hn6
      go_wp2_with fail
      refine hK.out _ _ ?_ (fun hHeld => ?_)
      · ((try dsimp only); exact HS.out _ hk)
      clear hK K2 hHeld
      try simp only [Act.put, List.setIfInBounds_toArray, List.set_cons_zero, List.set_cons_succ]
      refine gt.go_two (i := 13) (j := 25) rfl rfl (by kernel_rfl) (fun K2 hK => ?_) (fun K2 hK => ?_)
      · skip
        have hCe := HM6.out.cells
        refine step_append_src rfl _ _ 26 rfl V.heap.size 96 i2 (.agg #[.int .i64 0, .int .i64 0, .slice none 0 0]) 3 40 Tryz.underlying26 HIn.out.1 HIn.out.2.1 HIn.out.2.2.1 HIn.out.2.2.2 rfl (by decide) _ _ _ (by first | rfl | simp [Act.eval, Act.put]) HN6.out.own A6 m1 c6 xs6 (by first | rfl | simp [Act.eval, Act.put]) hCe.1 hCe.2.1 hCe.2.2 (HM6.out.one HLe.out.2.1) e7 e8 hk.size ?_
        intro v7 w7 ho7 hg7
        skip
        obtain ⟨A7, c7, rfl, hn7⟩ := ndo_join HN6.out HM6.out HLe.out.1 HLe.out.2.1 hs5 hs56 (Nat.le_trans hc hg7.size) ho7 hg7
        have HN7 := Lib.hid hn7
        have hk := hk.grown hg7 hk.size (fun j hj => (HN6.out.own.lt j hj).1)
        have hs7 := hk.size
        have hc := Nat.le_refl w7.heap.size
        clear ho7 hg7 hCe hn7
        (try go_simp)
        refine hK.out _ _ ?_ (fun hHeld => ?_)
        · ((try dsimp only); exact HS.out _ hk)
        clear hK K2 hHeld
        try simp only [Act.put, List.setIfInBounds_toArray, List.set_cons_zero, List.set_cons_succ]
        refine gt.go_two (i := 19) (j := 25) rfl rfl (by kernel_rfl) (fun K2 hK => ?_) (fun K2 hK => ?_)
        · skip
          go_simp
          go_at_call 101
          refine (HSt.out AH cH _ (HWt.out _ hk) (HH3.out _ hk)).mono ?_
          rintro e w8 ⟨A8, c8, rfl, hr8, hb⟩
          skip
          have HN8 := Lib.hid (HN7.out.on hb)
          have HS8 := Lib.hid (hr8.wide (lo' := w7.heap.size) hc (Nat.le_refl _))
          have h78 := Nat.le_trans hc hb.size
          have hk := hk.trans (hb.mono hk.size)
          have hc := Nat.le_refl w8.heap.size
          clear hb hr8
          go_wp2_with fail
          refine hK.out _ _ ?_ (fun hHeld => ?_)
          · ((try dsimp only); exact HS.out _ hk)
          clear hK K2 hHeld
          try simp only [Act.put, List.setIfInBounds_toArray, List.set_cons_zero, List.set_cons_succ]
          refine rh.go_next (i := 25) rfl (by kernel_rfl) (fun K2 hK => ?_)
          go_simp
          have hB := (Below.refl w8.heap.size w8).alloc (Nat.le_refl _) (.cells #[] 9)
          have hz : (w8.alloc (.cells #[] 9)).heap[w8.heap.size]? = some (.cells #[] 9) := World.alloc_heap_new w8 (.cells #[] 9)
          have hg := hk.size
          have hk := hk.trans (hB.mono hk.size)
          refine hK.out _ _ ?_ (fun hHeld => ?_)
          · ((try dsimp only); exact HS.out _ hk)
          clear hK K2 hHeld
          try simp only [Act.put, List.setIfInBounds_toArray, List.set_cons_zero, List.set_cons_succ]
          obtain ⟨WB, hWB⟩ : ∃ WB, w8.alloc (.cells #[] 9) = WB := ⟨_, rfl⟩
          rw [hWB] at hB hz hk ⊢
          have hc := Nat.le_trans hc hB.size
          (have HN8 := Lib.hid (HN8.out.on hB); have HS8 := Lib.hid (HS8.out.on hB))
          clear hWB hB
          refine rh.go_next (i := 27) rfl (by kernel_rfl) (fun K2 hK => ?_)
          refine step_append_src rfl _ _ 28 rfl V.heap.size 9 i0 (.string ⟨#[]⟩) 1 16 Tryz.underlying28 HIs.out.1 HIs.out.2.1 HIs.out.2.2.1 HIs.out.2.2.2 rfl (by decide) _ _ _ (by first | rfl | simp [Act.eval, Act.put]) (nil_at hz hg) Ao no co (ou.map Value.string) (by first | rfl | simp [Act.eval, Act.put]) HZ4.out HOL.out (sr_src (HOu.out.below (HWt.out _ hk))) HO1.out e1 e2 hk.size ?_
          intro v9 w9 ho9 hg9
          have hzo := nil_at (sz := 1) hz hg
          have HN9 := Lib.hid (HN8.out.grown hzo hg9)
          have HS9 := Lib.hid (row_grown HS8.out hzo hg9 (by decide))
          have h89 := Nat.le_trans hc hg9.size
          have hk := hk.grown hg9 hk.size (fun j hj => (hzo.lt j hj).1)
          rw [Nat.zero_add, List.nil_append] at ho9
          obtain ⟨A9, c9, rfl, -⟩ := rowR_owns ho9
          have HO9 := Lib.hid (owned_strs2 ho9 HOl.out)
          have hs9 := hk.size
          clear ho9 hg9 hzo hz hg hc
          (try go_simp)
          refine hK.out _ _ ?_ (fun hHeld => ?_)
          · ((try dsimp only); exact HS.out _ hk)
          clear hK K2 hHeld
          try simp only [Act.put, List.setIfInBounds_toArray, List.set_cons_zero, List.set_cons_succ]
          refine rh.go_next (i := 30) rfl (by kernel_rfl) (fun K2 hK => ?_)
          go_simp
          go_at_call 103
          refine (HWi.out AR cR _ (HWt.out _ hk) (HG3.out _ hk)).mono ?_
          rintro e w10 ⟨A10, c10, rfl, hr10, hb⟩
          have HK10 := Lib.hid (hk.trans (hb.mono hk.size))
          have h910 := hb.size
          have h810 := Nat.le_trans h89 h910
          have h710 := Nat.le_trans h78 h810
          have hR10 := big_parts (R := a.roots) (E := a.edges + b.edges) (HN9.out.on hb) (by rw [List.length_append, HLe.out.1, HLe.out.2.1]) ((HS9.out.on hb).wide (Nat.le_refl _) h810) HLe.out.2.2.1 ((HO9.out.on hb).wide (Nat.le_refl _) h910) HOl.out (hr10.wide hs9 (Nat.le_refl _)) HLe.out.2.2.2 hs7 h710
          rw [HUd.out] at hR10
          have HR10 := Lib.hid (hR10.wide (lo' := w.heap.size) hV0 (Nat.le_refl _))
          have HB10 := Lib.hid (HWt.out _ HK10.out)
          have HBx10 := Lib.hid (HBr3.out.on HK10.out)
          have hk := HK10.out
          clear hR10 hb hr10 HN5 HN6 HM6 HN7 HN8 HN9 HS8 HS9 HO9
          go_wp2_with fail
          refine hK.out _ _ ?_ (fun hHeld => ?_)
          · ((try dsimp only); exact HS.out _ hk)
          clear hK K2
          try simp only [Act.put, List.setIfInBounds_toArray, List.set_cons_zero, List.set_cons_succ]
          refine rh.go_take (i := 31) (v := ?v32) rfl (by kernel_rfl) (fun _ _ _ h => h) (Or.inl ⟨by rfl, ?hy32⟩) (by assumption) ?rest32
          case hy32 => (intro wS hSw; (try dsimp only at hSw); go_simp; try (with_reducible rfl))
          try simp only [Act.put, List.setIfInBounds_toArray, List.set_cons_zero, List.set_cons_succ]
          obtain ⟨z0, z1, z2, z3, z4, z5⟩ := HBx10.out.get
          have f0 := World.rowIs.frozen HBx10.out 0
          have f1 := World.rowIs.frozen HBx10.out 1
          have f2 := World.rowIs.frozen HBx10.out 2
          have f3 := World.rowIs.frozen HBx10.out 3
          have f4 := World.rowIs.frozen HBx10.out 4
          have f5 := World.rowIs.frozen HBx10.out 5
          refine rh.go_last rfl (by kernel_rfl) (fun K2 hK => ?_)
          go_simp
          refine hK.out _ _ ?_
          refine NoPanic.normal ?_
          clear hK K2
          go_wp2_with fail
          have hbig := (sets6_big HBx10.out HR10.out (.int .i64 a.roots) (.slice A7 (n1 + m1) c7) (.slice A8 m2 c8) (.int .i64 (a.edges + b.edges)) (.slice A9 no c9) (.slice A10 m5 c10)).here
          have hbel := sets6_below HB10.out (show w.heap.size ≤ w.heap.size + 2 by omega) (.int .i64 a.roots) (.slice A7 (n1 + m1) c7) (.slice A8 m2 c8) (.int .i64 (a.edges + b.edges)) (.slice A9 no c9) (.slice A10 m5 c10)
          unfold sets6 at hbig hbel
          exact bodyPost_ret (v := .agg #[.int .i64 a.roots, .slice A7 (n1 + m1) c7, .slice A8 m2 c8, .int .i64 (a.edges + b.edges), .slice A9 no c9, .slice A10 m5 c10]) (by simp [results, Tryz.results77, go_sem, z0, z1, z2, z3, z4, z5]) rfl ⟨_, rfl, hbig, hbel⟩
        · skip
          go_simp
          have hB := (Below.refl w7.heap.size w7).alloc (Nat.le_refl _) (.cells #[] 9)
          have hz : (w7.alloc (.cells #[] 9)).heap[w7.heap.size]? = some (.cells #[] 9) := World.alloc_heap_new w7 (.cells #[] 9)
          have hg := hk.size
          have hk := hk.trans (hB.mono hk.size)
          refine hK.out _ _ ?_ (fun hHeld => ?_)
          · ((try dsimp only); exact HS.out _ hk)
          clear hK K2 hHeld
          try simp only [Act.put, List.setIfInBounds_toArray, List.set_cons_zero, List.set_cons_succ]
          obtain ⟨WB, hWB⟩ : ∃ WB, w7.alloc (.cells #[] 9) = WB := ⟨_, rfl⟩
          rw [hWB] at hB hz hk ⊢
          have hc := Nat.le_trans hc hB.size
          (have HN7 := Lib.hid (HN7.out.on hB))
          clear hWB hB
          refine rh.go_next (i := 19) rfl (by kernel_rfl) (fun K2 hK => ?_)
          go_simp
          go_at_call 101
          refine (HSt.out AH cH _ (HWt.out _ hk) (HH3.out _ hk)).mono ?_
          rintro e w8 ⟨A8, c8, rfl, hr8, hb⟩
          have hz := (hb.block _ (Array.getElem?_eq_some_iff.1 hz).1).trans hz
          have HN8 := Lib.hid (HN7.out.on hb)
          have HS8 := Lib.hid (hr8.wide (lo' := w7.heap.size) hc (Nat.le_refl _))
          have h78 := Nat.le_trans hc hb.size
          have hk := hk.trans (hb.mono hk.size)
          have hc := Nat.le_refl w8.heap.size
          clear hb hr8
          go_wp2_with fail
          refine hK.out _ _ ?_ (fun hHeld => ?_)
          · ((try dsimp only); exact HS.out _ hk)
          clear hK K2 hHeld
          try simp only [Act.put, List.setIfInBounds_toArray, List.set_cons_zero, List.set_cons_succ]
          refine rh.go_next (i := 27) rfl (by kernel_rfl) (fun K2 hK => ?_)
          refine step_append_src rfl _ _ 28 rfl V.heap.size 9 i0 (.string ⟨#[]⟩) 1 16 Tryz.underlying28 HIs.out.1 HIs.out.2.1 HIs.out.2.2.1 HIs.out.2.2.2 rfl (by decide) _ _ _ (by first | rfl | simp [Act.eval, Act.put]) (nil_at hz hg) Ao no co (ou.map Value.string) (by first | rfl | simp [Act.eval, Act.put]) HZ4.out HOL.out (sr_src (HOu.out.below (HWt.out _ hk))) HO1.out e1 e2 hk.size ?_
          intro v9 w9 ho9 hg9
          have hzo := nil_at (sz := 1) hz hg
          have HN9 := Lib.hid (HN8.out.grown hzo hg9)
          have HS9 := Lib.hid (row_grown HS8.out hzo hg9 (by decide))
          have h89 := Nat.le_trans hc hg9.size
          have hk := hk.grown hg9 hk.size (fun j hj => (hzo.lt j hj).1)
          rw [Nat.zero_add, List.nil_append] at ho9
          obtain ⟨A9, c9, rfl, -⟩ := rowR_owns ho9
          have HO9 := Lib.hid (owned_strs2 ho9 HOl.out)
          have hs9 := hk.size
          clear ho9 hg9 hzo hz hg hc
          (try go_simp)
          refine hK.out _ _ ?_ (fun hHeld => ?_)
          · ((try dsimp only); exact HS.out _ hk)
          clear hK K2 hHeld
          try simp only [Act.put, List.setIfInBounds_toArray, List.set_cons_zero, List.set_cons_succ]
          refine rh.go_next (i := 30) rfl (by kernel_rfl) (fun K2 hK => ?_)
          go_simp
          go_at_call 103
          refine (HWi.out AR cR _ (HWt.out _ hk) (HG3.out _ hk)).mono ?_
          rintro e w10 ⟨A10, c10, rfl, hr10, hb⟩
          have HK10 := Lib.hid (hk.trans (hb.mono hk.size))
          have h910 := hb.size
          have h810 := Nat.le_trans h89 h910
          have h710 := Nat.le_trans h78 h810
          have hR10 := big_parts (R := a.roots) (E := a.edges + b.edges) (HN9.out.on hb) (by rw [List.length_append, HLe.out.1, HLe.out.2.1]) ((HS9.out.on hb).wide (Nat.le_refl _) h810) HLe.out.2.2.1 ((HO9.out.on hb).wide (Nat.le_refl _) h910) HOl.out (hr10.wide hs9 (Nat.le_refl _)) HLe.out.2.2.2 hs7 h710
          rw [HUd.out] at hR10
          have HR10 := Lib.hid (hR10.wide (lo' := w.heap.size) hV0 (Nat.le_refl _))
          have HB10 := Lib.hid (HWt.out _ HK10.out)
          have HBx10 := Lib.hid (HBr3.out.on HK10.out)
          have hk := HK10.out
          clear hR10 hb hr10 HN5 HN6 HM6 HN7 HN8 HN9 HS8 HS9 HO9
          go_wp2_with fail
          refine hK.out _ _ ?_ (fun hHeld => ?_)
          · ((try dsimp only); exact HS.out _ hk)
          clear hK K2
          try simp only [Act.put, List.setIfInBounds_toArray, List.set_cons_zero, List.set_cons_succ]
          refine rh.go_take (i := 31) (v := ?v33) rfl (by kernel_rfl) (fun _ _ _ h => h) (Or.inl ⟨by rfl, ?hy33⟩) (by assumption) ?rest33
          case hy33 => (intro wS hSw; (try dsimp only at hSw); go_simp; try (with_reducible rfl))
          try simp only [Act.put, List.setIfInBounds_toArray, List.set_cons_zero, List.set_cons_succ]
          obtain ⟨z0, z1, z2, z3, z4, z5⟩ := HBx10.out.get
          have f0 := World.rowIs.frozen HBx10.out 0
          have f1 := World.rowIs.frozen HBx10.out 1
          have f2 := World.rowIs.frozen HBx10.out 2
          have f3 := World.rowIs.frozen HBx10.out 3
          have f4 := World.rowIs.frozen HBx10.out 4
          have f5 := World.rowIs.frozen HBx10.out 5
          refine rh.go_last rfl (by kernel_rfl) (fun K2 hK => ?_)
          go_simp
          refine hK.out _ _ ?_
          refine NoPanic.normal ?_
          clear hK K2
          go_wp2_with fail
          have hbig := (sets6_big HBx10.out HR10.out (.int .i64 a.roots) (.slice A7 (n1 + m1) c7) (.slice A8 m2 c8) (.int .i64 (a.edges + b.edges)) (.slice A9 no c9) (.slice A10 m5 c10)).here
          have hbel := sets6_below HB10.out (show w.heap.size ≤ w.heap.size + 2 by omega) (.int .i64 a.roots) (.slice A7 (n1 + m1) c7) (.slice A8 m2 c8) (.int .i64 (a.edges + b.edges)) (.slice A9 no c9) (.slice A10 m5 c10)
          unfold sets6 at hbig hbel
          exact bodyPost_ret (v := .agg #[.int .i64 a.roots, .slice A7 (n1 + m1) c7, .slice A8 m2 c8, .int .i64 (a.edges + b.edges), .slice A9 no c9, .slice A10 m5 c10]) (by simp [results, Tryz.results77, go_sem, z0, z1, z2, z3, z4, z5]) rfl ⟨_, rfl, hbig, hbel⟩
      · skip
        go_simp
        have hB := (Below.refl w6.heap.size w6).alloc (Nat.le_refl _) (.cells #[] 9)
        have hz : (w6.alloc (.cells #[] 9)).heap[w6.heap.size]? = some (.cells #[] 9) := World.alloc_heap_new w6 (.cells #[] 9)
        have hg := hk.size
        have hk := hk.trans (hB.mono hk.size)
        refine hK.out _ _ ?_ (fun hHeld => ?_)
        · ((try dsimp only); exact HS.out _ hk)
        clear hK K2 hHeld
        try simp only [Act.put, List.setIfInBounds_toArray, List.set_cons_zero, List.set_cons_succ]
        obtain ⟨WB, hWB⟩ : ∃ WB, w6.alloc (.cells #[] 9) = WB := ⟨_, rfl⟩
        rw [hWB] at hB hz hk ⊢
        have hc := Nat.le_trans hc hB.size
        (have HN6 := Lib.hid (HN6.out.on hB); have HM6 := Lib.hid (HM6.out.on hB))
        clear hWB hB
        refine rh.go_next (i := 13) rfl (by kernel_rfl) (fun K2 hK => ?_)
        have hCe := HM6.out.cells
        refine step_append_src rfl _ _ 26 rfl V.heap.size 96 i2 (.agg #[.int .i64 0, .int .i64 0, .slice none 0 0]) 3 40 Tryz.underlying26 HIn.out.1 HIn.out.2.1 HIn.out.2.2.1 HIn.out.2.2.2 rfl (by decide) _ _ _ (by first | rfl | simp [Act.eval, Act.put]) HN6.out.own A6 m1 c6 xs6 (by first | rfl | simp [Act.eval, Act.put]) hCe.1 hCe.2.1 hCe.2.2 (HM6.out.one HLe.out.2.1) e7 e8 hk.size ?_
        intro v7 w7 ho7 hg7
        have hz := nil_keep hz HN6.out.own hg7 (by decide)
        obtain ⟨A7, c7, rfl, hn7⟩ := ndo_join HN6.out HM6.out HLe.out.1 HLe.out.2.1 hs5 hs56 (Nat.le_trans hc hg7.size) ho7 hg7
        have HN7 := Lib.hid hn7
        have hk := hk.grown hg7 hk.size (fun j hj => (HN6.out.own.lt j hj).1)
        have hs7 := hk.size
        have hc := Nat.le_refl w7.heap.size
        clear ho7 hg7 hCe hn7
        (try go_simp)
        refine hK.out _ _ ?_ (fun hHeld => ?_)
        · ((try dsimp only); exact HS.out _ hk)
        clear hK K2 hHeld
        try simp only [Act.put, List.setIfInBounds_toArray, List.set_cons_zero, List.set_cons_succ]
        refine rh.go_next (i := 19) rfl (by kernel_rfl) (fun K2 hK => ?_)
        go_simp
        go_at_call 101
        refine (HSt.out AH cH _ (HWt.out _ hk) (HH3.out _ hk)).mono ?_
        rintro e w8 ⟨A8, c8, rfl, hr8, hb⟩
        have hz := (hb.block _ (Array.getElem?_eq_some_iff.1 hz).1).trans hz
        have HN8 := Lib.hid (HN7.out.on hb)
        have HS8 := Lib.hid (hr8.wide (lo' := w7.heap.size) hc (Nat.le_refl _))
        have h78 := Nat.le_trans hc hb.size
        have hk := hk.trans (hb.mono hk.size)
        have hc := Nat.le_refl w8.heap.size
        clear hb hr8
        go_wp2_with fail
        refine hK.out _ _ ?_ (fun hHeld => ?_)
        · ((try dsimp only); exact HS.out _ hk)
        clear hK K2 hHeld
        try simp only [Act.put, List.setIfInBounds_toArray, List.set_cons_zero, List.set_cons_succ]
        refine rh.go_next (i := 27) rfl (by kernel_rfl) (fun K2 hK => ?_)
        refine step_append_src rfl _ _ 28 rfl V.heap.size 9 i0 (.string ⟨#[]⟩) 1 16 Tryz.underlying28 HIs.out.1 HIs.out.2.1 HIs.out.2.2.1 HIs.out.2.2.2 rfl (by decide) _ _ _ (by first | rfl | simp [Act.eval, Act.put]) (nil_at hz hg) Ao no co (ou.map Value.string) (by first | rfl | simp [Act.eval, Act.put]) HZ4.out HOL.out (sr_src (HOu.out.below (HWt.out _ hk))) HO1.out e1 e2 hk.size ?_
        intro v9 w9 ho9 hg9
        have hzo := nil_at (sz := 1) hz hg
        have HN9 := Lib.hid (HN8.out.grown hzo hg9)
        have HS9 := Lib.hid (row_grown HS8.out hzo hg9 (by decide))
        have h89 := Nat.le_trans hc hg9.size
        have hk := hk.grown hg9 hk.size (fun j hj => (hzo.lt j hj).1)
        rw [Nat.zero_add, List.nil_append] at ho9
        obtain ⟨A9, c9, rfl, -⟩ := rowR_owns ho9
        have HO9 := Lib.hid (owned_strs2 ho9 HOl.out)
        have hs9 := hk.size
        clear ho9 hg9 hzo hz hg hc
        (try go_simp)
        refine hK.out _ _ ?_ (fun hHeld => ?_)
        · ((try dsimp only); exact HS.out _ hk)
        clear hK K2 hHeld
        try simp only [Act.put, List.setIfInBounds_toArray, List.set_cons_zero, List.set_cons_succ]
        refine rh.go_next (i := 30) rfl (by kernel_rfl) (fun K2 hK => ?_)
        go_simp
        go_at_call 103
        refine (HWi.out AR cR _ (HWt.out _ hk) (HG3.out _ hk)).mono ?_
        rintro e w10 ⟨A10, c10, rfl, hr10, hb⟩
        have HK10 := Lib.hid (hk.trans (hb.mono hk.size))
        have h910 := hb.size
        have h810 := Nat.le_trans h89 h910
        have h710 := Nat.le_trans h78 h810
        have hR10 := big_parts (R := a.roots) (E := a.edges + b.edges) (HN9.out.on hb) (by rw [List.length_append, HLe.out.1, HLe.out.2.1]) ((HS9.out.on hb).wide (Nat.le_refl _) h810) HLe.out.2.2.1 ((HO9.out.on hb).wide (Nat.le_refl _) h910) HOl.out (hr10.wide hs9 (Nat.le_refl _)) HLe.out.2.2.2 hs7 h710
        rw [HUd.out] at hR10
        have HR10 := Lib.hid (hR10.wide (lo' := w.heap.size) hV0 (Nat.le_refl _))
        have HB10 := Lib.hid (HWt.out _ HK10.out)
        have HBx10 := Lib.hid (HBr3.out.on HK10.out)
        have hk := HK10.out
        clear hR10 hb hr10 HN5 HN6 HM6 HN7 HN8 HN9 HS8 HS9 HO9
        go_wp2_with fail
        refine hK.out _ _ ?_ (fun hHeld => ?_)
        · ((try dsimp only); exact HS.out _ hk)
        clear hK K2
        try simp only [Act.put, List.setIfInBounds_toArray, List.set_cons_zero, List.set_cons_succ]
        refine rh.go_take (i := 31) (v := ?v34) rfl (by kernel_rfl) (fun _ _ _ h => h) (Or.inl ⟨by rfl, ?hy34⟩) (by assumption) ?rest34
        case hy34 => (intro wS hSw; (try dsimp only at hSw); go_simp; try (with_reducible rfl))
        try simp only [Act.put, List.setIfInBounds_toArray, List.set_cons_zero, List.set_cons_succ]
        obtain ⟨z0, z1, z2, z3, z4, z5⟩ := HBx10.out.get
        have f0 := World.rowIs.frozen HBx10.out 0
        have f1 := World.rowIs.frozen HBx10.out 1
        have f2 := World.rowIs.frozen HBx10.out 2
        have f3 := World.rowIs.frozen HBx10.out 3
        have f4 := World.rowIs.frozen HBx10.out 4
        have f5 := World.rowIs.frozen HBx10.out 5
        refine rh.go_last rfl (by kernel_rfl) (fun K2 hK => ?_)
        go_simp
        refine hK.out _ _ ?_
        refine NoPanic.normal ?_
        clear hK K2
        go_wp2_with fail
        have hbig := (sets6_big HBx10.out HR10.out (.int .i64 a.roots) (.slice A7 (n1 + m1) c7) (.slice A8 m2 c8) (.int .i64 (a.edges + b.edges)) (.slice A9 no c9) (.slice A10 m5 c10)).here
        have hbel := sets6_below HB10.out (show w.heap.size ≤ w.heap.size + 2 by omega) (.int .i64 a.roots) (.slice A7 (n1 + m1) c7) (.slice A8 m2 c8) (.int .i64 (a.edges + b.edges)) (.slice A9 no c9) (.slice A10 m5 c10)
        unfold sets6 at hbig hbel
        exact bodyPost_ret (v := .agg #[.int .i64 a.roots, .slice A7 (n1 + m1) c7, .slice A8 m2 c8, .int .i64 (a.edges + b.edges), .slice A9 no c9, .slice A10 m5 c10]) (by simp [results, Tryz.results77, go_sem, z0, z1, z2, z3, z4, z5]) rfl ⟨_, rfl, hbig, hbel⟩
    · skip
      go_simp
      have hB := (Below.refl w5.heap.size w5).alloc (Nat.le_refl _) (.cells #[] 9)
      have hz : (w5.alloc (.cells #[] 9)).heap[w5.heap.size]? = some (.cells #[] 9) := World.alloc_heap_new w5 (.cells #[] 9)
      have hg := hk.size
      have hk := hk.trans (hB.mono hk.size)
      refine hK.out _ _ ?_ (fun hHeld => ?_)
      · ((try dsimp only); exact HS.out _ hk)
      clear hK K2 hHeld
      try simp only [Act.put, List.setIfInBounds_toArray, List.set_cons_zero, List.set_cons_succ]
      obtain ⟨WB, hWB⟩ : ∃ WB, w5.alloc (.cells #[] 9) = WB := ⟨_, rfl⟩
      rw [hWB] at hB hz hk ⊢
      have hc := Nat.le_trans hc hB.size
      (have HN5 := Lib.hid (HN5.out.on hB))
      clear hWB hB
      refine rh.go_next (i := 12) rfl (by kernel_rfl) (fun K2 hK => ?_)
      go_simp
      go_at_call 102
      refine (HN2.out AH cH AR cR _ (HWt.out _ hk) (HH3.out _ hk) (HG3.out _ hk)).mono ?_
      rintro e w6 ⟨v6, xs6, LB, LD, rfl, hn6, hb⟩
      obtain ⟨A6, c6, rfl, -⟩ := hn6.src
      have hz := (hb.block _ (Array.getElem?_eq_some_iff.1 hz).1).trans hz
      have HN6 := Lib.hid (HN5.out.on hb)
      have HM6 := Lib.hid (hn6.low (lo' := w5.heap.size) hc)
      have hs56 := Nat.le_trans hc hb.size
      have hk := hk.trans (hb.mono hk.size)
      have hc := Nat.le_refl w6.heap.size
      clear hb hn6
      go_wp2_with fail
      refine hK.out _ _ ?_ (fun hHeld => ?_)
      · ((try dsimp only); exact HS.out _ hk)
      clear hK K2 hHeld
      try simp only [Act.put, List.setIfInBounds_toArray, List.set_cons_zero, List.set_cons_succ]
      refine rh.go_next (i := 13) rfl (by kernel_rfl) (fun K2 hK => ?_)
      have hCe := HM6.out.cells
      refine step_append_src rfl _ _ 26 rfl V.heap.size 96 i2 (.agg #[.int .i64 0, .int .i64 0, .slice none 0 0]) 3 40 Tryz.underlying26 HIn.out.1 HIn.out.2.1 HIn.out.2.2.1 HIn.out.2.2.2 rfl (by decide) _ _ _ (by first | rfl | simp [Act.eval, Act.put]) HN6.out.own A6 m1 c6 xs6 (by first | rfl | simp [Act.eval, Act.put]) hCe.1 hCe.2.1 hCe.2.2 (HM6.out.one HLe.out.2.1) e7 e8 hk.size ?_
      intro v7 w7 ho7 hg7
      have hz := nil_keep hz HN6.out.own hg7 (by decide)
      obtain ⟨A7, c7, rfl, hn7⟩ := ndo_join HN6.out HM6.out HLe.out.1 HLe.out.2.1 hs5 hs56 (Nat.le_trans hc hg7.size) ho7 hg7
      have HN7 := Lib.hid hn7
      have hk := hk.grown hg7 hk.size (fun j hj => (HN6.out.own.lt j hj).1)
      have hs7 := hk.size
      have hc := Nat.le_refl w7.heap.size
      clear ho7 hg7 hCe hn7
      (try go_simp)
      refine hK.out _ _ ?_ (fun hHeld => ?_)
      · ((try dsimp only); exact HS.out _ hk)
      clear hK K2 hHeld
      try simp only [Act.put, List.setIfInBounds_toArray, List.set_cons_zero, List.set_cons_succ]
      refine rh.go_next (i := 19) rfl (by kernel_rfl) (fun K2 hK => ?_)
      go_simp
      go_at_call 101
      refine (HSt.out AH cH _ (HWt.out _ hk) (HH3.out _ hk)).mono ?_
      rintro e w8 ⟨A8, c8, rfl, hr8, hb⟩
      have hz := (hb.block _ (Array.getElem?_eq_some_iff.1 hz).1).trans hz
      have HN8 := Lib.hid (HN7.out.on hb)
      have HS8 := Lib.hid (hr8.wide (lo' := w7.heap.size) hc (Nat.le_refl _))
      have h78 := Nat.le_trans hc hb.size
      have hk := hk.trans (hb.mono hk.size)
      have hc := Nat.le_refl w8.heap.size
      clear hb hr8
      go_wp2_with fail
      refine hK.out _ _ ?_ (fun hHeld => ?_)
      · ((try dsimp only); exact HS.out _ hk)
      clear hK K2 hHeld
      try simp only [Act.put, List.setIfInBounds_toArray, List.set_cons_zero, List.set_cons_succ]
      refine rh.go_next (i := 27) rfl (by kernel_rfl) (fun K2 hK => ?_)
      refine step_append_src rfl _ _ 28 rfl V.heap.size 9 i0 (.string ⟨#[]⟩) 1 16 Tryz.underlying28 HIs.out.1 HIs.out.2.1 HIs.out.2.2.1 HIs.out.2.2.2 rfl (by decide) _ _ _ (by first | rfl | simp [Act.eval, Act.put]) (nil_at hz hg) Ao no co (ou.map Value.string) (by first | rfl | simp [Act.eval, Act.put]) HZ4.out HOL.out (sr_src (HOu.out.below (HWt.out _ hk))) HO1.out e1 e2 hk.size ?_
      intro v9 w9 ho9 hg9
      have hzo := nil_at (sz := 1) hz hg
      have HN9 := Lib.hid (HN8.out.grown hzo hg9)
      have HS9 := Lib.hid (row_grown HS8.out hzo hg9 (by decide))
      have h89 := Nat.le_trans hc hg9.size
      have hk := hk.grown hg9 hk.size (fun j hj => (hzo.lt j hj).1)
      rw [Nat.zero_add, List.nil_append] at ho9
      obtain ⟨A9, c9, rfl, -⟩ := rowR_owns ho9
      have HO9 := Lib.hid (owned_strs2 ho9 HOl.out)
      have hs9 := hk.size
      clear ho9 hg9 hzo hz hg hc
      (try go_simp)
      refine hK.out _ _ ?_ (fun hHeld => ?_)
      · ((try dsimp only); exact HS.out _ hk)
      clear hK K2 hHeld
      try simp only [Act.put, List.setIfInBounds_toArray, List.set_cons_zero, List.set_cons_succ]
      refine rh.go_next (i := 30) rfl (by kernel_rfl) (fun K2 hK => ?_)
      go_simp
      go_at_call 103
      refine (HWi.out AR cR _ (HWt.out _ hk) (HG3.out _ hk)).mono ?_
      rintro e w10 ⟨A10, c10, rfl, hr10, hb⟩
      have HK10 := Lib.hid (hk.trans (hb.mono hk.size))
      have h910 := hb.size
      have h810 := Nat.le_trans h89 h910
      have h710 := Nat.le_trans h78 h810
      have hR10 := big_parts (R := a.roots) (E := a.edges + b.edges) (HN9.out.on hb) (by rw [List.length_append, HLe.out.1, HLe.out.2.1]) ((HS9.out.on hb).wide (Nat.le_refl _) h810) HLe.out.2.2.1 ((HO9.out.on hb).wide (Nat.le_refl _) h910) HOl.out (hr10.wide hs9 (Nat.le_refl _)) HLe.out.2.2.2 hs7 h710
      rw [HUd.out] at hR10
      have HR10 := Lib.hid (hR10.wide (lo' := w.heap.size) hV0 (Nat.le_refl _))
      have HB10 := Lib.hid (HWt.out _ HK10.out)
      have HBx10 := Lib.hid (HBr3.out.on HK10.out)
      have hk := HK10.out
      clear hR10 hb hr10 HN5 HN6 HM6 HN7 HN8 HN9 HS8 HS9 HO9
      go_wp2_with fail
      refine hK.out _ _ ?_ (fun hHeld => ?_)
      · ((try dsimp only); exact HS.out _ hk)
      clear hK K2
      try simp only [Act.put, List.setIfInBounds_toArray, List.set_cons_zero, List.set_cons_succ]
      refine rh.go_take (i := 31) (v := ?v35) rfl (by kernel_rfl) (fun _ _ _ h => h) (Or.inl ⟨by rfl, ?hy35⟩) (by assumption) ?rest35
      case hy35 => (intro wS hSw; (try dsimp only at hSw); go_simp; try (with_reducible rfl))
      try simp only [Act.put, List.setIfInBounds_toArray, List.set_cons_zero, List.set_cons_succ]
      obtain ⟨z0, z1, z2, z3, z4, z5⟩ := HBx10.out.get
      have f0 := World.rowIs.frozen HBx10.out 0
      have f1 := World.rowIs.frozen HBx10.out 1
      have f2 := World.rowIs.frozen HBx10.out 2
      have f3 := World.rowIs.frozen HBx10.out 3
      have f4 := World.rowIs.frozen HBx10.out 4
      have f5 := World.rowIs.frozen HBx10.out 5
      refine rh.go_last rfl (by kernel_rfl) (fun K2 hK => ?_)
      go_simp
      refine hK.out _ _ ?_
      refine NoPanic.normal ?_
      clear hK K2
      go_wp2_with fail
      have hbig := (sets6_big HBx10.out HR10.out (.int .i64 a.roots) (.slice A7 (n1 + m1) c7) (.slice A8 m2 c8) (.int .i64 (a.edges + b.edges)) (.slice A9 no c9) (.slice A10 m5 c10)).here
      have hbel := sets6_below HB10.out (show w.heap.size ≤ w.heap.size + 2 by omega) (.int .i64 a.roots) (.slice A7 (n1 + m1) c7) (.slice A8 m2 c8) (.int .i64 (a.edges + b.edges)) (.slice A9 no c9) (.slice A10 m5 c10)
      unfold sets6 at hbig hbel
      exact bodyPost_ret (v := .agg #[.int .i64 a.roots, .slice A7 (n1 + m1) c7, .slice A8 m2 c8, .int .i64 (a.edges + b.edges), .slice A9 no c9, .slice A10 m5 c10]) (by simp [results, Tryz.results77, go_sem, z0, z1, z2, z3, z4, z5]) rfl ⟨_, rfl, hbig, hbel⟩
  · go_simp
    have hk := hkA
    have hz := hzA
    have hg := Nat.le_refl V.heap.size
    refine hK.out _ _ ?_ (fun hHeld => ?_)
    · ((try dsimp only); exact HS.out _ hk)
    clear hK K2 hHeld
    try simp only [Act.put, List.setIfInBounds_toArray, List.set_cons_zero, List.set_cons_succ]
    obtain ⟨WB, hWB⟩ : ∃ WB, (V.alloc (.cells #[] 9)).drew = WB := ⟨_, rfl⟩
    rw [hWB] at hz hk ⊢
    clear hWB
    refine rh.go_next (i := 5) rfl (by kernel_rfl) (fun K2 hK => ?_)
    go_simp
    go_at_call 102
    refine (HN1.out Ar cr AL cL _ (HWt.out _ hk) (HR3.out _ hk) (HL3.out _ hk)).mono ?_
    rintro e w5 ⟨v5, xs5, LA, LC, rfl, hn5, hb⟩
    have hz := (hb.block _ (Array.getElem?_eq_some_iff.1 hz).1).trans hz
    have HN5 := Lib.hid (hn5.low (lo' := V.heap.size) hk.size)
    have hk := hk.trans (hb.mono hk.size)
    have hs5 := hk.size
    have hc := Nat.le_refl w5.heap.size
    clear hb hn5
    go_wp2_with fail
    refine hK.out _ _ ?_ (fun hHeld => ?_)
    · ((try dsimp only); exact HS.out _ hk)
    clear hK K2 hHeld
    try simp only [Act.put, List.setIfInBounds_toArray, List.set_cons_zero, List.set_cons_succ]
    refine rh.go_next (i := 12) rfl (by kernel_rfl) (fun K2 hK => ?_)
    go_simp
    go_at_call 102
    refine (HN2.out AH cH AR cR _ (HWt.out _ hk) (HH3.out _ hk) (HG3.out _ hk)).mono ?_
    rintro e w6 ⟨v6, xs6, LB, LD, rfl, hn6, hb⟩
    obtain ⟨A6, c6, rfl, -⟩ := hn6.src
    have hz := (hb.block _ (Array.getElem?_eq_some_iff.1 hz).1).trans hz
    have HN6 := Lib.hid (HN5.out.on hb)
    have HM6 := Lib.hid (hn6.low (lo' := w5.heap.size) hc)
    have hs56 := Nat.le_trans hc hb.size
    have hk := hk.trans (hb.mono hk.size)
    have hc := Nat.le_refl w6.heap.size
    clear hb hn6
    go_wp2_with fail
    refine hK.out _ _ ?_ (fun hHeld => ?_)
    · ((try dsimp only); exact HS.out _ hk)
    clear hK K2 hHeld
    try simp only [Act.put, List.setIfInBounds_toArray, List.set_cons_zero, List.set_cons_succ]
    refine rh.go_next (i := 13) rfl (by kernel_rfl) (fun K2 hK => ?_)
    have hCe := HM6.out.cells
    refine step_append_src rfl _ _ 26 rfl V.heap.size 96 i2 (.agg #[.int .i64 0, .int .i64 0, .slice none 0 0]) 3 40 Tryz.underlying26 HIn.out.1 HIn.out.2.1 HIn.out.2.2.1 HIn.out.2.2.2 rfl (by decide) _ _ _ (by first | rfl | simp [Act.eval, Act.put]) HN6.out.own A6 m1 c6 xs6 (by first | rfl | simp [Act.eval, Act.put]) hCe.1 hCe.2.1 hCe.2.2 (HM6.out.one HLe.out.2.1) e7 e8 hk.size ?_
    intro v7 w7 ho7 hg7
    have hz := nil_keep hz HN6.out.own hg7 (by decide)
    obtain ⟨A7, c7, rfl, hn7⟩ := ndo_join HN6.out HM6.out HLe.out.1 HLe.out.2.1 hs5 hs56 (Nat.le_trans hc hg7.size) ho7 hg7
    have HN7 := Lib.hid hn7
    have hk := hk.grown hg7 hk.size (fun j hj => (HN6.out.own.lt j hj).1)
    have hs7 := hk.size
    have hc := Nat.le_refl w7.heap.size
    clear ho7 hg7 hCe hn7
    (try go_simp)
    refine hK.out _ _ ?_ (fun hHeld => ?_)
    · ((try dsimp only); exact HS.out _ hk)
    clear hK K2 hHeld
    try simp only [Act.put, List.setIfInBounds_toArray, List.set_cons_zero, List.set_cons_succ]
    refine rh.go_next (i := 19) rfl (by kernel_rfl) (fun K2 hK => ?_)
    go_simp
    go_at_call 101
    refine (HSt.out AH cH _ (HWt.out _ hk) (HH3.out _ hk)).mono ?_
    rintro e w8 ⟨A8, c8, rfl, hr8, hb⟩
    have hz := (hb.block _ (Array.getElem?_eq_some_iff.1 hz).1).trans hz
    have HN8 := Lib.hid (HN7.out.on hb)
    have HS8 := Lib.hid (hr8.wide (lo' := w7.heap.size) hc (Nat.le_refl _))
    have h78 := Nat.le_trans hc hb.size
    have hk := hk.trans (hb.mono hk.size)
    have hc := Nat.le_refl w8.heap.size
    clear hb hr8
    go_wp2_with fail
    refine hK.out _ _ ?_ (fun hHeld => ?_)
    · ((try dsimp only); exact HS.out _ hk)
    clear hK K2 hHeld
    try simp only [Act.put, List.setIfInBounds_toArray, List.set_cons_zero, List.set_cons_succ]
    refine rh.go_next (i := 27) rfl (by kernel_rfl) (fun K2 hK => ?_)
    refine step_append_src rfl _ _ 28 rfl V.heap.size 9 i0 (.string ⟨#[]⟩) 1 16 Tryz.underlying28 HIs.out.1 HIs.out.2.1 HIs.out.2.2.1 HIs.out.2.2.2 rfl (by decide) _ _ _ (by first | rfl | simp [Act.eval, Act.put]) (nil_at hz hg) Ao no co (ou.map Value.string) (by first | rfl | simp [Act.eval, Act.put]) HZ4.out HOL.out (sr_src (HOu.out.below (HWt.out _ hk))) HO1.out e1 e2 hk.size ?_
    intro v9 w9 ho9 hg9
    have hzo := nil_at (sz := 1) hz hg
    have HN9 := Lib.hid (HN8.out.grown hzo hg9)
    have HS9 := Lib.hid (row_grown HS8.out hzo hg9 (by decide))
    have h89 := Nat.le_trans hc hg9.size
    have hk := hk.grown hg9 hk.size (fun j hj => (hzo.lt j hj).1)
    rw [Nat.zero_add, List.nil_append] at ho9
    obtain ⟨A9, c9, rfl, -⟩ := rowR_owns ho9
    have HO9 := Lib.hid (owned_strs2 ho9 HOl.out)
    have hs9 := hk.size
    clear ho9 hg9 hzo hz hg hc
    (try go_simp)
    refine hK.out _ _ ?_ (fun hHeld => ?_)
    · ((try dsimp only); exact HS.out _ hk)
    clear hK K2 hHeld
    try simp only [Act.put, List.setIfInBounds_toArray, List.set_cons_zero, List.set_cons_succ]
    refine rh.go_next (i := 30) rfl (by kernel_rfl) (fun K2 hK => ?_)
    go_simp
    go_at_call 103
    refine (HWi.out AR cR _ (HWt.out _ hk) (HG3.out _ hk)).mono ?_
    rintro e w10 ⟨A10, c10, rfl, hr10, hb⟩
    have HK10 := Lib.hid (hk.trans (hb.mono hk.size))
    have h910 := hb.size
    have h810 := Nat.le_trans h89 h910
    have h710 := Nat.le_trans h78 h810
    have hR10 := big_parts (R := a.roots) (E := a.edges + b.edges) (HN9.out.on hb) (by rw [List.length_append, HLe.out.1, HLe.out.2.1]) ((HS9.out.on hb).wide (Nat.le_refl _) h810) HLe.out.2.2.1 ((HO9.out.on hb).wide (Nat.le_refl _) h910) HOl.out (hr10.wide hs9 (Nat.le_refl _)) HLe.out.2.2.2 hs7 h710
    rw [HUd.out] at hR10
    have HR10 := Lib.hid (hR10.wide (lo' := w.heap.size) hV0 (Nat.le_refl _))
    have HB10 := Lib.hid (HWt.out _ HK10.out)
    have HBx10 := Lib.hid (HBr3.out.on HK10.out)
    have hk := HK10.out
    clear hR10 hb hr10 HN5 HN6 HM6 HN7 HN8 HN9 HS8 HS9 HO9
    go_wp2_with fail
    refine hK.out _ _ ?_ (fun hHeld => ?_)
    · ((try dsimp only); exact HS.out _ hk)
    clear hK K2
    try simp only [Act.put, List.setIfInBounds_toArray, List.set_cons_zero, List.set_cons_succ]
    refine rh.go_take (i := 31) (v := ?v36) rfl (by kernel_rfl) (fun _ _ _ h => h) (Or.inl ⟨by rfl, ?hy36⟩) (by assumption) ?rest36
    case hy36 => (intro wS hSw; (try dsimp only at hSw); go_simp; try (with_reducible rfl))
    try simp only [Act.put, List.setIfInBounds_toArray, List.set_cons_zero, List.set_cons_succ]
    obtain ⟨z0, z1, z2, z3, z4, z5⟩ := HBx10.out.get
    have f0 := World.rowIs.frozen HBx10.out 0
    have f1 := World.rowIs.frozen HBx10.out 1
    have f2 := World.rowIs.frozen HBx10.out 2
    have f3 := World.rowIs.frozen HBx10.out 3
    have f4 := World.rowIs.frozen HBx10.out 4
    have f5 := World.rowIs.frozen HBx10.out 5
    refine rh.go_last rfl (by kernel_rfl) (fun K2 hK => ?_)
    go_simp
    refine hK.out _ _ ?_
    refine NoPanic.normal ?_
    clear hK K2
    go_wp2_with fail
    have hbig := (sets6_big HBx10.out HR10.out (.int .i64 a.roots) (.slice A7 (n1 + m1) c7) (.slice A8 m2 c8) (.int .i64 (a.edges + b.edges)) (.slice A9 no c9) (.slice A10 m5 c10)).here
    have hbel := sets6_below HB10.out (show w.heap.size ≤ w.heap.size + 2 by omega) (.int .i64 a.roots) (.slice A7 (n1 + m1) c7) (.slice A8 m2 c8) (.int .i64 (a.edges + b.edges)) (.slice A9 no c9) (.slice A10 m5 c10)
    unfold sets6 at hbig hbel
    exact bodyPost_ret (v := .agg #[.int .i64 a.roots, .slice A7 (n1 + m1) c7, .slice A8 m2 c8, .int .i64 (a.edges + b.edges), .slice A9 no c9, .slice A10 m5 c10]) (by simp [results, Tryz.results77, go_sem, z0, z1, z2, z3, z4, z5]) rfl ⟨_, rfl, hbig, hbel⟩
end Go.Proofs.YtlpgldejmdiceabGreat.us
