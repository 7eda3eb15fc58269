/- A Bigraph after another one: what it is. -/
import Derived.Test.YtlpgldejmdiceabGreatCo
import Derived.Test.YtlpgldejmdiceabGreatNd
import Derived.Test.YtlpgldejmdiceabGreatFt
namespace Go.Proofs.YtlpgldejmdiceabGreat.uw
open kit bg sg opn strs only hb sig isig un over gn nm inn ht gd im pt marks eqs hc hi hw hn rs br bm bw cf lf ib isa lawb lw cl rt ix tg rl ed tp rtg lo nl lep rnp pm pl mb sb wb jo ek wk rk gv tm idl psp mrp mrs mri nd co ft
open Go.RowKit
set_option linter.unusedVariables false
theorem lk_low {z E l : Int} {xs : List Int} (hE : 0 ≤ E) (h0 : 0 ≤ l) (h : l < E) : lkF (seqF z E.toNat ++ xs) l = z + l := by
  obtain ⟨m, rfl⟩ : ∃ m : Nat, l = m := ⟨l.toNat, by omega⟩
  refine lkF_get ?_
  rw [List.getElem?_append_left (by rw [seq_len]; omega), seq_get (by omega)]
theorem lk_high {z E l y : Int} {xs : List Int} {k : Nat} (hE : 0 ≤ E) (hl : l - E = k) (h : xs[k]? = some y) : lkF (seqF z E.toNat ++ xs) l = y := by
  obtain ⟨m, rfl⟩ : ∃ m : Nat, l = m := ⟨l.toNat, by omega⟩
  refine lkF_get ?_
  rw [List.getElem?_append_right (by rw [seq_len]; omega), seq_len, show m - E.toNat = k by omega, h]
theorem name_at {b : Big} {l : Int} (hl : 0 ≤ l ∧ l < b.edges + b.outer.length) (h0 : ¬ l < b.edges) : ∃ (k : Nat) (u : ByteArray), l - b.edges = k ∧ b.outer[k]? = some u := by
  have hk : (l - b.edges).toNat < b.outer.length := by omega
  exact ⟨(l - b.edges).toNat, _, by omega, List.getElem?_eq_getElem hk⟩
theorem tg_edge_in {b : Big} {l : Int} (hl : 0 ≤ l ∧ l < b.edges + b.outer.length) (hE : b.edges ≤ 8) : -1000 ≤ (tgOf b l).edge ∧ (tgOf b l).edge ≤ 1000 := by
  by_cases h0 : l < b.edges
  · rw [tgOf_edge h0]
    exact ⟨by show -1000 ≤ l; omega, by show l ≤ 1000; omega⟩
  · obtain ⟨k, u, hk, hu⟩ := name_at hl h0
    rw [tgOf_name h0 hk hu]
    exact ⟨by show (-1000 : Int) ≤ 0; decide, by show (0 : Int) ≤ 1000; decide⟩
theorem noS_edge (l : Int) : isE ⟨l, noS⟩ = true := by unfold isE noS; simp
theorem tg_name {b : Big} {l : Int} (hl : 0 ≤ l ∧ l < b.edges + b.outer.length) (hn : isE (tgOf b l) = false) : (tgOf b l).name ∈ b.outer := by
  by_cases h0 : l < b.edges
  · rw [tgOf_edge h0, noS_edge] at hn
    cases hn
  · obtain ⟨k, u, hk, hu⟩ := name_at hl h0
    rw [tgOf_name h0 hk hu]
    exact List.mem_of_getElem? hu
/-- the links of a Bigraph whose edges begin at z, and whose names are among others -/
noncomputable def lkL (z E : Int) (b : Big) (ou : List ByteArray) : List Int := seqF z b.edges.toNat ++ nmdL E ou b.outer
theorem lkL_len (z E : Int) (b : Big) (ou : List ByteArray) : (lkL z E b ou).length = b.edges.toNat + b.outer.length := by unfold lkL; rw [List.length_append, seq_len, nmd_len]
theorem lkL_edge {z E l : Int} {b : Big} {ou : List ByteArray} (hE : 0 ≤ b.edges) (h0 : 0 ≤ l) (h : l < b.edges) : lkF (lkL z E b ou) l = z + l := lk_low hE h0 h
theorem lkL_name {z E l : Int} {b : Big} {ou : List ByteArray} {k : Nat} {u : ByteArray} (hE : 0 ≤ b.edges) (hl : l - b.edges = k) (h : b.outer[k]? = some u) : lkF (lkL z E b ou) l = E + ixF ou u := lk_high hE hl (nmd_at h)
/-- edges behind so many others -/
def behF (k : Int) (t : Tgt) : Tgt := if isE t = true then ⟨t.edge + k, t.name⟩ else t
theorem behF_edge {k : Int} {t : Tgt} (h : isE t = true) : behF k t = ⟨t.edge + k, t.name⟩ := if_pos h
theorem behF_name {k : Int} {t : Tgt} (h : isE t = false) : behF k t = t := by unfold behF; rw [if_neg (by rw [h]; decide)]
theorem reL_beh {b : Big} {k E l : Int} {ou : List ByteArray} (hE : 0 ≤ b.edges) (hP : NamesP b.outer) (hl : 0 ≤ l ∧ l < b.edges + b.outer.length) : reL b (behF k) E ou l = lkF (lkL k E b ou) l := by
  unfold reL
  by_cases h0 : l < b.edges
  · rw [tgOf_edge h0, behF_edge (noS_edge l), lk_edge (noS_edge _), lkL_edge hE hl.1 h0]
    show l + k = k + l
    omega
  · obtain ⟨j, u, hj, hu⟩ := name_at hl h0
    have hn : isE ⟨0, u⟩ = false := (name_ne hP (List.mem_of_getElem? hu)).1
    rw [tgOf_name h0 hj hu, behF_name hn, lk_name hn, lkL_name hE hj hu]
theorem reL_id {b : Big} {E l : Int} {ou : List ByteArray} (hE : 0 ≤ b.edges) (hP : NamesP b.outer) (hl : 0 ≤ l ∧ l < b.edges + b.outer.length) : reL b (fun t => t) E ou l = lkF (lkL 0 E b ou) l := by
  unfold reL
  by_cases h0 : l < b.edges
  · rw [tgOf_edge h0, lk_edge (noS_edge _), lkL_edge hE hl.1 h0]
    show l = 0 + l
    omega
  · obtain ⟨j, u, hj, hu⟩ := name_at hl h0
    have hn : isE ⟨0, u⟩ = false := (name_ne hP (List.mem_of_getElem? hu)).1
    rw [tgOf_name h0 hj hu, lk_name hn, lkL_name hE hj hu]
/-- the link of an inner name -/
def inL (a : Big) (i : Nat) : Int := match a.inner[i]? with
  | some x => x.link
  | none => 0
theorem inL_at {a : Big} {i : Nat} {x : Wr} (h : a.inner[i]? = some x) : inL a i = x.link := by unfold inL; rw [h]
noncomputable def cmF (a b : Big) (t : Tgt) : Tgt := if isE t = true then ⟨t.edge + a.edges, t.name⟩ else tgOf a (inL a (ixF b.outer t.name).toNat)
theorem cmF_edge {a b : Big} {t : Tgt} (h : isE t = true) : cmF a b t = ⟨t.edge + a.edges, t.name⟩ := if_pos h
theorem cmF_name {a b : Big} {t : Tgt} (h : isE t = false) : cmF a b t = tgOf a (inL a (ixF b.outer t.name).toNat) := by unfold cmF; rw [if_neg (by rw [h]; decide)]
noncomputable def blL (a : Big) (E : Int) (ou : List ByteArray) : List Int := a.inner.map (fun x => lkF (lkL 0 E a ou) x.link)
noncomputable def rgL (a b : Big) (E : Int) (ou : List ByteArray) : List Int := seqF a.edges b.edges.toNat ++ blL a E ou
theorem rgL_len (a b : Big) (E : Int) (ou : List ByteArray) : (rgL a b E ou).length = b.edges.toNat + a.inner.length := by unfold rgL blL; rw [List.length_append, seq_len, List.length_map]
theorem ix_own {ss : List ByteArray} (hP : NamesP ss) {k : Nat} {u : ByteArray} (h : ss[k]? = some u) : ixF ss u = k := by
  rcases ixF_cases ss u with ⟨_, hno⟩ | ⟨j, hj, hjs, _⟩
  · exact absurd (List.mem_of_getElem? h) hno
  · rw [hj, names_inj hP hjs h]
theorem reL_cm {a b : Big} {E l : Int} {ou : List ByteArray} (hEa : 0 ≤ a.edges) (hEb : 0 ≤ b.edges) (hPa : NamesP a.outer) (hPb : NamesP b.outer) (hin : a.inner.length = b.outer.length) (hla : ∀ x ∈ a.inner, 0 ≤ x.link ∧ x.link < a.edges + a.outer.length) (hl : 0 ≤ l ∧ l < b.edges + b.outer.length) : reL b (cmF a b) E ou l = lkF (rgL a b E ou) l := by
  unfold rgL
  by_cases h0 : l < b.edges
  · unfold reL
    rw [tgOf_edge h0, cmF_edge (noS_edge l), lk_edge (noS_edge _), lk_low hEb hl.1 h0]
    show l + a.edges = a.edges + l
    omega
  · obtain ⟨j, u, hj, hu⟩ := name_at hl h0
    have hn : isE ⟨0, u⟩ = false := (name_ne hPb (List.mem_of_getElem? hu)).1
    have hjl : j < a.inner.length := by rw [hin]; exact (List.getElem?_eq_some_iff.1 hu).1
    obtain ⟨x, hx⟩ : ∃ x, a.inner[j]? = some x := ⟨_, List.getElem?_eq_getElem hjl⟩
    rw [lk_high (y := lkF (lkL 0 E a ou) x.link) hEb hj (by unfold blL; rw [List.getElem?_map, hx]; rfl), ← reL_id hEa hPa (hla x (List.mem_of_getElem? hx))]
    unfold reL
    rw [tgOf_name h0 hj hu, cmF_name hn]
    show lkOf E ou (tgOf a (inL a (ixF b.outer u).toNat)) = _
    rw [ix_own hPb hu, Int.toNat_natCast, inL_at hx]
theorem toF_pc {zs : List Int} {N : Int} : toF (fun r => zs.getD r.toNat 0) N = pcF zs N := by
  funext p
  unfold toF pcF
  by_cases h : p < 0
  · rw [if_pos h, if_pos h]
  · rw [if_neg h, if_neg h, Int.add_comm]
/-- a Bigraph under the sites of another one -/
noncomputable def udB (a b : Big) (ou : List ByteArray) (lf rg : List Int) : Big :=
  ⟨a.roots, (relB (lkF lf) a).nodes ++ (plB (pcF a.sites a.nodes.length) (relB (lkF rg) b)).nodes, b.sites.map (pcF a.sites a.nodes.length), a.edges + b.edges, ou, (relB (lkF rg) b).inner⟩
/-- a Bigraph after another one -/
noncomputable def cpB (a b : Big) : Big := udB a b a.outer (lkL 0 (a.edges + b.edges) a a.outer) (rgL a b (a.edges + b.edges) a.outer)
theorem relB_congr' {cs : List Ctl} {f g : Int → Int} {b : Big} (hg : bigB cs b = true) (h : ∀ l, 0 ≤ l ∧ l < b.edges + b.outer.length → f l = g l) : relB f b = relB g b :=
  relB_congr (fun x hx l hl => h l ((big_lks hg).1 x hx l hl)) (fun x hx => h x.link ((big_lks hg).2 x hx))
theorem fit_of {a b : Big} (h : fitB a b = true) : (a.sites.length : Int) = b.roots ∧ nms a.inner = b.outer ∧ a.inner.length = b.outer.length := by
  unfold fitB at h
  simp only [Bool.and_eq_true, decide_eq_true_eq] at h
  exact ⟨h.1, h.2, by rw [← h.2]; unfold nms; rw [List.length_map]⟩
theorem above_eq {cs : List Ctl} {a : Big} {E : Int} {ou : List ByteArray} (hg : bigB cs a = true) : relB (reL a (fun t => t) E ou) a = relB (lkF (lkL 0 E a ou)) a := by
  have hz := sizes_of (big_of hg).2.1
  exact relB_congr' hg (fun l hl => reL_id (by omega) (big_of hg).2.2.1 hl)
theorem beh_eq {cs : List Ctl} {b : Big} {k E : Int} {ou : List ByteArray} (hg : bigB cs b = true) : relB (reL b (behF k) E ou) b = relB (lkF (lkL k E b ou)) b := by
  have hz := sizes_of (big_of hg).2.1
  exact relB_congr' hg (fun l hl => reL_beh (by omega) (big_of hg).2.2.1 hl)
theorem below_eq {cs : List Ctl} {a b : Big} {E : Int} {ou : List ByteArray} (ha : bigB cs a = true) (hb : bigB cs b = true) (hf : fitB a b = true) : relB (reL b (cmF a b) E ou) b = relB (lkF (rgL a b E ou)) b := by
  have hz := sizes_of (big_of ha).2.1
  have hy := sizes_of (big_of hb).2.1
  exact relB_congr' hb (fun l hl => reL_cm (by omega) (by omega) (big_of ha).2.2.1 (big_of hb).2.2.1 (fit_of hf).2.2 (big_lks ha).2 hl)
theorem pc_in {zs : List Int} {N p : Int} (hz : ∀ z ∈ zs, -1000 ≤ z ∧ z ≤ 1000) (hN : 0 ≤ N ∧ N ≤ 100) (hp : p ≤ 100) : -1000 ≤ pcF zs N p ∧ pcF zs N p ≤ 1000 := by
  unfold pcF
  split
  · rw [List.getD_eq_getElem?_getD]
    cases h : zs[(-1 - p).toNat]? with
    | none => exact ⟨by show (-1000 : Int) ≤ 0; decide, by show (0 : Int) ≤ 1000; decide⟩
    | some z => exact hz z (List.mem_of_getElem? h)
  · omega
theorem par_le {cs : List Ctl} {b : Big} (hg : bigB cs b = true) : (∀ x ∈ b.nodes, -b.roots ≤ x.parent ∧ x.parent ≤ 8) ∧ ∀ z ∈ b.sites, -b.roots ≤ z ∧ z ≤ 8 := by
  have h := good_sites hg
  refine ⟨fun x hx => ?_, fun z hz => ?_⟩
  · obtain ⟨k, hk⟩ := List.getElem?_of_mem hx
    have h1 := h.1 k x hk
    have h2 := h.2.1 k x hk
    have := (List.getElem?_eq_some_iff.1 hk).1
    omega
  · obtain ⟨k, hk⟩ := List.getElem?_of_mem hz
    have := h.2.2.1 k z hk
    omega
/-- two rows of nodes, the second one with other places -/
theorem tame_two {cs : List Ctl} {a b : Big} {f g p : Int → Int} {R E : Int} {ss : List Int} {ou : List ByteArray} {ws : List Wr} (ha : bigB cs a = true) (hb : bigB cs b = true) (hSa : BigS a) (hSb : BigS b) (hR : -1000 ≤ R ∧ R ≤ 1000) (hE : -1000 ≤ E ∧ E ≤ 1000)
    (hf : ∀ l, 0 ≤ l ∧ l < a.edges + a.outer.length → -1000 ≤ f l ∧ f l ≤ 1000) (hg : ∀ l, 0 ≤ l ∧ l < b.edges + b.outer.length → -1000 ≤ g l ∧ g l ≤ 1000) (hp : ∀ q, -b.roots ≤ q ∧ q ≤ 8 → -1000 ≤ p q ∧ p q ≤ 1000)
    (hs : ss.length ≤ 1000) (hst : ∀ z ∈ ss, -1000 ≤ z ∧ z ≤ 1000) (ho : ou.length ≤ 1000) (hon : ∀ u ∈ ou, u.size ≤ 1048576) (hw : ws.length ≤ 1000) (hiw : ∀ x ∈ ws, x.name.size ≤ 1048576 ∧ -1000 ≤ x.link ∧ x.link ≤ 1000) :
    Tame ⟨R, (relB f a).nodes ++ (plB p (relB g b)).nodes, ss, E, ou, ws⟩ := by
  have ta := tame_good ha hSa
  have tb := tame_good hb hSb
  have hya := sizes_of (big_of ha).2.1
  have hyb := sizes_of (big_of hb).2.1
  have la := big_lks ha
  have lb := big_lks hb
  have pb := par_le hb
  exact
  { r := hR
    e := hE
    n := by simp only [relB, plB, List.length_append, List.length_map]; omega
    nd := fun x hx => by
      rcases List.mem_append.1 hx with h | h
      · obtain ⟨y, hy, rfl⟩ := List.mem_map.1 h
        obtain ⟨h1, h2, h3, h4⟩ := ta.nd y hy
        refine ⟨h1, h2, by simp only [List.length_map]; exact h3, fun l hl => ?_⟩
        obtain ⟨l0, hl0, rfl⟩ := List.mem_map.1 hl
        exact hf l0 (la.1 y hy l0 hl0)
      · obtain ⟨y', hy', rfl⟩ := List.mem_map.1 h
        obtain ⟨y, hy, rfl⟩ := List.mem_map.1 hy'
        obtain ⟨h1, h2, h3, h4⟩ := tb.nd y hy
        refine ⟨h1, hp _ (pb.1 y hy), by simp only [List.length_map]; exact h3, fun l hl => ?_⟩
        obtain ⟨l0, hl0, rfl⟩ := List.mem_map.1 hl
        exact hg l0 (lb.1 y hy l0 hl0)
    s := hs
    st := hst
    o := ho
    on := hon
    i := hw
    iw := hiw }
theorem lkL_in {cs : List Ctl} {z E : Int} {b : Big} {ou : List ByteArray} (hg : bigB cs b = true) (hz : 0 ≤ z ∧ z ≤ 100) (hE : 0 ≤ E ∧ E ≤ 100) (ho : ou.length ≤ 100) {l : Int} (hl : 0 ≤ l ∧ l < b.edges + b.outer.length) : -1 ≤ lkF (lkL z E b ou) l ∧ lkF (lkL z E b ou) l ≤ 300 := by
  have hy := sizes_of (big_of hg).2.1
  by_cases h0 : l < b.edges
  · rw [lkL_edge (by omega) hl.1 h0]
    omega
  · obtain ⟨j, u, hj, hu⟩ := name_at hl h0
    rw [lkL_name (by omega) hj hu]
    have := ixF_in ou u
    omega
theorem rgL_in {cs : List Ctl} {a b : Big} {E : Int} {ou : List ByteArray} (ha : bigB cs a = true) (hb : bigB cs b = true) (hin : a.inner.length = b.outer.length) (hE : 0 ≤ E ∧ E ≤ 100) (ho : ou.length ≤ 100) {l : Int} (hl : 0 ≤ l ∧ l < b.edges + b.outer.length) : -1 ≤ lkF (rgL a b E ou) l ∧ lkF (rgL a b E ou) l ≤ 300 := by
  have hya := sizes_of (big_of ha).2.1
  have hyb := sizes_of (big_of hb).2.1
  unfold rgL
  by_cases h0 : l < b.edges
  · rw [lk_low (by omega) hl.1 h0]
    omega
  · obtain ⟨j, u, hj, hu⟩ := name_at hl h0
    have hjl : j < a.inner.length := by rw [hin]; exact (List.getElem?_eq_some_iff.1 hu).1
    obtain ⟨x, hx⟩ : ∃ x, a.inner[j]? = some x := ⟨_, List.getElem?_eq_getElem hjl⟩
    rw [lk_high (y := lkF (lkL 0 E a ou) x.link) (by omega) hj (by unfold blL; rw [List.getElem?_map, hx]; rfl)]
    exact lkL_in ha ⟨by decide, by decide⟩ hE ho ((big_lks ha).2 x (List.mem_of_getElem? hx))
theorem cp_tame {cs : List Ctl} {a b : Big} (ha : bigB cs a = true) (hb : bigB cs b = true) (hf : fitB a b = true) (hSa : BigS a) (hSb : BigS b) : Tame (cpB a b) := by
  have hya := sizes_of (big_of ha).2.1
  have hyb := sizes_of (big_of hb).2.1
  have hin := (fit_of hf).2.2
  have tb := tame_good hb hSb
  have ta := tame_good ha hSa
  have hpc : ∀ q, -b.roots ≤ q ∧ q ≤ 8 → -1000 ≤ pcF a.sites a.nodes.length q ∧ pcF a.sites a.nodes.length q ≤ 1000 := fun q hq => pc_in (fun z hz => ta.st z hz) ⟨by omega, by omega⟩ (by omega)
  unfold cpB udB
  refine tame_two ha hb hSa hSb (by omega) (by omega) (fun l hl => ?_) (fun l hl => ?_) hpc (by rw [List.length_map]; omega) (fun z hz => ?_) (by omega) ta.on (by simp only [relB, List.length_map]; omega) (fun x hx => ?_)
  · have := lkL_in (z := 0) (E := a.edges + b.edges) (ou := a.outer) ha ⟨by decide, by decide⟩ ⟨by omega, by omega⟩ (by omega) hl
    omega
  · have := rgL_in (E := a.edges + b.edges) (ou := a.outer) ha hb hin ⟨by omega, by omega⟩ (by omega) hl
    omega
  · obtain ⟨y, hy, rfl⟩ := List.mem_map.1 hz
    exact hpc y ((par_le hb).2 y hy)
  · obtain ⟨y, hy, rfl⟩ := List.mem_map.1 hx
    have := rgL_in (E := a.edges + b.edges) (ou := a.outer) ha hb hin ⟨by omega, by omega⟩ (by omega) ((big_lks hb).2 y hy)
    exact ⟨(tb.iw y hy).1, by show -1000 ≤ lkF _ y.link; omega, by show lkF _ y.link ≤ 1000; omega⟩
theorem cp_parts {cs : List Ctl} {a b : Big} (ha : bigB cs a = true) (hb : bigB cs b = true) (hf : fitB a b = true) :
    (⟨a.roots, (reB a (fun t => t) (a.edges + b.edges) a.outer).nodes ++ (plB (toF (fun r => a.sites.getD r.toNat 0) a.nodes.length) (reB b (cmF a b) (a.edges + b.edges) a.outer)).nodes, (plB (toF (fun r => a.sites.getD r.toNat 0) a.nodes.length) (reB b (cmF a b) (a.edges + b.edges) a.outer)).sites, a.edges + b.edges, (reB a (fun t => t) (a.edges + b.edges) a.outer).outer, (plB (toF (fun r => a.sites.getD r.toNat 0) a.nodes.length) (reB b (cmF a b) (a.edges + b.edges) a.outer)).inner⟩ : Big) = cpB a b := by
  rw [toF_pc]
  unfold reB
  rw [above_eq ha, below_eq ha hb hf]
  rfl
/-- other links keep the places -/
theorem gs_rel {cs : List Ctl} {b : Big} {f : Int → Int} {E : Int} {ou : List ByteArray} (hg : bigB cs b = true) : abv.Up (relB f b).nodes ∧ Dn (relB f b).nodes b.roots ∧ (∀ (i : Nat) z, b.sites[i]? = some z → -b.roots ≤ z ∧ z < (relB f b).nodes.length) ∧ 0 ≤ b.roots ∧ b.roots ≤ 4 ∧ (relB f b).nodes.length ≤ 8 ∧ b.sites.length ≤ 4 := by
  have h := good_sites hg
  have hl : (relB f b).nodes.length = b.nodes.length := by simp only [relB, List.length_map]
  rw [hl]
  refine ⟨fun k x hx => ?_, fun k x hx => ?_, h.2.2⟩
  · have hx : (b.nodes.map (fun x => (⟨x.control, x.parent, x.links.map f⟩ : Nd)))[k]? = some x := hx
    rw [List.getElem?_map] at hx
    obtain ⟨y, hy, rfl⟩ := Option.map_eq_some_iff.1 hx
    exact h.1 k y hy
  · have hx : (b.nodes.map (fun x => (⟨x.control, x.parent, x.links.map f⟩ : Nd)))[k]? = some x := hx
    rw [List.getElem?_map] at hx
    obtain ⟨y, hy, rfl⟩ := Option.map_eq_some_iff.1 hx
    exact h.2.1 k y hy
theorem rb_tame {cs : List Ctl} {a b : Big} (ha : bigB cs a = true) (hb : bigB cs b = true) (hf : fitB a b = true) (hSa : BigS a) (hSb : BigS b) : Tame (reB b (cmF a b) (a.edges + b.edges) a.outer) := by
  have hya := sizes_of (big_of ha).2.1
  have hyb := sizes_of (big_of hb).2.1
  have ta := tame_good ha hSa
  refine tame_rk hb hSb (fun l hl => ?_) (by omega) (by omega) ta.on
  rw [reL_cm (by omega) (by omega) (big_of ha).2.2.1 (big_of hb).2.2.1 (fit_of hf).2.2 (big_lks ha).2 hl]
  have := rgL_in (E := a.edges + b.edges) (ou := a.outer) ha hb (fit_of hf).2.2 ⟨by omega, by omega⟩ (by omega) hl
  omega
noncomputable def cpP (cs : List Ctl) (a b : Big) : Bool := bigB cs a && bigB cs b && fitB a b
noncomputable def cpQ (cs : List Ctl) (a b : Big) : Bool := cpP cs a b && bigB cs (cpB a b)
noncomputable def cpR (cs : List Ctl) (a b : Big) : Big := if cpP cs a b = true then giveR cs (cpB a b) else zeroBig
theorem cp_no {cs : List Ctl} {a b : Big} (h : cpP cs a b = false) : cpQ cs a b = false ∧ cpR cs a b = zeroBig := by
  unfold cpQ cpR
  rw [h]
  exact ⟨rfl, if_neg (by decide)⟩
theorem cp_yes {cs : List Ctl} {a b : Big} (h : cpP cs a b = true) : cpQ cs a b = bigB cs (cpB a b) ∧ cpR cs a b = giveR cs (cpB a b) := by
  unfold cpQ cpR
  rw [h]
  exact ⟨rfl, if_pos rfl⟩
theorem cpR_len (cs : List Ctl) (a b : Big) : bigMk (cpR cs a b) ≤ 1048576 := by
  unfold cpR
  split
  · exact give_len (fun h => big_mk h)
  · exact zero_len
end Go.Proofs.YtlpgldejmdiceabGreat.uw
