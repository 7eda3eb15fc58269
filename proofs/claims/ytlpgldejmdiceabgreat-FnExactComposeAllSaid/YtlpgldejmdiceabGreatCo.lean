/- CloseName: what it makes. -/
import Derived.Test.YtlpgldejmdiceabGreatJo
import Derived.Test.YtlpgldejmdiceabGreatRk
import Derived.Test.YtlpgldejmdiceabGreatGv
import Derived.Test.YtlpgldejmdiceabGreatTm
namespace Go.Proofs.YtlpgldejmdiceabGreat.co
open kit bg sg opn strs only hb sig isig un over gn nm inn ht gd im pt marks eqs hc hi hw hn rs br bm bw cf lf ib isa lawb lw cl rt ix tg rl ed tp rtg lo nl lep rnp pm pl mb sb wb jo ek wk rk gv tm idl psp
open Go.RowKit
set_option linter.unusedVariables false
/-- the link that takes the place of an outer name -/
noncomputable def coE (b : Big) (s : ByteArray) (i : Nat) : Int := if (i : Int) = ixF b.outer s then b.edges else b.edges + 1 + ixF (lessL b.outer s) ((b.outer[i]?).getD noS)
noncomputable def coT (b : Big) (s : ByteArray) (k : Nat) : List Int := seqF 0 b.edges.toNat ++ (List.range k).map (coE b s)
section
variable {cs : List Ctl} {b : Big} {s : ByteArray}
theorem co_snoc (b : Big) (s : ByteArray) (k : Nat) : coT b s (k + 1) = coT b s k ++ [coE b s k] := by
  unfold coT
  rw [List.range_succ, List.map_append, List.append_assoc]
  rfl
theorem co_len (b : Big) (s : ByteArray) (k : Nat) : (coT b s k).length = b.edges.toNat + k := by
  unfold coT
  rw [List.length_append, seq_len, List.length_map, List.length_range]
theorem co_lk {k : Nat} (hE : 0 ≤ b.edges) {l : Int} (h0 : 0 ≤ l) (h : l < b.edges) : lkF (coT b s k) l = l := by
  obtain ⟨m, rfl⟩ : ∃ m : Nat, l = m := ⟨l.toNat, by omega⟩
  refine lkF_get ?_
  unfold coT
  rw [List.getElem?_append_left (by rw [seq_len]; omega), seq_get (by omega)]
  simp
theorem co_nm {k j : Nat} (hE : 0 ≤ b.edges) {l : Int} (hl : l - b.edges = j) (h : j < k) : lkF (coT b s k) l = coE b s j := by
  obtain ⟨m, rfl⟩ : ∃ m : Nat, l = m := ⟨l.toNat, by omega⟩
  refine lkF_get ?_
  unfold coT
  rw [List.getElem?_append_right (by rw [seq_len]; omega), seq_len, List.getElem?_map, show m - b.edges.toNat = j by omega, List.getElem?_range h]
  rfl
theorem co_link (hE : 0 ≤ b.edges) (hP : NamesP b.outer) (hf : s ∈ b.outer) {l : Int} (hl : 0 ≤ l ∧ l < b.edges + b.outer.length) :
    reL b (insF ⟨0, s⟩ ⟨b.edges, noS⟩) (b.edges + 1) (lessL b.outer s) l = lkF (coT b s b.outer.length) l := by
  have hfe := (name_ne hP hf).2
  by_cases h0 : l < b.edges
  · unfold reL
    rw [tgOf_edge h0, insF_no (fun h => hfe h.2.symm), lk_edge (by unfold isE noS; simp), co_lk hE hl.1 h0]
  · obtain ⟨k, hk⟩ : ∃ k : Nat, l - b.edges = k := ⟨(l - b.edges).toNat, by omega⟩
    have hkl : k < b.outer.length := by omega
    have hs : b.outer[k]? = some b.outer[k] := List.getElem?_eq_getElem hkl
    obtain ⟨u, hu⟩ : ∃ u, b.outer[k]'hkl = u := ⟨_, rfl⟩
    rw [hu] at hs
    rw [co_nm hE hk hkl]
    unfold reL coE
    rw [tgOf_name h0 hk hs, hs]
    rcases ixF_cases b.outer s with ⟨_, hno⟩ | ⟨j, hj, hjs, _⟩
    · exact absurd hf hno
    rw [hj]
    by_cases e : u = s
    · subst e
      have hkj := names_inj hP hs hjs
      subst hkj
      rw [insF_yes rfl rfl, lk_edge (by unfold isE noS; simp), if_pos rfl]
    · have hkj : ¬ ((k : Int) = (j : Int)) := fun e2 => by
        have e2 : k = j := by omega
        subst e2
        rw [hjs] at hs
        injection hs with hs
        exact e hs.symm
      rw [insF_no (fun h => e h.2), lk_name (show isE ⟨0, u⟩ = false from (name_ne hP (List.mem_of_getElem? hs)).1), if_neg hkj]
      rfl
theorem big_lks (hg : bigB cs b = true) : (∀ x ∈ b.nodes, ∀ l ∈ x.links, 0 ≤ l ∧ l < b.edges + b.outer.length) ∧ ∀ x ∈ b.inner, 0 ≤ x.link ∧ x.link < b.edges + b.outer.length := by
  have hlk : ∀ l : Int, inb l 0 (b.edges + b.outer.length - 1) = true → 0 ≤ l ∧ l < b.edges + b.outer.length := fun l h => by have := inb_true h; omega
  refine ⟨fun x hx l hl => ?_, fun x hx => ?_⟩
  · obtain ⟨k, hk⟩ := List.getElem?_of_mem hx
    obtain ⟨i, hi⟩ := List.getElem?_of_mem hl
    exact hlk l (((big_of hg).2.2.2.2.1 k x hk).2.2 i l hi)
  · obtain ⟨i, hi⟩ := List.getElem?_of_mem hx
    exact hlk x.link ((big_of hg).2.2.2.2.2.2 i x hi)
/-- a name closed -/
noncomputable def coB (b : Big) (s : ByteArray) : Big := rkB b (coT b s b.outer.length) (b.edges + 1) (lessL b.outer s)
theorem co_eq (hg : bigB cs b = true) (hf : s ∈ b.outer) : reB b (insF ⟨0, s⟩ ⟨b.edges, noS⟩) (b.edges + 1) (lessL b.outer s) = coB b s := by
  have hP := (big_of hg).2.2.1
  have hz := sizes_of (big_of hg).2.1
  have hL := big_lks hg
  unfold reB coB rkB
  rw [relB_congr (f := reL b (insF ⟨0, s⟩ ⟨b.edges, noS⟩) (b.edges + 1) (lessL b.outer s)) (g := lkF (coT b s b.outer.length)) (fun x hx l hl => co_link (by omega) hP hf (hL.1 x hx l hl)) (fun x hx => co_link (by omega) hP hf (hL.2 x hx))]
theorem tame_rk {f : Int → Int} {E : Int} {ou : List ByteArray} (hg : bigB cs b = true) (hS : BigS b) (hf : ∀ l, 0 ≤ l ∧ l < b.edges + b.outer.length → -1000 ≤ f l ∧ f l ≤ 1000) (hE : -1000 ≤ E ∧ E ≤ 1000) (ho : ou.length ≤ 1000) (hon : ∀ u ∈ ou, u.size ≤ 1048576) : Tame ⟨b.roots, (relB f b).nodes, b.sites, E, ou, (relB f b).inner⟩ := by
  have hb := tame_good hg hS
  have hL := big_lks hg
  exact
  { r := hb.r
    e := hE
    n := by show (b.nodes.map _).length ≤ 1000; rw [List.length_map]; exact hb.n
    nd := fun x hx => by
      obtain ⟨y, hy, rfl⟩ := List.mem_map.1 hx
      obtain ⟨h1, h2, h3, h4⟩ := hb.nd y hy
      refine ⟨h1, h2, by show (y.links.map _).length ≤ 1000; rw [List.length_map]; exact h3, fun l hl => ?_⟩
      obtain ⟨l0, hl0, rfl⟩ := List.mem_map.1 hl
      exact hf l0 (hL.1 y hy l0 hl0)
    s := hb.s
    st := hb.st
    o := ho
    on := hon
    i := by show (b.inner.map _).length ≤ 1000; rw [List.length_map]; exact hb.i
    iw := fun x hx => by
      obtain ⟨y, hy, rfl⟩ := List.mem_map.1 hx
      exact ⟨(hb.iw y hy).1, hf y.link (hL.2 y hy)⟩ }
theorem coE_in (hg : bigB cs b = true) (s : ByteArray) (i : Nat) : 0 ≤ coE b s i ∧ coE b s i ≤ 100 := by
  have hz := sizes_of (big_of hg).2.1
  unfold coE
  split
  · omega
  · have h1 := ixF_in (lessL b.outer s) ((b.outer[i]?).getD noS)
    have h2 := less_le b.outer s
    omega
open Classical in
theorem less_mem {ss : List ByteArray} {u : ByteArray} (h : u ∈ lessL ss s) : u ∈ ss := by unfold lessL at h; exact (List.mem_filter.1 h).1
theorem co_tame (hg : bigB cs b = true) (hS : BigS b) (s : ByteArray) : Tame (coB b s) := by
  have hz := sizes_of (big_of hg).2.1
  have hb := tame_good hg hS
  refine tame_rk hg hS (fun l hl => ?_) (by omega) (by have := less_le b.outer s; have := hb.o; omega) (fun u hu => hb.on u (less_mem hu))
  by_cases h0 : l < b.edges
  · rw [co_lk (by omega) hl.1 h0]
    omega
  · rw [co_nm (j := (l - b.edges).toNat) (by omega) (by omega) (by omega)]
    have := coE_in hg s (l - b.edges).toNat
    omega
noncomputable def coP (cs : List Ctl) (b : Big) (s : ByteArray) : Bool := bigB cs b && inB b.outer s
noncomputable def coQ (cs : List Ctl) (b : Big) (s : ByteArray) : Bool := coP cs b s && bigB cs (coB b s)
noncomputable def coR (cs : List Ctl) (b : Big) (s : ByteArray) : Big := if coP cs b s = true then giveR cs (coB b s) else zeroBig
theorem co_no (h : coP cs b s = false) : coQ cs b s = false ∧ coR cs b s = zeroBig := by
  unfold coQ coR
  rw [h]
  exact ⟨rfl, if_neg (by decide)⟩
theorem co_yes (h : coP cs b s = true) : coQ cs b s = bigB cs (coB b s) ∧ coR cs b s = giveR cs (coB b s) := by
  unfold coQ coR
  rw [h]
  exact ⟨rfl, if_pos rfl⟩
theorem coR_len (cs : List Ctl) (b : Big) (s : ByteArray) : bigMk (coR cs b s) ≤ 1048576 := by
  unfold coR
  split
  · exact give_len (fun h => big_mk h)
  · exact zero_len
end
end Go.Proofs.YtlpgldejmdiceabGreat.co
