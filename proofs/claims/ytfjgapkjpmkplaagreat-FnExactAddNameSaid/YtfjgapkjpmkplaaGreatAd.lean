/- A further outer name: what it makes. -/
import Derived.Test.YtfjgapkjpmkplaaGreatJx
import Derived.Test.YtfjgapkjpmkplaaGreatLo
import Derived.Test.YtfjgapkjpmkplaaGreatNw
namespace Go.Proofs.YtfjgapkjpmkplaaGreat.ad
open kit bg sg opn strs only hb sig isig un over gn nm inn ht gd im pt marks eqs hc hi hw hn rs br bm bw cf lf ib isa lawb lw cl rt ix tg rl ed tp rtg lo nl lep rnp pm pl mb sb wb jo ek wk rk gv tm idl psp mrp mrs mri nd co ft uw nj sf mg sd jx nw su
set_option linter.unusedVariables false
noncomputable def adO (b : Big) (s : ByteArray) : List ByteArray := sortU (b.outer ++ [s])
noncomputable def adB (b : Big) (s : ByteArray) : Big := ouB b b.outer (adO b s)
noncomputable def adP (cs : List Ctl) (b : Big) (s : ByteArray) : Bool := bigB cs b && apB b.outer [s]
noncomputable def adQ (cs : List Ctl) (b : Big) (s : ByteArray) : Bool := adP cs b s && bigB cs (adB b s)
noncomputable def adR (cs : List Ctl) (b : Big) (s : ByteArray) : Big := if adP cs b s = true then giveR cs (adB b s) else zeroBig
theorem ad_no {cs : List Ctl} {b : Big} {s : ByteArray} (h : adP cs b s = false) : adQ cs b s = false ∧ adR cs b s = zeroBig := by
  unfold adQ adR
  rw [h]
  exact ⟨rfl, if_neg (by decide)⟩
theorem ad_yes {cs : List Ctl} {b : Big} {s : ByteArray} (h : adP cs b s = true) : adQ cs b s = bigB cs (adB b s) ∧ adR cs b s = giveR cs (adB b s) := by
  unfold adQ adR
  rw [h]
  exact ⟨rfl, if_pos rfl⟩
theorem adR_len (cs : List Ctl) (b : Big) (s : ByteArray) : bigMk (adR cs b s) ≤ 1048576 := by
  unfold adR
  split
  · exact give_len (fun h => big_mk h)
  · exact zero_len
/-- the new name alone -/
noncomputable def nnB (s : ByteArray) : Big := wiring 0 [s] []
theorem names_one {s : ByteArray} : NamesP [s] ↔ nameB s = true := by
  constructor
  · intro h
    exact h.1 0 s rfl
  · intro h
    refine ⟨fun k u hk => ?_, fun k a b ha hb => ?_⟩
    · match k, hk with
      | 0, hk => injection hk with hk; rw [← hk]; exact h
      | k + 1, hk => cases hk
    · match k, hb with
      | 0, hb => cases hb
      | k + 1, hb => cases hb
theorem face_one (s : ByteArray) : faceB [s] 16 = nameB s := by
  unfold faceB
  cases h : nameB s with
  | true => rw [names_true (names_one.2 h)]; rfl
  | false => rw [names_false (fun hn => by rw [names_one.1 hn] at h; cases h)]; rfl
theorem ap_nil (xs : List ByteArray) : apB xs [] = true := ap_of (fun x _ h => by cases h)
theorem nn_good {cs : List Ctl} {b : Big} {s : ByteArray} (hg : bigB cs b = true) (hs : nameB s = true) : bigB cs (nnB s) = true := by
  refine big_true ⟨(big_of hg).1, (by unfold nnB wiring; rfl), names_one.2 hs, ⟨fun k u hk => (by cases hk), fun k a b ha => (by cases ha)⟩, fun k nd hk => (by cases hk), fun k nd hk => (by cases hk), fun k nd hk => (by cases hk)⟩
theorem ad_side {cs : List Ctl} {b : Big} {s : ByteArray} (hg : bigB cs b = true) : sdB b (nnB s) (sdW b (nnB s)) = adB b s := by
  have hz := sizes_of (big_of hg).2.1
  have ho : sdO b (nnB s) = adO b s := rfl
  have hE : b.edges + (nnB s).edges = b.edges := by show b.edges + 0 = b.edges; omega
  have hrel : relB (lkF (lfS b (nnB s))) b = relB (ouF b b.outer (adO b s)) b := by
    refine relB_congr' hg (fun l hl => ?_)
    unfold lfS
    rw [hE, ho]
    by_cases h : l < b.edges
    · rw [lkL_edge hz.2.1.1 hl.1 h, ouF_edge h, Int.zero_add]
    · obtain ⟨k, u, hk, hu⟩ := name_at hl h
      rw [lkL_name hz.2.1.1 hk hu, ouF_name h hk hu]
  have hW : sdW b (nnB s) = (relB (ouF b b.outer (adO b s)) b).inner := by
    have h1 : sdW b (nnB s) = wnA b (nnB s) := rfl
    rw [h1]
    unfold wnA
    rw [hrel]
  unfold adB ouB
  rw [← hW]
  have hN : ((relB (lkF (rgS b (nnB s))) (nnB s)).nodes) = [] := rfl
  unfold sdB
  rw [hrel, ho, hE]
  have hR : b.roots + (nnB s).roots = b.roots := by show b.roots + 0 = b.roots; omega
  rw [hR]
  have h2 : (plB (pcS b (nnB s)) (relB (lkF (rgS b (nnB s))) (nnB s))).nodes = [] := rfl
  have h3 : (nnB s).sites.map (pcS b (nnB s)) = [] := rfl
  rw [h2, h3, List.append_nil, List.append_nil]
theorem ad_bad {cs : List Ctl} {b : Big} {s : ByteArray} (hs : nameB s = false) : adQ cs b s = false ∧ adR cs b s = zeroBig := by
  cases hp : adP cs b s with
  | false => exact ad_no hp
  | true =>
    have hb : bigB cs (adB b s) = false := big_false (fun h => by
      have h1 : NamesP (adO b s) := h.2.2.1
      have := (sortU_names.1 h1) s (List.mem_append_right _ (List.mem_cons_self ..))
      rw [this] at hs
      cases hs)
    rw [(ad_yes hp).1, (ad_yes hp).2, hb]
    refine ⟨rfl, ?_⟩
    unfold giveR
    rw [hb]
    exact if_neg (by decide)
theorem ad_jx {cs : List Ctl} {b : Big} {s : ByteArray} (hs : nameB s = true) : jxQ cs b (nnB s) = adQ cs b s ∧ jxR cs b (nnB s) = adR cs b s := by
  cases hg : bigB cs b with
  | false =>
    have h1 := jx_no (cs := cs) (a := b) (b := nnB s) (by unfold jxP; rw [hg]; rfl)
    have h2 := ad_no (cs := cs) (b := b) (s := s) (by unfold adP; rw [hg]; rfl)
    rw [h1.1, h1.2, h2.1, h2.2]
    exact ⟨rfl, rfl⟩
  | true =>
    have hP : jxP cs b (nnB s) = adP cs b s := by
      unfold jxP adP
      rw [hg, nn_good hg hs]
      show (true && true && apB b.outer [s] && apB (nms b.inner) []) = _
      rw [ap_nil]
      cases apB b.outer [s] <;> rfl
    unfold jxQ jxR adQ adR
    rw [hP, ad_side hg]
    exact ⟨rfl, rfl⟩
theorem ad_tame {cs : List Ctl} {b : Big} {s : ByteArray} (hg : bigB cs b = true) (hS : BigS b) (hs : s.size ≤ 1048576) : Tame (adB b s) := by
  have hz := sizes_of (big_of hg).2.1
  have hb := tame_good hg hS
  have hO : (adO b s).length ≤ b.outer.length + 1 := by
    have := sortU_len (b.outer ++ [s])
    rw [List.length_append] at this
    exact this
  refine tame_rk hg hS (fun l hl => ?_) (by omega) (by omega) (fun u hu => ?_)
  · by_cases h0 : l < b.edges
    · rw [ouF_edge h0]
      omega
    · obtain ⟨k, u, hk, hu⟩ := name_at hl h0
      rw [ouF_name h0 hk hu]
      have := ixF_in (adO b s) u
      omega
  · rcases List.mem_append.1 (sortU_mem.1 hu) with h | h
    · exact hb.on u h
    · rw [List.mem_singleton] at h
      rw [h]
      exact hs
end Go.Proofs.YtfjgapkjpmkplaaGreat.ad
