/- RenameOuter: what it makes. -/
import Derived.Test.YtlhickjlcmiknaaGreatLo
import Derived.Test.YtlhickjlcmiknaaGreatUw
import Derived.Test.YtlhickjlcmiknaaGreatSu
namespace Go.Proofs.YtlhickjlcmiknaaGreat.rox
open kit bg sg opn strs only hb sig isig un over gn nm inn ht gd im pt marks eqs hc hi hw hn rs br bm bw cf lf ib isa lawb lw cl rt ix tg rl ed tp rtg lo nl lep rnp pm pl mb sb wb jo ek wk rk gv tm idl psp co su uw
set_option linter.unusedVariables false
/-- the strings in order, each as often as it is there -/
def srtB (ns : List ByteArray) : List ByteArray := ((lists ns).mergeSort fun x y => decide (x ≤ y)).map fun l => (⟨l.toArray⟩ : ByteArray)
theorem srtB_perm (ns : List ByteArray) : (srtB ns).Perm ns := by
  have h := (List.mergeSort_perm (lists ns) (fun x y => decide (x ≤ y))).map (fun l => (⟨l.toArray⟩ : ByteArray))
  have e : (lists ns).map (fun l => (⟨l.toArray⟩ : ByteArray)) = ns := by
    unfold lists
    rw [List.map_map]
    exact (List.map_congr_left (g := id) (fun s _ => rfl)).trans (List.map_id _)
  rw [e] at h
  exact h
theorem srtB_len (ns : List ByteArray) : (srtB ns).length = ns.length := (srtB_perm ns).length_eq
theorem srtB_pw (ns : List ByteArray) : (srtB ns).Pairwise (fun a b => ¬ ltS b a) := by
  have hs : ((lists ns).mergeSort fun x y => decide (x ≤ y)).Pairwise (fun x y => decide (x ≤ y) = true) := by
    refine List.pairwise_mergeSort (fun a b c h1 h2 => ?_) (fun a b => ?_) _
    · exact decide_eq_true (List.le_trans (of_decide_eq_true h1) (of_decide_eq_true h2))
    · rcases List.le_total a b with h | h
      · rw [decide_eq_true h]; rfl
      · rw [decide_eq_true h, Bool.or_true]
  unfold srtB
  refine List.pairwise_map.2 (hs.imp fun {a b} h => ?_)
  have h := of_decide_eq_true h
  show ¬ (ByteArray.mk b.toArray).toList < (ByteArray.mk a.toArray).toList
  rw [ByteArray.toList_eq, ByteArray.toList_eq]
  exact h
theorem srtB_nodup {ns : List ByteArray} (h : ns.Nodup) : srtB ns = sortU ns := by
  have hd : (srtB ns).Nodup := ((srtB_perm ns).nodup_iff).2 h
  refine sortU_is (((srtB_pw ns).and hd).imp fun {a b} h => ltS_tri b a h.1 (Ne.symm h.2)) (fun x => (srtB_perm ns).mem_iff)
open Classical in
theorem in_no' {ss : List ByteArray} {s : ByteArray} (h : s ∉ ss) : inB ss s = false := by unfold inB; exact decide_eq_false h
open Classical in
theorem in_yes' {ss : List ByteArray} {s : ByteArray} (h : s ∈ ss) : inB ss s = true := by unfold inB; exact decide_eq_true h
open Classical in
theorem no_in {ss : List ByteArray} {s : ByteArray} (h : inB ss s = false) : s ∉ ss := by unfold inB at h; exact of_decide_eq_false h
open Classical in
theorem yes_in {ss : List ByteArray} {s : ByteArray} (h : inB ss s = true) : s ∈ ss := by unfold inB at h; exact of_decide_eq_true h
/-- one name in place of another one -/
noncomputable def rxN (b : Big) (f t : ByteArray) : List ByteArray := b.outer.set (ixF b.outer f).toNat t
noncomputable def rxB (b : Big) (f t : ByteArray) : Big := ouB b (rxN b f t) (sortU (rxN b f t))
noncomputable def rxI (b : Big) (f t : ByteArray) : Big := ouB b (rxN b f t) (srtB (rxN b f t))
open Classical in
noncomputable def rxC (b : Big) (f t : ByteArray) : Bool := nameB t && (decide (f = t) || !inB b.outer t)
noncomputable def rxP (cs : List Ctl) (b : Big) (f t : ByteArray) : Bool := bigB cs b && inB b.outer f && rxC b f t
noncomputable def rxR (cs : List Ctl) (b : Big) (f t : ByteArray) : Big := if rxP cs b f t = true then rxB b f t else zeroBig
theorem rx_no {cs : List Ctl} {b : Big} {f t : ByteArray} (h : rxP cs b f t = false) : rxR cs b f t = zeroBig := by
  unfold rxR
  rw [h]
  exact if_neg (by decide)
theorem rx_yes {cs : List Ctl} {b : Big} {f t : ByteArray} (h : rxP cs b f t = true) : rxR cs b f t = rxB b f t := by
  unfold rxR
  exact if_pos h
theorem rxN_len (b : Big) (f t : ByteArray) : (rxN b f t).length = b.outer.length := List.length_set ..
theorem set_nodup {l : List ByteArray} {k : Nat} {f t : ByteArray} (hnd : l.Nodup) (hk : l[k]? = some f) (h : f = t ∨ t ∉ l) : (l.set k t).Nodup := by
  unfold List.Nodup at *
  rw [List.pairwise_iff_getElem] at *
  intro i j hi hj hij
  have hi' : i < l.length := by rw [List.length_set] at hi; exact hi
  have hj' : j < l.length := by rw [List.length_set] at hj; exact hj
  obtain ⟨hkl, hkf⟩ := List.getElem?_eq_some_iff.1 hk
  rw [List.getElem_set, List.getElem_set]
  split
  · rename_i e1
    subst e1
    split
    · omega
    · rcases h with rfl | h
      · have := hnd k j hi' hj' hij
        rw [hkf] at this
        exact this
      · exact fun e => h (by rw [e]; exact List.getElem_mem hj')
  · split
    · rename_i e2
      subst e2
      rcases h with rfl | h
      · have := hnd i k hi' hj' hij
        rw [hkf] at this
        exact this
      · exact fun e => h (by rw [← e]; exact List.getElem_mem hi')
    · exact hnd i j hi' hj' hij
theorem rel_under {cs : List Ctl} {b : Big} {F : Int → Int} {ou : List ByteArray} {E p below : Int} {ws : List Wr} : underB cs ⟨b.roots, (relB F b).nodes, b.sites, E, ou, ws⟩ p below = underB cs b p below := by
  unfold underB
  have e : (relB F b).nodes[p.toNat]? = (b.nodes[p.toNat]?).map (fun x => (⟨x.control, x.parent, x.links.map F⟩ : Nd)) := by
    show (b.nodes.map _)[p.toNat]? = _
    rw [List.getElem?_map]
  dsimp only
  rw [e]
  cases b.nodes[p.toNat]? <;> rfl
theorem ou_link {cs : List Ctl} {b : Big} {nm ou : List ByteArray} (hg : bigB cs b = true) (hn : nm.length = b.outer.length) (hm : ∀ u ∈ nm, u ∈ ou) {l : Int} (hl : 0 ≤ l ∧ l < b.edges + b.outer.length) : 0 ≤ ouF b nm ou l ∧ ouF b nm ou l < b.edges + ou.length := by
  have hz := sizes_of (big_of hg).2.1
  by_cases h0 : l < b.edges
  · rw [ouF_edge h0]
    omega
  · obtain ⟨k, hk⟩ : ∃ k : Nat, l - b.edges = k := ⟨(l - b.edges).toNat, by omega⟩
    have hkl : k < nm.length := by omega
    rw [ouF_name h0 hk (List.getElem?_eq_getElem hkl)]
    have h1 := ixF_in ou nm[k]
    rcases ixF_cases ou nm[k] with ⟨_, hno⟩ | ⟨j, hj, _, _⟩
    · exact absurd (hm _ (List.getElem_mem hkl)) hno
    · omega
theorem ou_good {cs : List Ctl} {b : Big} {nm ou : List ByteArray} (hg : bigB cs b = true) (hn : nm.length = b.outer.length) (ho : ou.length ≤ 16) (hP : NamesP ou) (hm : ∀ u ∈ nm, u ∈ ou) : bigB cs (ouB b nm ou) = true := by
  have hB := big_of hg
  have hz := sizes_of hB.2.1
  have hl1 : (relB (ouF b nm ou) b).nodes.length = b.nodes.length := by simp only [relB, List.length_map]
  have hl2 : (relB (ouF b nm ou) b).inner.length = b.inner.length := by simp only [relB, List.length_map]
  unfold ouB
  refine big_true ⟨hB.1, ?_, hP, ?_, fun k x hx => ?_, fun i p hp => ?_, fun i x hx => ?_⟩
  · unfold sizesB
    dsimp only
    rw [hl1, hl2, inb_mk hz.1, inb_mk hz.2.1, decide_eq_true hz.2.2.1, decide_eq_true hz.2.2.2.1, decide_eq_true ho, decide_eq_true hz.2.2.2.2.2]
    rfl
  · have : (relB (ouF b nm ou) b).inner.map (·.name) = b.inner.map (·.name) := by unfold relB; rw [List.map_map]; rfl
    show NamesP ((relB (ouF b nm ou) b).inner.map (·.name))
    rw [this]
    exact hB.2.2.2.1
  · have hx : (b.nodes.map (fun x => (⟨x.control, x.parent, x.links.map (ouF b nm ou)⟩ : Nd)))[k]? = some x := hx
    rw [List.getElem?_map] at hx
    obtain ⟨y, hy, rfl⟩ := Option.map_eq_some_iff.1 hx
    have h1 := hB.2.2.2.2.1 k y hy
    refine ⟨?_, ?_, fun i l hl => ?_⟩
    · have h2 := h1.1
      unfold seatB at h2 ⊢
      rw [rel_under]
      exact h2
    · have h2 := h1.2.1
      unfold portsB at h2 ⊢
      dsimp only
      rw [List.length_map]
      exact h2
    · have hl : (y.links.map (ouF b nm ou))[i]? = some l := hl
      rw [List.getElem?_map] at hl
      obtain ⟨m, hm', rfl⟩ := Option.map_eq_some_iff.1 hl
      have := ou_link hg hn hm ((big_lks hg).1 y (List.mem_of_getElem? hy) m (List.mem_of_getElem? hm'))
      exact inb_mk ⟨this.1, by dsimp only; omega⟩
  · dsimp only at hp
    rw [rel_under]
    dsimp only
    rw [hl1]
    exact hB.2.2.2.2.2.1 i p hp
  · have hx : (b.inner.map (fun x => (⟨x.name, ouF b nm ou x.link⟩ : Wr)))[i]? = some x := hx
    rw [List.getElem?_map] at hx
    obtain ⟨y, hy, rfl⟩ := Option.map_eq_some_iff.1 hx
    have := ou_link hg hn hm ((big_lks hg).2 y (List.mem_of_getElem? hy))
    exact inb_mk ⟨this.1, by dsimp only; omega⟩
theorem nodup_names {ss : List ByteArray} (h : NamesP ss) : ss.Nodup := (names_ltS h).imp (fun {a b} hl e => by rw [e] at hl; exact ltS_irr _ hl)
theorem rx_ix {b : Big} {f : ByteArray} (hf : f ∈ b.outer) : ∃ k : Nat, ixF b.outer f = k ∧ b.outer[k]? = some f := by
  rcases ixF_cases b.outer f with ⟨_, hno⟩ | ⟨k, hk, hkf, _⟩
  · exact absurd hf hno
  · exact ⟨k, hk, hkf⟩
theorem rx_eq {cs : List Ctl} {b : Big} {f t : ByteArray} (hg : bigB cs b = true) (hf : f ∈ b.outer) (h : rxC b f t = true) : srtB (rxN b f t) = sortU (rxN b f t) ∧ bigB cs (rxB b f t) = true := by
  have hB := big_of hg
  have hz := sizes_of hB.2.1
  obtain ⟨k, hk, hkf⟩ := rx_ix hf
  have hN : rxN b f t = b.outer.set k t := by unfold rxN; rw [hk]; rfl
  unfold rxC at h
  simp only [Bool.and_eq_true, Bool.or_eq_true, decide_eq_true_eq, Bool.not_eq_true'] at h
  have hor : f = t ∨ t ∉ b.outer := h.2.imp id (fun h2 => no_in h2)
  have hnd : (rxN b f t).Nodup := by rw [hN]; exact set_nodup (nodup_names hB.2.2.1) hkf hor
  have hnames : ∀ s ∈ rxN b f t, nameB s = true := fun s hs => by
    rw [hN] at hs
    rcases List.mem_or_eq_of_mem_set hs with h1 | rfl
    · obtain ⟨j, hj⟩ := List.getElem?_of_mem h1
      exact hB.2.2.1.1 j s hj
    · exact h.1
  refine ⟨srtB_nodup hnd, ou_good hg (rxN_len b f t) ?_ (sortU_names.2 hnames) (fun u hu => sortU_mem.2 hu)⟩
  have := sortU_len (rxN b f t)
  rw [rxN_len] at this
  omega
theorem rx_bad {cs : List Ctl} {b : Big} {f t : ByteArray} (hg : bigB cs b = true) (hf : f ∈ b.outer) (h : bigB cs (rxI b f t) = true) : rxC b f t = true := by
  obtain ⟨k, hk, hkf⟩ := rx_ix hf
  have hkl := (List.getElem?_eq_some_iff.1 hkf).1
  have hN : rxN b f t = b.outer.set k t := by unfold rxN; rw [hk]; rfl
  have hP : NamesP (srtB (rxN b f t)) := (big_of h).2.2.1
  have hnd : (rxN b f t).Nodup := ((srtB_perm _).nodup_iff).1 (nodup_names hP)
  have htk : (rxN b f t)[k]? = some t := by rw [hN, List.getElem?_set_self hkl]
  have hnt : nameB t = true := by
    obtain ⟨j, hj⟩ := List.getElem?_of_mem ((srtB_perm _).mem_iff.2 (List.mem_of_getElem? htk))
    exact hP.1 j t hj
  unfold rxC
  rw [hnt, Bool.true_and]
  by_cases e : f = t
  · rw [decide_eq_true e]; rfl
  · have hin : inB b.outer t = false := by
      refine in_no' (fun hm => ?_)
      obtain ⟨j, hj⟩ := List.getElem?_of_mem hm
      have hjk : k ≠ j := fun e1 => by
        subst e1
        rw [hj] at hkf
        injection hkf with hkf
        exact e hkf.symm
      have htj : (rxN b f t)[j]? = some t := by rw [hN, List.getElem?_set_ne hjk]; exact hj
      obtain ⟨h1, e1⟩ := List.getElem?_eq_some_iff.1 htk
      obtain ⟨h2, e2⟩ := List.getElem?_eq_some_iff.1 htj
      unfold List.Nodup at hnd
      rw [List.pairwise_iff_getElem] at hnd
      rcases Nat.lt_or_gt_of_ne hjk with hl | hl
      · exact hnd k j h1 h2 hl (by rw [e1, e2])
      · exact hnd j k h2 h1 hl (by rw [e1, e2])
    rw [hin, Bool.not_false, Bool.or_true]
/-- impl's way -/
theorem rx_impl {cs : List Ctl} {b : Big} {f t : ByteArray} (hg : bigB cs b = true) (hf : f ∈ b.outer) : bigB cs (rxI b f t) = rxP cs b f t ∧ giveR cs (rxI b f t) = rxR cs b f t := by
  have hin : inB b.outer f = true := in_yes' hf
  have hPc : rxP cs b f t = rxC b f t := by unfold rxP; rw [hg, hin]; rfl
  cases hc : rxC b f t with
  | true =>
    have h := rx_eq hg hf hc
    have e : rxI b f t = rxB b f t := by unfold rxI rxB; rw [h.1]
    rw [e, h.2, hPc, hc]
    refine ⟨rfl, ?_⟩
    unfold giveR
    rw [rx_yes (by rw [hPc, hc])]
    exact if_pos h.2
  | false =>
    have hb : bigB cs (rxI b f t) = false := by
      cases hq : bigB cs (rxI b f t) with
      | false => rfl
      | true => rw [rx_bad hg hf hq] at hc; cases hc
    rw [hb, hPc, hc]
    refine ⟨rfl, ?_⟩
    unfold giveR
    rw [rx_no (by rw [hPc, hc])]
    exact if_neg (by rw [hb]; decide)
theorem ou_tame {cs : List Ctl} {b : Big} {nm ou : List ByteArray} (hg : bigB cs b = true) (hS : BigS b) (hn : nm.length = b.outer.length) (ho : ou.length ≤ 100) (hs : ∀ u ∈ ou, u.size ≤ 1048576) : Tame (ouB b nm ou) := by
  have hz := sizes_of (big_of hg).2.1
  refine tame_rk hg hS (fun l hl => ?_) (by omega) (by omega) hs
  by_cases h0 : l < b.edges
  · rw [ouF_edge h0]
    omega
  · obtain ⟨k, hk⟩ : ∃ k : Nat, l - b.edges = k := ⟨(l - b.edges).toNat, by omega⟩
    have hkl : k < nm.length := by omega
    rw [ouF_name h0 hk (List.getElem?_eq_getElem hkl)]
    have := ixF_in ou nm[k]
    omega
theorem rxR_len (cs : List Ctl) (b : Big) (f t : ByteArray) : bigMk (rxR cs b f t) ≤ 1048576 := by
  cases h : rxP cs b f t with
  | false => rw [rx_no h]; exact zero_len
  | true =>
    rw [rx_yes h]
    unfold rxP at h
    simp only [Bool.and_eq_true] at h
    exact big_mk (rx_eq h.1.1 (yes_in h.1.2) h.2).2
end Go.Proofs.YtlhickjlcmiknaaGreat.rox
