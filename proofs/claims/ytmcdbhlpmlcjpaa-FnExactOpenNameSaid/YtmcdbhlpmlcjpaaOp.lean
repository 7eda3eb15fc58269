/- OpenName: what it makes. -/
import Derived.Test.YtmcdbhlpmlcjpaaCo
import Derived.Test.YtmcdbhlpmlcjpaaJoi
import Derived.Test.YtmcdbhlpmlcjpaaJos
import Derived.Test.YtmcdbhlpmlcjpaaMg
import Derived.Test.YtmcdbhlpmlcjpaaNd
import Derived.Test.YtmcdbhlpmlcjpaaOc
namespace Go.Proofs.Ytmcdbhlpmlcjpaa.op
open kit bg sg opn strs only hb sig isig un over gn nm inn ht gd im pt marks eqs hc hi hw hn rs br bm bw cf lf ib isa lawb lw cl rt ix tg rl ed tp rtg lo nl lep rnp pm pl mb sb wb jo ek wk rk gv tm idl psp co mg nd oc joi jos
open su (ltS ltS_tri ltS_irr ltS_trans insU ins_mem sortU sortU_snoc sortU_id sortU_mem names_ltS sortU_len sortU_names)
open Go.RowKit
set_option linter.unusedVariables false
open Classical in
theorem mrg_ins {s : ByteArray} : ∀ {ou : List ByteArray}, ou.Pairwise ltS → (mrg (ou.length + 1) ou [s]).2 = decide (s ∈ ou) ∧ (s ∉ ou → (mrg (ou.length + 1) ou [s]).1 = insU s ou)
  | [], _ => ⟨by simp [mrg], fun _ => rfl⟩
  | x :: ou, h => by
    obtain ⟨hx, ho⟩ := List.pairwise_cons.1 h
    obtain ⟨i1, i2⟩ := mrg_ins (s := s) ho
    rw [List.length_cons, mrg]
    by_cases h1 : Op.bytesLess x.toList s.toList = true
    · have hlt : ltS x s := (su.bl_lt _ _).1 h1
      have hne : s ≠ x := fun e => by subst e; exact ltS_irr _ hlt
      rw [if_pos h1]
      refine ⟨?_, fun hno => ?_⟩
      · dsimp only
        rw [i1]
        simp [hne]
      · dsimp only
        rw [i2 (fun hm => hno (List.mem_cons_of_mem _ hm))]
        show _ = (if ltS x s then x :: insU s ou else if x = s then x :: ou else s :: x :: ou)
        rw [if_pos hlt]
    · rw [if_neg h1]
      have hnl : ¬ ltS x s := fun h => h1 ((su.bl_lt _ _).2 h)
      by_cases h2 : Op.bytesLess s.toList x.toList = true
      · have hlt : ltS s x := (su.bl_lt _ _).1 h2
        rw [if_pos h2, mrg_nil]
        have hno : s ∉ x :: ou := by
          intro hm
          rcases List.mem_cons.1 hm with rfl | hm
          · exact ltS_irr _ hlt
          · exact ltS_irr _ (ltS_trans hlt (hx _ hm))
        refine ⟨by simp only [hno]; rfl, fun _ => ?_⟩
        show _ = (if ltS x s then x :: insU s ou else if x = s then x :: ou else s :: x :: ou)
        rw [if_neg hnl, if_neg (fun e => by subst e; exact ltS_irr _ hlt)]
      · rw [if_neg h2]
        have he : x = s := Classical.byContradiction fun e => h2 ((su.bl_lt _ _).2 (ltS_tri x s hnl e))
        subst he
        exact ⟨by simp, fun hno => absurd (List.mem_cons_self ..) hno⟩
/-- the outer names with one more -/
noncomputable def opO (b : Big) (s : ByteArray) : List ByteArray := sortU (b.outer ++ [s])
noncomputable def opE (b : Big) (e : Int) (s : ByteArray) (i : Nat) : Int := if (i : Int) < e then i else if (i : Int) = e then b.edges - 1 + ixF (opO b s) s else i - 1
noncomputable def opL (b : Big) (e : Int) (s : ByteArray) (k : Nat) : List Int := (List.range k).map (opE b e s)
noncomputable def opT (b : Big) (e : Int) (s : ByteArray) : List Int := opL b e s b.edges.toNat ++ nmdL (b.edges - 1) (opO b s) b.outer
noncomputable def opB (b : Big) (e : Int) (s : ByteArray) : Big := rkB b (opT b e s) (b.edges - 1) (opO b s)
section
variable {cs : List Ctl} {b : Big} {e : Int} {s : ByteArray}
theorem op_snoc (b : Big) (e : Int) (s : ByteArray) (k : Nat) : opL b e s (k + 1) = opL b e s k ++ [opE b e s k] := by
  unfold opL
  rw [List.range_succ, List.map_append]
  rfl
theorem opL_len (b : Big) (e : Int) (s : ByteArray) (k : Nat) : (opL b e s k).length = k := by
  unfold opL
  rw [List.length_map, List.length_range]
theorem opT_len (b : Big) (e : Int) (s : ByteArray) : (opT b e s).length = b.edges.toNat + b.outer.length := by
  unfold opT
  rw [List.length_append, opL_len, nmd_len]
theorem opO_is (hP : NamesP b.outer) : opO b s = insU s b.outer := by
  unfold opO
  rw [sortU_snoc, sortU_id hP]
theorem opO_mem {u : ByteArray} : u ∈ opO b s ↔ u ∈ b.outer ∨ u = s := by
  unfold opO
  rw [sortU_mem]
  simp
theorem opO_len (b : Big) (s : ByteArray) : (opO b s).length ≤ b.outer.length + 1 := by
  unfold opO
  have := sortU_len (b.outer ++ [s])
  simpa using this
open Classical in
theorem op_mrg (hP : NamesP b.outer) (hs : inB b.outer s = false) : mrg (b.outer.length + [s].length) b.outer [s] = (opO b s, false) := by
  have hno : s ∉ b.outer := fun h => by rw [in_yes h] at hs; cases hs
  obtain ⟨h1, h2⟩ := mrg_ins (s := s) (names_ltS hP)
  refine Prod.ext ?_ ?_
  · exact (h2 hno).trans (opO_is hP).symm
  · exact h1.trans (decide_eq_false hno)
open Classical in
theorem op_mrg_in (hP : NamesP b.outer) (hs : inB b.outer s = true) : (mrg (b.outer.length + [s].length) b.outer [s]).2 = true :=
  (mrg_ins (s := s) (names_ltS hP)).1.trans (decide_eq_true (in_of hs))
theorem name_some (h : nameB s = true) : s.toList.isEmpty = false := by
  have hP : NamesP [s] := ⟨fun k u hk => by
    cases k with
    | zero => simp at hk; subst hk; exact h
    | succ k => simp at hk, fun k a b h1 h2 => by simp at h2⟩
  exact (name_ne hP (List.mem_singleton.2 rfl)).1
theorem op_lk {l : Int} (h0 : 0 ≤ l) (h : l < b.edges) : lkF (opT b e s) l = opE b e s l.toNat := by
  obtain ⟨m, rfl⟩ : ∃ m : Nat, l = m := ⟨l.toNat, by omega⟩
  refine lkF_get ?_
  unfold opT
  rw [List.getElem?_append_left (by rw [opL_len]; omega)]
  unfold opL
  rw [List.getElem?_map, List.getElem?_range (by omega)]
  rfl
theorem op_nm {l : Int} (hE : 0 ≤ b.edges) {k : Nat} {u : ByteArray} (hl : l - b.edges = k) (h : b.outer[k]? = some u) : lkF (opT b e s) l = b.edges - 1 + ixF (opO b s) u := by
  obtain ⟨m, rfl⟩ : ∃ m : Nat, l = m := ⟨l.toNat, by omega⟩
  refine lkF_get ?_
  unfold opT
  rw [List.getElem?_append_right (by rw [opL_len]; omega), opL_len, show m - b.edges.toNat = k by omega]
  exact nmd_at h
theorem op_link (hE : 0 ≤ b.edges) (hP : NamesP b.outer) (hs : nameB s = true) (he : 0 ≤ e ∧ e < b.edges) {l : Int} (hl : 0 ≤ l ∧ l < b.edges + b.outer.length) :
    reL b (opF e s) (b.edges - 1) (opO b s) l = lkF (opT b e s) l := by
  by_cases h0 : l < b.edges
  · have hEe : isE ⟨l, noS⟩ = true := by unfold isE noS; simp
    unfold reL
    rw [tgOf_edge h0, op_lk hl.1 h0]
    unfold opE
    rw [Int.toNat_of_nonneg hl.1]
    by_cases h1 : l = e
    · rw [opF_it hEe h1, lk_name (show isE ⟨0, s⟩ = false from name_some hs), if_neg (by omega), if_pos h1]
    · by_cases h2 : e < l
      · rw [opF_more hEe h1 h2, lk_edge (by unfold isE noS; simp), if_neg (by omega), if_neg h1]
      · rw [opF_less hEe h1 h2, lk_edge hEe, if_pos (by omega)]
  · obtain ⟨k, hk⟩ : ∃ k : Nat, l - b.edges = k := ⟨(l - b.edges).toNat, by omega⟩
    have hkl : k < b.outer.length := by omega
    have hs : b.outer[k]? = some b.outer[k] := List.getElem?_eq_getElem hkl
    have hEf := (name_ne hP (List.mem_of_getElem? hs)).1
    rw [op_nm hE hk hs]
    unfold reL
    rw [tgOf_name h0 hk hs, opF_name (show isE ⟨0, _⟩ = false from hEf), lk_name (show isE ⟨0, _⟩ = false from hEf)]
theorem op_eq (hg : bigB cs b = true) (hs : nameB s = true) (he : 0 ≤ e ∧ e < b.edges) : reB b (opF e s) (b.edges - 1) (opO b s) = opB b e s := by
  have hP := (big_of hg).2.2.1
  have hz := sizes_of (big_of hg).2.1
  have hL := big_lks hg
  unfold reB opB rkB
  rw [relB_congr (f := reL b (opF e s) (b.edges - 1) (opO b s)) (g := lkF (opT b e s)) (fun x hx l hl => op_link (by omega) hP hs he (hL.1 x hx l hl)) (fun x hx => op_link (by omega) hP hs he (hL.2 x hx))]
theorem op_tame (hg : bigB cs b = true) (hS : BigS b) (hz : s.size ≤ 1048576) (he : 0 ≤ e ∧ e < b.edges) : Tame (opB b e s) := by
  have hzz := sizes_of (big_of hg).2.1
  have hb := tame_good hg hS
  have hO := opO_len b s
  refine tame_rk hg hS (fun l hl => ?_) (by omega) (by have := hb.o; omega) (fun u hu => ?_)
  · by_cases h0 : l < b.edges
    · rw [op_lk hl.1 h0]
      unfold opE
      have h1 := ixF_in (opO b s) s
      split
      · omega
      · split <;> omega
    · obtain ⟨k, hk⟩ : ∃ k : Nat, l - b.edges = k := ⟨(l - b.edges).toNat, by omega⟩
      have hkl : k < b.outer.length := by omega
      have hs : b.outer[k]? = some b.outer[k] := List.getElem?_eq_getElem hkl
      rw [op_nm (by omega) hk hs]
      have h1 := ixF_in (opO b s) b.outer[k]
      omega
  · rcases opO_mem.1 hu with h | rfl
    · exact hb.on u h
    · exact hz
/-- a string that is no name makes it invalid -/
theorem op_bad (h : nameB s = false) : bigB cs (opB b e s) = false := by
  cases hq : bigB cs (opB b e s) with
  | false => rfl
  | true =>
    have hP := (big_of hq).2.2.1
    have hm : s ∈ opO b s := opO_mem.2 (.inr rfl)
    obtain ⟨k, hk⟩ := List.getElem?_of_mem hm
    rw [hP.1 k s hk] at h
    cases h
noncomputable def opP (cs : List Ctl) (b : Big) (e : Int) (s : ByteArray) : Bool := bigB cs b && inb e 0 (b.edges - 1) && !inB b.outer s
noncomputable def opQ (cs : List Ctl) (b : Big) (e : Int) (s : ByteArray) : Bool := opP cs b e s && bigB cs (opB b e s)
noncomputable def opR (cs : List Ctl) (b : Big) (e : Int) (s : ByteArray) : Big := if opP cs b e s = true then giveR cs (opB b e s) else zeroBig
theorem op_no (h : opP cs b e s = false) : opQ cs b e s = false ∧ opR cs b e s = zeroBig := by
  unfold opQ opR
  rw [h]
  exact ⟨rfl, if_neg (by decide)⟩
theorem op_yes (h : opP cs b e s = true) : opQ cs b e s = bigB cs (opB b e s) ∧ opR cs b e s = giveR cs (opB b e s) := by
  unfold opQ opR
  rw [h]
  exact ⟨rfl, if_pos rfl⟩
theorem op_bad_no (h : nameB s = false) : opQ cs b e s = false ∧ opR cs b e s = zeroBig := by
  unfold opQ opR
  rw [op_bad h]
  refine ⟨Bool.and_false _, ?_⟩
  split
  · unfold giveR
    rw [op_bad h]
    rfl
  · rfl
theorem opR_len (cs : List Ctl) (b : Big) (e : Int) (s : ByteArray) : bigMk (opR cs b e s) ≤ 1048576 := by
  unfold opR
  split
  · exact give_len (fun h => big_mk h)
  · exact zero_len
end
end Go.Proofs.Ytmcdbhlpmlcjpaa.op
