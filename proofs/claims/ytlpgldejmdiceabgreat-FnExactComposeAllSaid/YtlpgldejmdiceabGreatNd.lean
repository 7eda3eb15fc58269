/- spec.l4Named: the numbers of names among others, behind the edges. -/
import Derived.Test.YtlpgldejmdiceabGreatIx
import Derived.Test.YtlpgldejmdiceabGreatQd
namespace Go.Proofs.YtlpgldejmdiceabGreat.nd
open kit bg sg opn strs only over gn nm un sig hb inn ht marks eqs hc hi hw hn rs br bm bw cf lawb lw cl ix
open Go.RowKit
set_option linter.unusedVariables false
set_option linter.unusedSimpArgs false
noncomputable def nmdL (E : Int) (ou ns : List ByteArray) : List Int := ns.map (fun u => E + ixF ou u)
theorem nmd_len (E : Int) (ou ns : List ByteArray) : (nmdL E ou ns).length = ns.length := by unfold nmdL; rw [List.length_map]
theorem nmd_at {E : Int} {ou ns : List ByteArray} {k : Nat} {u : ByteArray} (h : ns[k]? = some u) : (nmdL E ou ns)[k]? = some (E + ixF ou u) := by unfold nmdL; rw [List.getElem?_map, h]; rfl
theorem nmd_take {E : Int} {ou ns : List ByteArray} {k : Nat} {u : ByteArray} (h : ns[k]? = some u) : (nmdL E ou ns).take (k + 1) = (nmdL E ou ns).take k ++ [E + ixF ou u] := by rw [List.take_add_one, nmd_at h]; rfl
set_option maxRecDepth 20000 in
set_option maxHeartbeats 1600000 in
theorem nmd_any (A B : Option Addr) (n c m d : Nat) (ns ou : List ByteArray) (E : Int) (w : World) (hA : SR w w.heap.size A n (ns.map Value.string)) (hB : SR w w.heap.size B m (ou.map Value.string)) (hn : n ≤ 1000) (hm : m ≤ 1000) (hE : -1000 ≤ E ∧ E ≤ 1000) :
    Calls Tryz.prog 75 #[.slice A n c, .int .i64 E, .slice B m d] w fun e w' => ∃ v, e = .returned v ∧ w'.ownsRow w.heap.size 3 1 v n ((nmdL E ou ns).map (Value.int .i64)) ∧ v ≠ .slice none 0 0 ∧ Below w.heap.size w w' := by
  obtain ⟨i0, hi, hz0, hz1, hz2⟩ := info_parts int_info
  have HI := Lib.hid (And.intro hi (And.intro hz0 (And.intro hz1 hz2)))
  have HL := Lib.hid hA.strlen
  have HM := Lib.hid hB.strlen
  have HB := Lib.hid hB
  clear hi hz0 hz1 hz2 hB
  go_enter Tryz.func75, Tryz.ntmps75
  go_wp2_with fail
  go_loopw [7, 8] (fun v i wr => ∃ k : Nat, k ≤ n ∧ i = .int .i64 k ∧ wr.ownsRow w.heap.size 3 1 v k (((nmdL E ou ns).take k).map (Value.int .i64)) ∧ v ≠ .slice none 0 0 ∧ Below w.heap.size w wr) (fun _ i _ => n - (intOf i).toNat)
  case atStart => exact ⟨0, Nat.zero_le _, rfl, ownsRow_nil_new w 3 1 w.heap.size (Nat.le_refl _), by simp, (Below.refl _ _).alloc (Nat.le_refl _) _⟩
  case round =>
    obtain ⟨k, hk, rfl, hown, hne, hbel⟩ := hrel
    have hsz := hbel.size
    by_cases hlt : k < n
    · obtain ⟨b, off, u, rfl, hb, hx, hc⟩ := hA.str hlt
      have hcc := (hbel.cell (p := ⟨b, off + k, none⟩) hb).trans hc
      have CA := l2At_any B m d ou u wr _ (HB.out.below hbel) (by omega)
      have hr := ixF_in ou u
      rw [HM.out] at hr
      have HT := Lib.hid (nmd_take (E := E) (ou := ou) hx)
      obtain ⟨r, hrr⟩ : ∃ r, ixF ou u = r := ⟨_, rfl⟩
      rw [hrr] at CA hr HT
      obtain ⟨D, hD⟩ : ∃ D, ((nmdL E ou ns).take k).map (Value.int .i64) = D := ⟨_, rfl⟩
      have HT2 : Hid (((nmdL E ou ns).take (k + 1)).map (Value.int .i64) = D ++ [.int .i64 (E + r)]) := Lib.hid (by rw [HT.out, List.map_append, hD]; rfl)
      rw [hD] at hown
      have hw2 : wrap64 (E + r) = E + r := by unfold wrap64; omega
      clear hD hrr hx hc HT
      go_wp2_with fail
      refine CA.mono ?_
      rintro e w1 ⟨rfl, rfl⟩
      clear CA
      go_wp2_with (at_builtin; refine wpList_append_own _ rfl _ _ 27 rfl w.heap.size 3 i0 (.int .i64 0) 1 8 Tryz.underlying27 HI.out.1 HI.out.2.1 HI.out.2.2.1 HI.out.2.2.2 rfl (by decide) _ _ _ rfl (hown.alloc _) ⟨wr.heap.size, 0, none⟩ 1 1 [.int .i64 (E + r)] rfl rfl (cell_one_new _ _ _) (fun x hx => by simp at hx; subst hx; rfl) (by unfold maxLen; omega) (by omega) (by simp; omega) ?_; intro v1 w1 hown1 hgrow1 hnil1; have hb1 := Lib.hid ((hbel.alloc (by omega) (.cells #[.int .i64 (E + r)] 3)).grown hgrow1 (by simp; omega) (fun j hj => (hown.lt j hj).1)); have HOwn := Lib.hid hown1; have hne1 : v1 ≠ .slice none 0 0 := fun e => hne (hnil1.1 e).1; clear hown1 hgrow1 hnil1 hown)
      go_wp2_with fail
      go_roundw
      case rel => exact ⟨k + 1, by omega, by go_num, by rw [HT2.out]; exact HOwn.out, hne1, hb1.out⟩
      case measure => simp [intOf]; omega
    · obtain rfl : n = k := by omega
      rw [List.take_of_length_le (by rw [nmd_len, HL.out]; exact Nat.le_refl _)] at hown
      have HO := Lib.hid hown
      clear hown
      go_wp2_with fail
      go_ret
      exact ⟨_, rfl, HO.out, hne, hbel⟩
end Go.Proofs.YtlpgldejmdiceabGreat.nd
