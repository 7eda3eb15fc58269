/- Names without one of them: spec.l4Less, impl.namesWithout. -/
import Derived.Test.YtebmhfkpmcflfaaIx
import Derived.Test.YtebmhfkpmcflfaaQd
import Derived.Lib.LazyBuf
namespace Go.Proofs.Ytebmhfkpmcflfaa.nl
open kit bg sg opn strs only hb sig inn ht marks eqs hc hi hw hn rs br bm bw cf lawb lw cl wb ix
open Go.RowKit
set_option linter.unusedVariables false
open Classical in
/-- the names but one -/
noncomputable def lessL (ss : List ByteArray) (s : ByteArray) : List ByteArray := ss.filter (fun x => decide (x ≠ s))
open Classical in
theorem less_in {x s : ByteArray} (h : x ≠ s) (l : List ByteArray) : lessL (l ++ [x]) s = lessL l s ++ [x] := by
  unfold lessL
  rw [List.filter_append, List.filter_cons_of_pos (by exact decide_eq_true h)]
  rfl
open Classical in
theorem less_out {x s : ByteArray} (h : x = s) (l : List ByteArray) : lessL (l ++ [x]) s = lessL l s := by
  unfold lessL
  rw [List.filter_append, List.filter_cons_of_neg (by intro e; exact of_decide_eq_true e h)]
  simp
open Classical in
theorem less_le (l : List ByteArray) (s : ByteArray) : (lessL l s).length ≤ l.length := List.length_filter_le ..
open Classical in
theorem less_all {l : List ByteArray} {s : ByteArray} (h : s ∉ l) : lessL l s = l := by
  unfold lessL
  exact List.filter_eq_self.2 (fun x hx => decide_eq_true (fun e => h (e ▸ hx)))
theorem take_snoc' {l : List ByteArray} {k : Nat} {x : ByteArray} (hx : l[k]? = some x) : l.take (k + 1) = l.take k ++ [x] := by rw [List.take_add_one, hx]; rfl
set_option maxHeartbeats 1600000 in
theorem less_any (A : Option Addr) (n c : Nat) (ss : List ByteArray) (s : ByteArray) (w : World) (h : SR w w.heap.size A n (ss.map Value.string)) (hn : n ≤ 1048576) :
    Calls Try.prog 90 #[.slice A n c, .string s] w fun e w' => ∃ A' c', e = .returned (.slice A' (lessL ss s).length c') ∧ RowR w' w.heap.size w'.heap.size 9 1 A' (lessL ss s).length c' (at_ (lessL ss s)) ∧ Below w.heap.size w w' := by
  obtain ⟨i0, hi, hz0, hz1, hz2⟩ := info_parts str_info
  have HI := Lib.hid (And.intro hi (And.intro hz0 (And.intro hz1 hz2)))
  have HL := Lib.hid h.strlen
  clear hi hz0 hz1 hz2
  go_enter Try.func90, Try.ntmps90
  go_wp2_with fail
  go_loopw [5, 6] (fun v i wr => ∃ k : Nat, k ≤ n ∧ i = .int .i64 k ∧ wr.ownsRow w.heap.size 9 1 v (lessL (ss.take k) s).length ((lessL (ss.take k) s).map Value.string) ∧ Below w.heap.size w wr) (fun _ i _ => n - (intOf i).toNat)
  case atStart => exact ⟨0, Nat.zero_le _, rfl, by
      have := ownsRow_nil_new w 9 1 w.heap.size (Nat.le_refl _)
      simpa [lessL] using this, (Below.refl _ _).alloc (Nat.le_refl _) _⟩
  case round =>
    obtain ⟨k, hk, rfl, hown, hbel⟩ := hrel
    have hsz := hbel.size
    by_cases hlt : k < n
    · obtain ⟨b, off, x, rfl, hbb, hx, hc⟩ := h.str hlt
      have d0 := (hbel.cell (p := ⟨b, off + k, none⟩) hbb).trans hc
      have htk := take_snoc' hx
      have hle := less_le (ss.take k) s
      have hlk : (ss.take k).length ≤ k := List.length_take_le ..
      obtain ⟨L, hL⟩ : ∃ L, lessL (ss.take k) s = L := ⟨_, rfl⟩
      cases heq : (x.toList == s.toList) with
      | true =>
        have he2 : (x.toList != s.toList) = false := by rw [bne, heq]; rfl
        have HT := Lib.hid (show lessL (ss.take (k + 1)) s = L by rw [htk, less_out (str_eq heq), hL])
        rw [hL] at hown
        have HOw := Lib.hid hown
        have HB := Lib.hid hbel
        clear htk hL hx hc hown hbel hle hlk
        go_wp2_with fail
        go_roundw
        case rel => exact ⟨k + 1, by omega, by go_num, by rw [HT.out]; exact HOw.out, HB.out⟩
        case measure => simp [intOf]; omega
      | false =>
        have he2 : (x.toList != s.toList) = true := by rw [bne, heq]; rfl
        have HT := Lib.hid (show lessL (ss.take (k + 1)) s = L ++ [x] by rw [htk, less_in (str_ne heq), hL])
        rw [hL] at hown hle
        obtain ⟨m, hm⟩ : ∃ m, L.length = m := ⟨_, rfl⟩
        have HM := Lib.hid hm
        rw [hm] at hown hle
        obtain ⟨D, hD⟩ : ∃ D, L.map Value.string = D := ⟨_, rfl⟩
        have HD := Lib.hid hD
        rw [hD] at hown
        have hm2 : m ≤ k := by omega
        clear htk hL hx hc hle hlk hm hD
        go_wp2_with (at_builtin; refine wpList_append_own _ rfl _ _ 25 rfl w.heap.size 9 i0 (.string ⟨#[]⟩) 1 16 Try.underlying25 HI.out.1 HI.out.2.1 HI.out.2.2.1 HI.out.2.2.2 rfl (by decide) _ _ _ rfl (hown.alloc _) ⟨wr.heap.size, 0, none⟩ 1 1 [.string x] rfl rfl (cell_one_new _ _ _) (fun x hx => by simp at hx; subst hx; rfl) (by unfold maxLen; omega) (by omega) (by simp; omega) ?_; intro v1 w1 hown1 hgrow1 hnil1)
        have hb1 := Lib.hid ((hbel.alloc (by omega) (.cells #[.string x] 9)).grown hgrow1 (by simp; omega) (fun j hj => (hown.lt j hj).1))
        have HOwn := Lib.hid hown1
        clear hown1 hgrow1 hnil1 hown
        go_wp2_with fail
        go_roundw
        case rel => exact ⟨k + 1, by omega, by go_num, by rw [HT.out, List.length_append, List.map_append, HM.out, HD.out]; exact HOwn.out, hb1.out⟩
        case measure => simp [intOf]; omega
    · obtain rfl : n = k := by omega
      rw [List.take_of_length_le (by rw [HL.out]; exact Nat.le_refl _)] at hown
      obtain ⟨A', c', rfl, hr⟩ := strs_owned hown
      have HR := Lib.hid hr
      clear hown hr
      go_wp2_with fail
      go_ret
      exact ⟨_, _, rfl, HR.out, hbel⟩
theorem is_any (s x : ByteArray) (β : Nat) (w : World) (hc : w.cell? ⟨β, 0, none⟩ = some (.string s)) :
    Calls Try.prog 166 #[.string x, .pointer (some ⟨β, 0, none⟩)] w fun e w' => e = .returned (.bool (x.toList == s.toList)) ∧ w = w' := by
  go_enter Try.func166, Try.ntmps166
  go_wp2_with fail
  go_ret
  exact ⟨rfl, rfl⟩
set_option maxHeartbeats 800000 in
theorem idx_any (A : Option Addr) (n c : Nat) (ss : List ByteArray) (s : ByteArray) (β : Nat) (w : World) (B : Nat) (h : SR w B A n (ss.map Value.string)) (hn : n ≤ 1048576) (hc : w.cell? ⟨β, 0, none⟩ = some (.string s)) :
    Calls Try.prog 197 #[.slice A n c, .func (.func 166) #[] #[.pointer (some ⟨β, 0, none⟩)]] w fun e w' => e = .returned (.int .i64 (ixF ss s)) ∧ w = w' := by
  have HL := Lib.hid h.strlen
  have HC := Lib.hid (fun x => is_any s x β w hc)
  clear hc
  go_enter Try.func197, Try.ntmps197
  go_wp2_with fail
  go_loopw [8] (fun i wr => ∃ k : Nat, k ≤ n ∧ i = .int .i64 k ∧ (∀ (j : Nat) u, j < k → ss[j]? = some u → u ≠ s) ∧ w = wr) (fun i _ => n - (intOf i).toNat)
  case atStart => exact ⟨0, Nat.zero_le _, rfl, fun j u hj => absurd hj (by omega), rfl⟩
  case round =>
    obtain ⟨k, hk, rfl, hno, rfl⟩ := hrel
    have HNo := Lib.hid hno
    clear hno
    by_cases hlt : k < n
    · obtain ⟨b, off, u, rfl, hb, hx, hc⟩ := h.str hlt
      have CU := HC.out u
      cases heq : (u.toList == s.toList) with
      | true =>
        rw [heq] at CU
        have HY := Lib.hid (ixF_at (by rw [hx, str_eq heq]) HNo.out)
        clear hx
        go_wp2_with fail
        refine CU.mono ?_
        rintro e w1 ⟨rfl, rfl⟩
        clear CU
        go_wp2_with fail
        go_ret
        exact ⟨by rw [HY.out]; rfl, rfl⟩
      | false =>
        rw [heq] at CU
        have HN : Hid (∀ (j : Nat) v, j < k + 1 → ss[j]? = some v → v ≠ s) := Lib.hid fun j v hj hv => by
          by_cases e : j = k
          · subst e
            rw [hx] at hv
            injection hv with hv
            subst hv; exact str_ne heq
          · exact HNo.out j v (by omega) hv
        clear hx
        go_wp2_with fail
        refine CU.mono ?_
        rintro e w1 ⟨rfl, rfl⟩
        clear CU
        go_wp2_with fail
        go_roundw
        case rel => exact ⟨k + 1, by omega, by go_num, HN.out, by first | trivial | rfl⟩
        case measure => simp [intOf]; omega
    · have HF := Lib.hid (ixF_no (ss := ss) (s := s) (fun j u hu => HNo.out j u (by have := (List.getElem?_eq_some_iff.1 hu).1; have := HL.out; omega) hu))
      obtain rfl : n = k := by omega
      go_wp2_with fail
      go_ret
      exact ⟨by rw [HF.out]; rfl, rfl⟩
end Go.Proofs.Ytebmhfkpmcflfaa.nl
