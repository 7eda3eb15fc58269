/- Lists that have each of the numbers 0..n-1 once: spec.l2Each, impl.isPermuted. -/
import Derived.Test.YtifialdkjnmfoaaHas
import Derived.Test.YtifialdkjnmfoaaLw
namespace Go.Proofs.Ytifialdkjnmfoaa.pm
open kit bg sg opn strs only hb sig inn ht marks eqs hc hi hw hn rs br bm bw cf lawb lw has
open Go.RowKit
set_option linter.unusedVariables false

theorem cover_le : ∀ (n : Nat) (zs : List Int), (∀ i : Nat, i < n → (i : Int) ∈ zs) → n ≤ zs.length
  | 0, _, _ => Nat.zero_le _
  | n + 1, zs, h => by
    have hn : (n : Int) ∈ zs := h n (Nat.lt_succ_self n)
    have ih := cover_le n (zs.erase (n : Int)) (fun i hi => (List.mem_erase_of_ne (by omega)).2 (h i (by omega)))
    rw [List.length_erase_of_mem hn] at ih
    have : 0 < zs.length := List.length_pos_of_mem hn
    omega
theorem nodup_le : ∀ (n : Nat) (zs : List Int), zs.Nodup → (∀ z ∈ zs, 0 ≤ z ∧ z < n) → zs.length ≤ n
  | 0, zs, _, h => by
    cases zs with
    | nil => exact Nat.le_refl _
    | cons a r => have := h a (List.mem_cons_self ..); omega
  | n + 1, zs, hd, h => by
    by_cases hn : (n : Int) ∈ zs
    · have ih := nodup_le n (zs.erase (n : Int)) (hd.erase _) (fun z hz => by
        have h1 := h z (List.mem_of_mem_erase hz)
        have h2 : z ≠ (n : Int) := fun e => by rw [e] at hz; exact hd.not_mem_erase hz
        omega)
      rw [List.length_erase_of_mem hn] at ih
      omega
    · have ih := nodup_le n zs hd (fun z hz => by
        have h1 := h z hz
        have h2 : z ≠ (n : Int) := fun e => by rw [e] at hz; exact hn hz
        omega)
      omega
/-- each of the numbers is in the list, and it is no longer -/
def EachP (zs : List Int) (n : Nat) : Prop := (∀ i : Nat, i < n → (i : Int) ∈ zs) ∧ zs.length = n
open Classical in
noncomputable def eachB (zs : List Int) (n : Nat) : Bool := decide (EachP zs n)
open Classical in
theorem each_true {zs : List Int} {n : Nat} (h : EachP zs n) : eachB zs n = true := by unfold eachB; exact decide_eq_true h
open Classical in
theorem each_false {zs : List Int} {n : Nat} (h : ¬ EachP zs n) : eachB zs n = false := by unfold eachB; exact decide_eq_false h
open Classical in
theorem each_of {zs : List Int} {n : Nat} (h : eachB zs n = true) : EachP zs n := by unfold eachB at h; exact of_decide_eq_true h
/-- the first k numbers are in bounds and differ -/
def PermK (zs : List Int) (n k : Nat) : Prop := (zs.take k).Nodup ∧ ∀ z ∈ zs.take k, 0 ≤ z ∧ z < n
theorem permK_zero (zs : List Int) (n : Nat) : PermK zs n 0 := ⟨by simp, by simp⟩
theorem permK_next {zs : List Int} {n k : Nat} {z : Int} (h : PermK zs n k) (hz : zs[k]? = some z) (h0 : 0 ≤ z ∧ z < n) (hno : z ∉ zs.take k) : PermK zs n (k + 1) := by
  rw [PermK, take_snoc hz]
  refine ⟨List.nodup_append.2 ⟨h.1, by simp, fun a ha b hb => ?_⟩, fun y hy => ?_⟩
  · rw [List.mem_singleton.1 hb]
    intro e
    rw [e] at ha
    exact hno ha
  · rcases List.mem_append.1 hy with hy | hy
    · exact h.2 y hy
    · rw [List.mem_singleton.1 hy]; exact h0
theorem permK_all {zs : List Int} {n : Nat} (h : PermK zs n n) (hl : zs.length = n) : eachB zs n = true := by
  rw [PermK, List.take_of_length_le (by omega)] at h
  refine each_true ⟨fun i hi => ?_, hl⟩
  by_cases hm : (i : Int) ∈ zs
  · exact hm
  · have := nodup_le n ((i : Int) :: zs) (List.nodup_cons.2 ⟨hm, h.1⟩) (fun z hz => by
      rcases List.mem_cons.1 hz with rfl | hz
      · omega
      · exact h.2 z hz)
    simp at this
    omega
theorem perm_bad {zs : List Int} {n k : Nat} {z : Int} (hz : zs[k]? = some z) (hl : zs.length = n) (h : ¬ (0 ≤ z ∧ z < n) ∨ z ∈ zs.take k) : eachB zs n = false := by
  have hk : k < zs.length := (List.getElem?_eq_some_iff.1 hz).1
  refine each_false (fun he => ?_)
  have := cover_le n (zs.eraseIdx k) (fun i hi => by
    obtain ⟨j, hj⟩ := List.getElem?_of_mem (he.1 i hi)
    refine List.mem_eraseIdx_iff_getElem?.2 ?_
    by_cases e : j = k
    · subst e
      rw [hz] at hj
      injection hj with hj
      rcases h with h | h
      · omega
      · obtain ⟨m, hm⟩ := List.getElem?_of_mem h
        have hmk : m < j := by have := (List.getElem?_eq_some_iff.1 hm).1; rw [List.length_take] at this; omega
        rw [List.getElem?_take_of_lt hmk] at hm
        exact ⟨m, by omega, by rw [hm, hj]⟩
    · exact ⟨j, e, hj⟩)
  rw [List.length_eraseIdx_of_lt hk] at this
  omega

set_option maxHeartbeats 800000 in
theorem l2Each_any (A : Option Addr) (m c : Nat) (zs : List Int) (n : Nat) (w : World) (B : Nat) (h : IntsAt w B A m zs) (hm : m ≤ 1048576) (hn : n ≤ 1048576) :
    Calls Try.prog 90 #[.slice A m c, .int .i64 (n : Int)] w fun e w' => e = .returned (.bool (eachB zs n)) ∧ w = w' := by
  have HL := Lib.hid h.len
  go_enter Try.func90, Try.ntmps90
  go_wp2_with fail
  go_loopw [5] (fun i wr => ∃ k : Nat, k ≤ n ∧ i = .int .i64 k ∧ (∀ j : Nat, j < k → (j : Int) ∈ zs) ∧ w = wr) (fun i _ => n - (intOf i).toNat)
  case atStart => exact ⟨0, Nat.zero_le _, rfl, fun j hj => absurd hj (Nat.not_lt_zero j), rfl⟩
  case round =>
    obtain ⟨k, hk, rfl, hall, rfl⟩ := hrel
    have HA := Lib.hid hall
    clear hall
    by_cases hlt : k < n
    · have C := l1Has_any A m c zs (k : Int) w B h hm
      cases hq : hasB zs (k : Int) with
      | false =>
        rw [hq] at C
        have HN : Hid (eachB zs n = false) := Lib.hid (each_false fun he => by
          have := he.1 k hlt
          unfold hasB at hq
          exact of_decide_eq_false hq this)
        clear hq
        go_wp2_with fail
        refine C.mono ?_
        rintro e w1 ⟨rfl, rfl⟩
        clear C
        go_wp2_with fail
        go_ret
        exact ⟨by rw [HN.out]; rfl, rfl⟩
      | true =>
        rw [hq] at C
        have HY : Hid ((k : Int) ∈ zs) := Lib.hid (by unfold hasB at hq; exact of_decide_eq_true hq)
        clear hq
        go_wp2_with fail
        refine C.mono ?_
        rintro e w1 ⟨rfl, rfl⟩
        clear C
        go_wp2_with fail
        go_roundw
        case rel => exact ⟨k + 1, by omega, by go_num, fun j hj => by
          by_cases e : j = k
          · subst e; exact HY.out
          · exact HA.out j (by omega), by first | trivial | rfl⟩
        case measure => simp [intOf]; omega
    · obtain rfl : k = n := by omega
      by_cases hmn : m = k
      · have HY : Hid (eachB zs k = true) := Lib.hid (each_true ⟨HA.out, by rw [HL.out, hmn]⟩)
        go_wp2_with fail
        go_ret
        exact ⟨by rw [HY.out]; simp [hmn], rfl⟩
      · have HY : Hid (eachB zs k = false) := Lib.hid (each_false fun he => hmn (by rw [← HL.out]; exact he.2))
        go_wp2_with fail
        go_ret
        exact ⟨by rw [HY.out]; simp; omega, rfl⟩

theorem bool_info : (Try.prog.info? 4).map (fun i => (i.zero, i.size, i.bytes)) = some (some (.bool false), 1, 1) := by kernel_rfl
open Classical in
/-- what has been seen of the numbers -/
noncomputable def seenAt (zs : List Int) (k j : Nat) : Value := .bool (decide ((j : Int) ∈ zs.take k))
open Classical in
theorem seenAt_yes {zs : List Int} {k j : Nat} (h : (j : Int) ∈ zs.take k) : seenAt zs k j = .bool true := by unfold seenAt; rw [decide_eq_true h]
open Classical in
theorem seenAt_no {zs : List Int} {k j : Nat} (h : (j : Int) ∉ zs.take k) : seenAt zs k j = .bool false := by unfold seenAt; rw [decide_eq_false h]
set_option maxRecDepth 20000 in
set_option maxHeartbeats 1600000 in
theorem isPermuted_any (A : Option Addr) (m c : Nat) (zs : List Int) (n : Nat) (w : World) (h : IntsAt w w.heap.size A m zs) (hm : m ≤ 1048576) (hn : n ≤ 1048576) (hwf : ∀ z ∈ zs, (Lit.int .i64 z).wf = true) :
    Calls Try.prog 93 #[.slice A m c, .int .i64 (n : Int)] w (Post (eachB zs n) w) := by
  have HL := Lib.hid h.len
  by_cases hmn : m = n
  · subst hmn
    have hmk := fun W => run_make_row' (P := Try.prog) 138 4 (.bool false) 1 Try.underlying138 bool_info rfl .i64 .i64 m (by omega) (by omega) W
    go_enter Try.func93, Try.ntmps93
    go_wp2_with fail
    clear hmk
    go_loopw [16] (fun i wr => ∃ k : Nat, k ≤ m ∧ i = .int .i64 k ∧ PermK zs m k ∧ wr.rowIs w.heap.size 4 m (seenAt zs k) ∧ Below w.heap.size w wr) (fun i _ => m - (intOf i).toNat)
    case atStart => exact ⟨0, Nat.zero_le _, rfl, permK_zero zs m, (World.rowIs_made w (.bool false) m 4).congr (fun j _ => (seenAt_no (by simp)).symm), (Below.refl _ _).alloc (Nat.le_refl _) _⟩
    case round =>
      obtain ⟨k, hk, rfl, hpk, hrow, hbel⟩ := hrel
      have HPk := Lib.hid hpk
      clear hpk
      by_cases hlt : k < m
      · obtain ⟨b, off, z, rfl, hbb, hx, c0⟩ := h.get hlt
        have d0 := (hbel.cell (p := ⟨b, off + k, none⟩) hbb).trans c0
        have HX := Lib.hid hx
        have hw1 : IntKind.i64.wrap ((m : Int) - 1) = (m : Int) - 1 := IntWalk.i64_in _ (by omega)
        have CW := win_any z 0 ((m : Int) - 1) wr
        clear hx c0
        by_cases hin : 0 ≤ z ∧ z ≤ (m : Int) - 1
        · rw [inb_mk hin] at CW
          obtain ⟨j, rfl⟩ : ∃ j : Nat, z = j := ⟨z.toNat, by omega⟩
          have hjm : j < m := by omega
          by_cases hs : (j : Int) ∈ zs.take k
          · have HN := Lib.hid (perm_bad HX.out HL.out (.inr hs))
            have hcell : wr.cell? ⟨w.heap.size, j, none⟩ = some (.bool true) := (hrow.cell hjm).trans (by rw [seenAt_yes hs])
            clear hrow hs
            go_wp2_with fail
            refine CW.mono ?_
            rintro e w1 ⟨rfl, rfl⟩
            clear CW
            go_wp2_with fail
            go_ret
            exact ⟨by rw [HN.out]; rfl, hbel⟩
          · have HP := Lib.hid (permK_next HPk.out HX.out ⟨by omega, by omega⟩ hs)
            have hcell : wr.cell? ⟨w.heap.size, j, none⟩ = some (.bool false) := (hrow.cell hjm).trans (by rw [seenAt_no hs])
            have hfz := hrow.frozen j
            have HRow := Lib.hid (hrow.set j (.bool true))
            have HB := Lib.hid (hbel.setCell (p := ⟨w.heap.size, j, none⟩) (Nat.le_refl _) (.bool true))
            have HTk := Lib.hid (take_snoc HX.out)
            clear hrow hs hbel
            go_wp2_with fail
            refine CW.mono ?_
            rintro e w1 ⟨rfl, rfl⟩
            clear CW
            go_wp2_with fail
            go_roundw
            case rel =>
              refine ⟨k + 1, by omega, by go_num, HP.out, HRow.out.congr (fun i hi => ?_), HB.out⟩
              show (if i = j then _ else seenAt zs k i) = seenAt zs (k + 1) i
              by_cases e : i = j
              · subst e; rw [if_pos rfl, seenAt_yes (by rw [HTk.out]; simp)]
              · rw [if_neg e]
                by_cases e2 : (i : Int) ∈ zs.take k
                · rw [seenAt_yes e2, seenAt_yes (by rw [HTk.out]; exact List.mem_append_left _ e2)]
                · rw [seenAt_no e2, seenAt_no (by
                    rw [HTk.out]
                    intro hm2
                    rcases List.mem_append.1 hm2 with h1 | h1
                    · exact e2 h1
                    · have := List.mem_singleton.1 h1; omega)]
            case measure => simp [intOf]; omega
        · rw [inb_not hin] at CW
          have HN := Lib.hid (perm_bad HX.out HL.out (.inl (by omega)))
          clear hrow
          go_wp2_with fail
          refine CW.mono ?_
          rintro e w1 ⟨rfl, rfl⟩
          clear CW
          go_wp2_with fail
          go_ret
          exact ⟨by rw [HN.out]; rfl, hbel⟩
      · obtain rfl : k = m := by omega
        have HY := Lib.hid (permK_all HPk.out HL.out)
        go_wp2_with fail
        go_ret
        exact ⟨by rw [HY.out]; rfl, hbel⟩
  · have HN : Hid (eachB zs n = false) := Lib.hid (each_false fun he => hmn (by rw [← HL.out]; exact he.2))
    go_enter Try.func93, Try.ntmps93
    go_wp2_with fail
    go_ret
    exact ⟨by rw [HN.out]; rfl, Below.refl _ _⟩
end Go.Proofs.Ytifialdkjnmfoaa.pm
