/- Sio Ap. -/
import Derived.Test.YtlhickjlcmiknaaGreatZUs
import Derived.Test.YtlhickjlcmiknaaGreatYc0123
set_option linter.unusedSimpArgs false
set_option linter.unusedVariables false
section
namespace Go.Proofs.YtlhickjlcmiknaaGreat.sio
open kit bg sg opn strs only hb sig isig un over gn nm inn ht gd im pt marks eqs hc hi hw hn rs br bm bw cf lf ib lw cl rt psp pm sb wb mb rl ed rnp lep rnm tp rn ow mrp mrs
open us (own_low)
open Go.RowKit
set_option linter.unusedVariables false
set_option maxRecDepth 20000 in
set_option maxHeartbeats 3200000 in
theorem sio_any (A : Option Addr) (n c : Nat) (zs : List Int) (y : Int) (v : Value) (b : Big) (w : World) (hv : BigAt w w.heap.size v b) (hN : NilV v) (h : IntsAt w w.heap.size A n zs) (hn : n ≤ 1048576) (hy : 0 ≤ y ∧ y ≤ 1048576) (hs : b.sites.length ≤ 1048576) (hp : ∀ p ∈ b.sites, -(n : Int) ≤ p ∧ p ≤ 1048576) :
    Calls Tryz.prog 119 #[v, .int .i64 y, .slice A n c] w fun e w' => ∃ v, e = .returned v ∧ w'.ownsRow w.heap.size 3 1 v b.sites.length ((b.sites.map (pcF zs y)).map (Value.int .i64)) ∧ Below w.heap.size w w' := by
  obtain ⟨A1, n1, c1, A2, n2, c2, A4, n4, c4, A5, n5, c5, rfl, h1, h2, h4, h5⟩ := hv
  have l2 := h2.len
  have HL2 := Lib.hid l2
  have HBox0 : Hid (BoxAt (w.alloc (.cells #[.int .i64 b.roots, .slice A1 n1 c1, .slice A2 n2 c2, .int .i64 b.edges, .slice A4 n4 c4, .slice A5 n5 c5] 34)) w.heap.size 34 (.int .i64 b.roots) (.slice A1 n1 c1) (.slice A2 n2 c2) (.int .i64 b.edges) (.slice A4 n4 c4) (.slice A5 n5 c5)) := Lib.hid (six_new w _ _ _ _ _ _ _)
  have hb0 := (Below.refl w.heap.size w).alloc (Nat.le_refl _) (.cells #[.int .i64 b.roots, .slice A1 n1 c1, .slice A2 n2 c2, .int .i64 b.edges, .slice A4 n4 c4, .slice A5 n5 c5] 34)
  obtain ⟨U, hU⟩ : ∃ U, w.alloc (.cells #[.int .i64 b.roots, .slice A1 n1 c1, .slice A2 n2 c2, .int .i64 b.edges, .slice A4 n4 c4, .slice A5 n5 c5] 34) = U := ⟨_, rfl⟩
  have hUz : U.heap.size = w.heap.size + 1 := by rw [← hU]; simp
  rw [hU] at HBox0 hb0
  have HUq := Lib.hid hU
  have HB0 := Lib.hid hb0
  obtain ⟨i0, hi, hz0, hz1, hz2⟩ := info_parts int_info
  have HI := Lib.hid (And.intro hi (And.intro hz0 (And.intro hz1 hz2)))
  have HOt := Lib.hid (ownsRow_nil_new U 3 1 U.heap.size (Nat.le_refl _))
  rw [hUz] at HOt
  have HbV := Lib.hid ((Below.refl U.heap.size U).alloc (Nat.le_refl _) (.cells #[] 3))
  have hn2 : n2 ≤ 1048576 := by omega
  clear hb0 hU hi hz0 hz1 hz2 l2
  go_enter Tryz.func119, Tryz.ntmps119
  go_wp2_with fail
  rw [HUq.out]
  have hWs : w.heap.size < U.heap.size := by omega
  clear HUq
  go_loopw [7, 8] (fun l i wr => ∃ (k : Nat) (v : Value), k ≤ n2 ∧ i = .int .i64 k ∧ v = l ∧ wr.ownsRow (w.heap.size + 1) 3 1 v k (((b.sites.take k).map (pcF zs y)).map (Value.int .i64)) ∧ Below U.heap.size U wr) (fun _ i _ => n2 - (intOf i).toNat)
  case atStart => exact ⟨0, _, Nat.zero_le _, rfl, rfl, HOt.out, HbV.out⟩
  case round =>
    obtain ⟨k, v, hk, rfl, rfl, hown, hbel⟩ := hrel
    have hbw := HB0.out.trans (hbel.mono HB0.out.size)
    have hwU := hbel.size
    obtain ⟨x0, x1, x2, x3, x4, x5⟩ := (HBox0.out.below hbel hWs).get
    by_cases hlt : k < n2
    · obtain ⟨bs, offs, z, rfl, hbs, hz, cz⟩ := h2.get hlt
      have q := (hbw.cell (p := ⟨bs, offs + k, none⟩) hbs).trans cz
      have hzp := hp z (List.mem_of_getElem? hz)
      obtain ⟨T, hT⟩ : ∃ T, pcF zs y z = T := ⟨_, rfl⟩
      have C := par_any A n c zs y z wr _ (h.below hbw) hzp.1 hn hzp.2 hy
      rw [hT] at C
      obtain ⟨D, hD⟩ : ∃ D, ((b.sites.take k).map (pcF zs y)).map (Value.int .i64) = D := ⟨_, rfl⟩
      have HD : Hid (((b.sites.take (k + 1)).map (pcF zs y)).map (Value.int .i64) = D ++ [.int .i64 T]) := Lib.hid (by rw [take_snoc hz, List.map_append, List.map_append, hD, ← hT]; rfl)
      rw [hD] at hown
      have HBl := Lib.hid hbel
      have HGr := Lib.hid (fun (w1 : World) (hg1 : (wr.alloc (.cells #[.int .i64 T] 3)).grownBy w1 v.ownBlock) => (HBl.out.alloc HBl.out.size (.cells #[.int .i64 T] 3)).grown hg1 (by simp; omega) (fun j hj => by have := (hown.lt j hj).1; omega))
      have e1 : k + 1 ≤ maxLen := by unfold maxLen; omega
      have e2 : (k + 1) * 8 ≤ 140737488355328 := by omega
      clear hz cz hT hD hbel h2 h hp hzp
      go_wp2_with fail
      refine C.mono ?_
      rintro e w2 ⟨rfl, rfl⟩
      clear C
      go_wp2_with (at_builtin; refine wpList_append_own _ rfl _ _ 24 rfl (w.heap.size + 1) 3 i0 (.int .i64 0) 1 8 Tryz.underlying24 HI.out.1 HI.out.2.1 HI.out.2.2.1 HI.out.2.2.2 rfl (by decide) _ _ _ rfl (hown.alloc _) ⟨wr.heap.size, 0, none⟩ 1 1 [.int .i64 T] rfl rfl (cell_one_new _ _ _) (fun x hx => by simp at hx; subst hx; rfl) e1 e2 (by simp; omega) ?_; intro v1 w1 hown1 hgrow1 hnil1; have HB1 := Lib.hid (HGr.out w1 hgrow1); have HO1 := Lib.hid hown1; clear x0 x1 x2 x3 x4 x5 q)
      go_roundw
      case rel => exact ⟨k + 1, _, by omega, by go_num, rfl, by rw [HD.out]; exact HO1.out, HB1.out⟩
      case measure => simp [intOf]; omega
    · obtain rfl : n2 = k := by omega
      rw [List.take_of_length_le (by rw [HL2.out]; exact Nat.le_refl _)] at hown
      have HR := Lib.hid (own_low (B := w.heap.size) hown (Nat.le_succ _))
      have HBw := Lib.hid hbw
      clear hown hbel
      go_wp2_with fail
      go_ret
      rw [HL2.out]
      exact ⟨_, rfl, HR.out, HBw.out⟩
end Go.Proofs.YtlhickjlcmiknaaGreat.sio
end
section
namespace Go.Proofs.YtlhickjlcmiknaaGreat.ap
open kit bg sg opn strs only hb sig isig un over gn nm inn ht gd im pt marks eqs hc hi hw hn rs br bm bw cf lf ib lw cl rt ix sd
open Go.RowKit
set_option linter.unusedVariables false
set_option linter.unusedSimpArgs false
open Classical in
theorem in_of {ss : List ByteArray} {s : ByteArray} (h : inB ss s = true) : s ∈ ss := by unfold inB at h; exact of_decide_eq_true h
open Classical in
theorem not_of {ss : List ByteArray} {s : ByteArray} (h : inB ss s = false) : s ∉ ss := by unfold inB at h; exact of_decide_eq_false h
set_option maxHeartbeats 800000 in
theorem apr_any (A B : Option Addr) (n c m d B1 B2 : Nat) (xs ys : List ByteArray) (w : World) (hA : SR w B1 A n (xs.map Value.string)) (hB : SR w B2 B m (ys.map Value.string)) (hn : n ≤ 1048576) (hm : m ≤ 1048576) :
    Calls Tryz.prog 68 #[.slice A n c, .slice B m d] w fun e w' => e = .returned (.bool (apB xs ys)) ∧ w = w' := by
  have HL := Lib.hid hA.strlen
  have HB := Lib.hid hB
  clear hB
  go_enter Tryz.func68, Tryz.ntmps68
  go_wp2_with fail
  go_loopw [5] (fun i wr => ∃ k : Nat, k ≤ n ∧ i = .int .i64 k ∧ (∀ (j : Nat) u, j < k → xs[j]? = some u → u ∉ ys) ∧ w = wr) (fun i _ => n - (intOf i).toNat)
  case atStart => exact ⟨0, Nat.zero_le _, rfl, fun j u hj => absurd hj (by omega), rfl⟩
  case round =>
    obtain ⟨k, hk, rfl, hno, rfl⟩ := hrel
    have HNo := Lib.hid hno
    clear hno
    by_cases hlt : k < n
    · obtain ⟨b, off, u, rfl, hb, hx, hc⟩ := hA.str hlt
      have CA := l2At_any B m d ys u w _ HB.out hm
      have hI := ixF_inB ys u
      obtain ⟨r, hrr⟩ : ∃ r, ixF ys u = r := ⟨_, rfl⟩
      rw [hrr] at CA hI
      cases hin : inB ys u with
      | true =>
        rw [hin] at hI
        have hr0 : r ≥ 0 := of_decide_eq_true hI
        have HR : Hid (apB xs ys = false) := Lib.hid (ap_not (List.mem_of_getElem? hx) (in_of hin))
        clear hrr hx hin
        go_wp2_with fail
        refine CA.mono ?_
        rintro e w1 ⟨rfl, rfl⟩
        clear CA
        go_wp2_with fail
        go_ret
        exact ⟨by rw [HR.out]; rfl, rfl⟩
      | false =>
        rw [hin] at hI
        have hr0 : ¬ r ≥ 0 := of_decide_eq_false hI
        have HN : Hid (∀ (j : Nat) v, j < k + 1 → xs[j]? = some v → v ∉ ys) := Lib.hid fun j v hj hv => by
          by_cases e : j = k
          · subst e
            rw [hx] at hv
            injection hv with hv
            subst hv
            exact not_of hin
          · exact HNo.out j v (by omega) hv
        clear hrr hx hin
        go_wp2_with fail
        refine CA.mono ?_
        rintro e w1 ⟨rfl, rfl⟩
        clear CA
        go_wp2_with fail
        go_roundw
        case rel => exact ⟨k + 1, by omega, by go_num, HN.out, by first | trivial | rfl⟩
        case measure => simp [intOf]; omega
    · have HF : Hid (apB xs ys = true) := Lib.hid (ap_of fun x hx => by
        obtain ⟨j, hj⟩ := List.mem_iff_getElem?.1 hx
        exact HNo.out j x (by have := (List.getElem?_eq_some_iff.1 hj).1; have := HL.out; omega) hj)
      obtain rfl : n = k := by omega
      go_wp2_with fail
      go_ret
      exact ⟨by rw [HF.out]; rfl, rfl⟩
end Go.Proofs.YtlhickjlcmiknaaGreat.ap
end
